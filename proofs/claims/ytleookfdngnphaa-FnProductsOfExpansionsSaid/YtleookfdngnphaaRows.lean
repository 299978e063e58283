/-
  No cell of these rows narrows 'for every input' (looked for: loops, veiled, ifaces, maps, wideKeys, modest, calm, conditions, laid).
  DERIVED. THE GIVEN ROWS OF THIS SEAT. 10 by the template 'for every input the law returns true; each argument reads behind the call as it read before'; 0 by the template 'total and deterministic' (their statements: YtleookfdngnphaaTotals.lean).
  GIVEN WITH THE SEED: the statements are not yours to turn. If you find one false, say at which input.
  Laid BY PROGRAM, IN A SANDBOX (cutbox-rows.mjs): the forced cells as the released guide's own fill.sh prints them over the translation 7366eb4878cf5347… (all of the seat's roots in one cut). By AI agents, Wed Nov 11 2026. No macro, syntax, notation, axiom, sorry.
-/
import Derived.Test.YtleookfdngnphaaChecked
import GoSem.Claim
import GoSem.ClaimJoined
import GoSem.ClaimMapViews
import Derived.JoinedTies
import Derived.KernelRfl
namespace Go.Proofs.Ytleookfdngnphaa
/- THE CELL 'sum', in the pinned program and in every row, IS THE sha256 OF THE DUMP (.gsa) THAT YtleookfdngnphaaProg.lean LOADS. Nothing in Lean hashes anything: it is a label: what it is worth is what the hold of that sum in a sandbox is worth. -/
noncomputable def Try.pinned : Pinned := { name := "ytleookfdngnphaa", sum := "7366eb4878cf5347e32ecf5ad008faa086769db43b510be7aabe1409fb697b19", checked := Try.checked }
namespace Rows
def none {H : Type} : Left H := { results := [], args := [] }

/-- 'laws.FnDoublings': WHATEVER THE INPUT: true; the input reads as it did. -/
def fnDoublingsSpec : ChangeSpec := { name := "fnDoublings", fn := fun _ => fun
  | [d1, d2] => { results := [.lit (.bool true)], args := [d1, d2] }
  | _ => none }
def fnDoublingsRow : OpenClaim := { program := "ytleookfdngnphaa", sum := "7366eb4878cf5347e32ecf5ad008faa086769db43b510be7aabe1409fb697b19", func := "loop.example/g01107/laws.FnDoublings", spec := "fnDoublings", unfollowed := true, recurses := true, apart := false }
def FnDoublingsSaid : Prop := fnDoublingsRow.holds Try.pinned (OpenSpec.ofChange fnDoublingsSpec)

/-- ITS FALSE NEIGHBOUR: 'it returns false'. Refute it at one input. -/
def fnDoublingsWrong : ChangeSpec := { name := "fnDoublings", fn := fun _ => fun
  | [d1, d2] => { results := [.lit (.bool false)], args := [d1, d2] }
  | _ => none }
def FnDoublingsWrongFalsely : Prop := fnDoublingsRow.holds Try.pinned (OpenSpec.ofChange fnDoublingsWrong)

/-- 'laws.FnAuxiliaries': WHATEVER THE INPUT: true; the input reads as it did. -/
def fnAuxiliariesSpec : ChangeSpec := { name := "fnAuxiliaries", fn := fun _ => fun
  | [d1, d2] => { results := [.lit (.bool true)], args := [d1, d2] }
  | _ => none }
def fnAuxiliariesRow : OpenClaim := { program := "ytleookfdngnphaa", sum := "7366eb4878cf5347e32ecf5ad008faa086769db43b510be7aabe1409fb697b19", func := "loop.example/g01107/laws.FnAuxiliaries", spec := "fnAuxiliaries", inPlace := ["maps.clone"], unfollowed := true, recurses := true, apart := false }
def FnAuxiliariesSaid : Prop := fnAuxiliariesRow.holds Try.pinned (OpenSpec.ofChange fnAuxiliariesSpec)

/-- ITS FALSE NEIGHBOUR: 'it returns false'. Refute it at one input. -/
def fnAuxiliariesWrong : ChangeSpec := { name := "fnAuxiliaries", fn := fun _ => fun
  | [d1, d2] => { results := [.lit (.bool false)], args := [d1, d2] }
  | _ => none }
def FnAuxiliariesWrongFalsely : Prop := fnAuxiliariesRow.holds Try.pinned (OpenSpec.ofChange fnAuxiliariesWrong)

/-- 'laws.FnProductsOfExpansions': WHATEVER THE INPUT: true; the input reads as it did. -/
def fnProductsOfExpansionsSpec : ChangeSpec := { name := "fnProductsOfExpansions", fn := fun _ => fun
  | [d1, d2] => { results := [.lit (.bool true)], args := [d1, d2] }
  | _ => none }
def fnProductsOfExpansionsRow : OpenClaim := { program := "ytleookfdngnphaa", sum := "7366eb4878cf5347e32ecf5ad008faa086769db43b510be7aabe1409fb697b19", func := "loop.example/g01107/laws.FnProductsOfExpansions", spec := "fnProductsOfExpansions", unfollowed := true, recurses := true, apart := false }
def FnProductsOfExpansionsSaid : Prop := fnProductsOfExpansionsRow.holds Try.pinned (OpenSpec.ofChange fnProductsOfExpansionsSpec)

/-- ITS FALSE NEIGHBOUR: 'it returns false'. Refute it at one input. -/
def fnProductsOfExpansionsWrong : ChangeSpec := { name := "fnProductsOfExpansions", fn := fun _ => fun
  | [d1, d2] => { results := [.lit (.bool false)], args := [d1, d2] }
  | _ => none }
def FnProductsOfExpansionsWrongFalsely : Prop := fnProductsOfExpansionsRow.holds Try.pinned (OpenSpec.ofChange fnProductsOfExpansionsWrong)

/-- 'laws.FnNextNumbers': WHATEVER THE INPUT: true; the input reads as it did. -/
def fnNextNumbersSpec : ChangeSpec := { name := "fnNextNumbers", fn := fun _ => fun
  | [d1, d2] => { results := [.lit (.bool true)], args := [d1, d2] }
  | _ => none }
def fnNextNumbersRow : OpenClaim := { program := "ytleookfdngnphaa", sum := "7366eb4878cf5347e32ecf5ad008faa086769db43b510be7aabe1409fb697b19", func := "loop.example/g01107/laws.FnNextNumbers", spec := "fnNextNumbers", apart := false }
def FnNextNumbersSaid : Prop := fnNextNumbersRow.holds Try.pinned (OpenSpec.ofChange fnNextNumbersSpec)

/-- ITS FALSE NEIGHBOUR: 'it returns false'. Refute it at one input. -/
def fnNextNumbersWrong : ChangeSpec := { name := "fnNextNumbers", fn := fun _ => fun
  | [d1, d2] => { results := [.lit (.bool false)], args := [d1, d2] }
  | _ => none }
def FnNextNumbersWrongFalsely : Prop := fnNextNumbersRow.holds Try.pinned (OpenSpec.ofChange fnNextNumbersWrong)

/-- 'laws.FnExactNearestBelow': WHATEVER THE INPUT: true; the input reads as it did. -/
def fnExactNearestBelowSpec : ChangeSpec := { name := "fnExactNearestBelow", fn := fun _ => fun
  | [d1, d2] => { results := [.lit (.bool true)], args := [d1, d2] }
  | _ => none }
def fnExactNearestBelowRow : OpenClaim := { program := "ytleookfdngnphaa", sum := "7366eb4878cf5347e32ecf5ad008faa086769db43b510be7aabe1409fb697b19", func := "loop.example/g01107/laws.FnExactNearestBelow", spec := "fnExactNearestBelow", unfollowed := true, recurses := true, apart := false }
def FnExactNearestBelowSaid : Prop := fnExactNearestBelowRow.holds Try.pinned (OpenSpec.ofChange fnExactNearestBelowSpec)

/-- ITS FALSE NEIGHBOUR: 'it returns false'. Refute it at one input. -/
def fnExactNearestBelowWrong : ChangeSpec := { name := "fnExactNearestBelow", fn := fun _ => fun
  | [d1, d2] => { results := [.lit (.bool false)], args := [d1, d2] }
  | _ => none }
def FnExactNearestBelowWrongFalsely : Prop := fnExactNearestBelowRow.holds Try.pinned (OpenSpec.ofChange fnExactNearestBelowWrong)

/-- 'laws.FnExactNearestDifferent': WHATEVER THE INPUT: true; the input reads as it did. -/
def fnExactNearestDifferentSpec : ChangeSpec := { name := "fnExactNearestDifferent", fn := fun _ => fun
  | [d1, d2] => { results := [.lit (.bool true)], args := [d1, d2] }
  | _ => none }
def fnExactNearestDifferentRow : OpenClaim := { program := "ytleookfdngnphaa", sum := "7366eb4878cf5347e32ecf5ad008faa086769db43b510be7aabe1409fb697b19", func := "loop.example/g01107/laws.FnExactNearestDifferent", spec := "fnExactNearestDifferent", unfollowed := true, recurses := true, apart := false }
def FnExactNearestDifferentSaid : Prop := fnExactNearestDifferentRow.holds Try.pinned (OpenSpec.ofChange fnExactNearestDifferentSpec)

/-- ITS FALSE NEIGHBOUR: 'it returns false'. Refute it at one input. -/
def fnExactNearestDifferentWrong : ChangeSpec := { name := "fnExactNearestDifferent", fn := fun _ => fun
  | [d1, d2] => { results := [.lit (.bool false)], args := [d1, d2] }
  | _ => none }
def FnExactNearestDifferentWrongFalsely : Prop := fnExactNearestDifferentRow.holds Try.pinned (OpenSpec.ofChange fnExactNearestDifferentWrong)

/-- 'laws.FnExactGapBelow': WHATEVER THE INPUT: true; the input reads as it did. -/
def fnExactGapBelowSpec : ChangeSpec := { name := "fnExactGapBelow", fn := fun _ => fun
  | [d1, d2] => { results := [.lit (.bool true)], args := [d1, d2] }
  | _ => none }
def fnExactGapBelowRow : OpenClaim := { program := "ytleookfdngnphaa", sum := "7366eb4878cf5347e32ecf5ad008faa086769db43b510be7aabe1409fb697b19", func := "loop.example/g01107/laws.FnExactGapBelow", spec := "fnExactGapBelow", unfollowed := true, recurses := true, apart := false }
def FnExactGapBelowSaid : Prop := fnExactGapBelowRow.holds Try.pinned (OpenSpec.ofChange fnExactGapBelowSpec)

/-- ITS FALSE NEIGHBOUR: 'it returns false'. Refute it at one input. -/
def fnExactGapBelowWrong : ChangeSpec := { name := "fnExactGapBelow", fn := fun _ => fun
  | [d1, d2] => { results := [.lit (.bool false)], args := [d1, d2] }
  | _ => none }
def FnExactGapBelowWrongFalsely : Prop := fnExactGapBelowRow.holds Try.pinned (OpenSpec.ofChange fnExactGapBelowWrong)

/-- 'laws.FnNearestSums': WHATEVER THE INPUT: true; the input reads as it did. -/
def fnNearestSumsSpec : ChangeSpec := { name := "fnNearestSums", fn := fun _ => fun
  | [d1, d2] => { results := [.lit (.bool true)], args := [d1, d2] }
  | _ => none }
def fnNearestSumsRow : OpenClaim := { program := "ytleookfdngnphaa", sum := "7366eb4878cf5347e32ecf5ad008faa086769db43b510be7aabe1409fb697b19", func := "loop.example/g01107/laws.FnNearestSums", spec := "fnNearestSums", unfollowed := true, recurses := true, apart := false }
def FnNearestSumsSaid : Prop := fnNearestSumsRow.holds Try.pinned (OpenSpec.ofChange fnNearestSumsSpec)

/-- ITS FALSE NEIGHBOUR: 'it returns false'. Refute it at one input. -/
def fnNearestSumsWrong : ChangeSpec := { name := "fnNearestSums", fn := fun _ => fun
  | [d1, d2] => { results := [.lit (.bool false)], args := [d1, d2] }
  | _ => none }
def FnNearestSumsWrongFalsely : Prop := fnNearestSumsRow.holds Try.pinned (OpenSpec.ofChange fnNearestSumsWrong)

/-- 'laws.FnExactLeastAbove': WHATEVER THE INPUT: true; the input reads as it did. -/
def fnExactLeastAboveSpec : ChangeSpec := { name := "fnExactLeastAbove", fn := fun _ => fun
  | [d1, d2, d3] => { results := [.lit (.bool true)], args := [d1, d2, d3] }
  | _ => none }
def fnExactLeastAboveRow : OpenClaim := { program := "ytleookfdngnphaa", sum := "7366eb4878cf5347e32ecf5ad008faa086769db43b510be7aabe1409fb697b19", func := "loop.example/g01107/laws.FnExactLeastAbove", spec := "fnExactLeastAbove", unfollowed := true, recurses := true, apart := false }
def FnExactLeastAboveSaid : Prop := fnExactLeastAboveRow.holds Try.pinned (OpenSpec.ofChange fnExactLeastAboveSpec)

/-- ITS FALSE NEIGHBOUR: 'it returns false'. Refute it at one input. -/
def fnExactLeastAboveWrong : ChangeSpec := { name := "fnExactLeastAbove", fn := fun _ => fun
  | [d1, d2, d3] => { results := [.lit (.bool false)], args := [d1, d2, d3] }
  | _ => none }
def FnExactLeastAboveWrongFalsely : Prop := fnExactLeastAboveRow.holds Try.pinned (OpenSpec.ofChange fnExactLeastAboveWrong)

/-- 'laws.FnLeastSumsAbove': WHATEVER THE INPUT: true; the input reads as it did. -/
def fnLeastSumsAboveSpec : ChangeSpec := { name := "fnLeastSumsAbove", fn := fun _ => fun
  | [d1, d2] => { results := [.lit (.bool true)], args := [d1, d2] }
  | _ => none }
def fnLeastSumsAboveRow : OpenClaim := { program := "ytleookfdngnphaa", sum := "7366eb4878cf5347e32ecf5ad008faa086769db43b510be7aabe1409fb697b19", func := "loop.example/g01107/laws.FnLeastSumsAbove", spec := "fnLeastSumsAbove", unfollowed := true, recurses := true, apart := false }
def FnLeastSumsAboveSaid : Prop := fnLeastSumsAboveRow.holds Try.pinned (OpenSpec.ofChange fnLeastSumsAboveSpec)

/-- ITS FALSE NEIGHBOUR: 'it returns false'. Refute it at one input. -/
def fnLeastSumsAboveWrong : ChangeSpec := { name := "fnLeastSumsAbove", fn := fun _ => fun
  | [d1, d2] => { results := [.lit (.bool false)], args := [d1, d2] }
  | _ => none }
def FnLeastSumsAboveWrongFalsely : Prop := fnLeastSumsAboveRow.holds Try.pinned (OpenSpec.ofChange fnLeastSumsAboveWrong)

/- THE SECOND FORM. 'bulk': how many values and letters a reading holds, each counted each time it is reached (what is shared counts as often as it is met; a slice's spare places count too). A statement '..UptoSaid' is the law's where the arguments, and the package variables that the reading takes, are together of bulk at most 1048576: NARROWER than '..Said'. Prove '..Said' where nothing that the law and all that it calls make is longer than what came in: it says more and counts as full. Else prove '..UptoSaid'. A law counts once. -/
mutual
def uptoBulk {H : Type} : DataW H → Nat
  | .lit (.string bytes) => bytes.length + 1
  | .lit _ => 1
  | .nil => 1
  | .ptr d => uptoBulk d + 1
  | .slice elems spare => uptoBulkAll elems + uptoBulkAll spare + 1
  | .agg parts => uptoBulkAll parts + 1
  | .iface _ d => uptoBulk d + 1
  | .map entries => uptoBulkEntries entries + 1
  | .held _ => 1
def uptoBulkAll {H : Type} : List (DataW H) → Nat
  | [] => 0
  | d :: r => uptoBulk d + uptoBulkAll r
def uptoBulkEntries {H : Type} : List (Lit × DataW H) → Nat
  | [] => 0
  | x :: r => uptoBulkEntry x + uptoBulkEntries r
def uptoBulkEntry {H : Type} : Lit × DataW H → Nat
  | (.string bytes, d) => bytes.length + uptoBulk d + 1
  | (_, d) => uptoBulk d + 1
 end
def uptoSmall : (H : Type) → List (DataW H) → Bool := fun _ ds => decide (uptoBulkAll ds ≤ 1048576)
def OpenSpec.upto (s : _root_.Go.ChangeSpec) : _root_.Go.OpenSpec := { _root_.Go.OpenSpec.ofChange s with cond := some uptoSmall }

/-- 'laws.FnDoublings', WHERE WHAT IT READS IS OF BULK AT MOST 1048576: true; the input reads as it did. -/
def fnDoublingsUptoRow : OpenClaim := { program := "ytleookfdngnphaa", sum := "7366eb4878cf5347e32ecf5ad008faa086769db43b510be7aabe1409fb697b19", func := "loop.example/g01107/laws.FnDoublings", spec := "fnDoublings", unfollowed := true, recurses := true, apart := false, narrowed := true }
def FnDoublingsUptoSaid : Prop := fnDoublingsUptoRow.holds Try.pinned (OpenSpec.upto fnDoublingsSpec)

/-- 'laws.FnAuxiliaries', WHERE WHAT IT READS IS OF BULK AT MOST 1048576: true; the input reads as it did. -/
def fnAuxiliariesUptoRow : OpenClaim := { program := "ytleookfdngnphaa", sum := "7366eb4878cf5347e32ecf5ad008faa086769db43b510be7aabe1409fb697b19", func := "loop.example/g01107/laws.FnAuxiliaries", spec := "fnAuxiliaries", inPlace := ["maps.clone"], unfollowed := true, recurses := true, apart := false, narrowed := true }
def FnAuxiliariesUptoSaid : Prop := fnAuxiliariesUptoRow.holds Try.pinned (OpenSpec.upto fnAuxiliariesSpec)

/-- 'laws.FnProductsOfExpansions', WHERE WHAT IT READS IS OF BULK AT MOST 1048576: true; the input reads as it did. -/
def fnProductsOfExpansionsUptoRow : OpenClaim := { program := "ytleookfdngnphaa", sum := "7366eb4878cf5347e32ecf5ad008faa086769db43b510be7aabe1409fb697b19", func := "loop.example/g01107/laws.FnProductsOfExpansions", spec := "fnProductsOfExpansions", unfollowed := true, recurses := true, apart := false, narrowed := true }
def FnProductsOfExpansionsUptoSaid : Prop := fnProductsOfExpansionsUptoRow.holds Try.pinned (OpenSpec.upto fnProductsOfExpansionsSpec)

/-- 'laws.FnNextNumbers', WHERE WHAT IT READS IS OF BULK AT MOST 1048576: true; the input reads as it did. -/
def fnNextNumbersUptoRow : OpenClaim := { program := "ytleookfdngnphaa", sum := "7366eb4878cf5347e32ecf5ad008faa086769db43b510be7aabe1409fb697b19", func := "loop.example/g01107/laws.FnNextNumbers", spec := "fnNextNumbers", apart := false, narrowed := true }
def FnNextNumbersUptoSaid : Prop := fnNextNumbersUptoRow.holds Try.pinned (OpenSpec.upto fnNextNumbersSpec)

/-- 'laws.FnExactNearestBelow', WHERE WHAT IT READS IS OF BULK AT MOST 1048576: true; the input reads as it did. -/
def fnExactNearestBelowUptoRow : OpenClaim := { program := "ytleookfdngnphaa", sum := "7366eb4878cf5347e32ecf5ad008faa086769db43b510be7aabe1409fb697b19", func := "loop.example/g01107/laws.FnExactNearestBelow", spec := "fnExactNearestBelow", unfollowed := true, recurses := true, apart := false, narrowed := true }
def FnExactNearestBelowUptoSaid : Prop := fnExactNearestBelowUptoRow.holds Try.pinned (OpenSpec.upto fnExactNearestBelowSpec)

/-- 'laws.FnExactNearestDifferent', WHERE WHAT IT READS IS OF BULK AT MOST 1048576: true; the input reads as it did. -/
def fnExactNearestDifferentUptoRow : OpenClaim := { program := "ytleookfdngnphaa", sum := "7366eb4878cf5347e32ecf5ad008faa086769db43b510be7aabe1409fb697b19", func := "loop.example/g01107/laws.FnExactNearestDifferent", spec := "fnExactNearestDifferent", unfollowed := true, recurses := true, apart := false, narrowed := true }
def FnExactNearestDifferentUptoSaid : Prop := fnExactNearestDifferentUptoRow.holds Try.pinned (OpenSpec.upto fnExactNearestDifferentSpec)

/-- 'laws.FnExactGapBelow', WHERE WHAT IT READS IS OF BULK AT MOST 1048576: true; the input reads as it did. -/
def fnExactGapBelowUptoRow : OpenClaim := { program := "ytleookfdngnphaa", sum := "7366eb4878cf5347e32ecf5ad008faa086769db43b510be7aabe1409fb697b19", func := "loop.example/g01107/laws.FnExactGapBelow", spec := "fnExactGapBelow", unfollowed := true, recurses := true, apart := false, narrowed := true }
def FnExactGapBelowUptoSaid : Prop := fnExactGapBelowUptoRow.holds Try.pinned (OpenSpec.upto fnExactGapBelowSpec)

/-- 'laws.FnNearestSums', WHERE WHAT IT READS IS OF BULK AT MOST 1048576: true; the input reads as it did. -/
def fnNearestSumsUptoRow : OpenClaim := { program := "ytleookfdngnphaa", sum := "7366eb4878cf5347e32ecf5ad008faa086769db43b510be7aabe1409fb697b19", func := "loop.example/g01107/laws.FnNearestSums", spec := "fnNearestSums", unfollowed := true, recurses := true, apart := false, narrowed := true }
def FnNearestSumsUptoSaid : Prop := fnNearestSumsUptoRow.holds Try.pinned (OpenSpec.upto fnNearestSumsSpec)

/-- 'laws.FnExactLeastAbove', WHERE WHAT IT READS IS OF BULK AT MOST 1048576: true; the input reads as it did. -/
def fnExactLeastAboveUptoRow : OpenClaim := { program := "ytleookfdngnphaa", sum := "7366eb4878cf5347e32ecf5ad008faa086769db43b510be7aabe1409fb697b19", func := "loop.example/g01107/laws.FnExactLeastAbove", spec := "fnExactLeastAbove", unfollowed := true, recurses := true, apart := false, narrowed := true }
def FnExactLeastAboveUptoSaid : Prop := fnExactLeastAboveUptoRow.holds Try.pinned (OpenSpec.upto fnExactLeastAboveSpec)

/-- 'laws.FnLeastSumsAbove', WHERE WHAT IT READS IS OF BULK AT MOST 1048576: true; the input reads as it did. -/
def fnLeastSumsAboveUptoRow : OpenClaim := { program := "ytleookfdngnphaa", sum := "7366eb4878cf5347e32ecf5ad008faa086769db43b510be7aabe1409fb697b19", func := "loop.example/g01107/laws.FnLeastSumsAbove", spec := "fnLeastSumsAbove", unfollowed := true, recurses := true, apart := false, narrowed := true }
def FnLeastSumsAboveUptoSaid : Prop := fnLeastSumsAboveUptoRow.holds Try.pinned (OpenSpec.upto fnLeastSumsAboveSpec)

end Rows
end Go.Proofs.Ytleookfdngnphaa
