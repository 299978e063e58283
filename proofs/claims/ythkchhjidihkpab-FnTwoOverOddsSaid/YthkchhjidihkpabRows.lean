/-
  No cell of these rows narrows 'for every input' (looked for: loops, veiled, ifaces, maps, wideKeys, modest, calm, conditions, laid).
  DERIVED. THE GIVEN ROWS OF THIS SEAT. 10 by the template 'for every input the law returns true; each argument reads behind the call as it read before'; 0 by the template 'total and deterministic' (their statements: YthkchhjidihkpabTotals.lean).
  GIVEN WITH THE SEED: the statements are not yours to turn. If you find one false, say at which input.
  Laid BY PROGRAM, IN A SANDBOX (cutbox-rows.mjs): the forced cells as the released guide's own fill.sh prints them over the translation a50de7616327bacd… (all of the seat's roots in one cut). By AI agents, Wed Nov 11 2026. No macro, syntax, notation, axiom, sorry.
-/
import Derived.Test.YthkchhjidihkpabChecked
import GoSem.Claim
import GoSem.ClaimJoined
import GoSem.ClaimMapViews
import Derived.JoinedTies
import Derived.KernelRfl
namespace Go.Proofs.Ythkchhjidihkpab
/- THE CELL 'sum', in the pinned program and in every row, IS THE sha256 OF THE DUMP (.gsa) THAT YthkchhjidihkpabProg.lean LOADS. Nothing in Lean hashes anything: it is a label: what it is worth is what the hold of that sum in a sandbox is worth. -/
noncomputable def Try.pinned : Pinned := { name := "ythkchhjidihkpab", sum := "a50de7616327bacd346f1302df21b72f7fdfb80a3ee106158a01df55bb15d603", checked := Try.checked }
namespace Rows
def none {H : Type} : Left H := { results := [], args := [] }

/-- 'laws.FnExactTwoOver': WHATEVER THE INPUT: true; the input reads as it did. -/
def fnExactTwoOverSpec : ChangeSpec := { name := "fnExactTwoOver", fn := fun _ => fun
  | [d] => { results := [.lit (.bool true)], args := [d] }
  | _ => none }
def fnExactTwoOverRow : OpenClaim := { program := "ythkchhjidihkpab", sum := "a50de7616327bacd346f1302df21b72f7fdfb80a3ee106158a01df55bb15d603", func := "loop.example/g01107/laws.FnExactTwoOver", spec := "fnExactTwoOver", inPlace := ["maps.clone"], unfollowed := true, recurses := true, apart := false }
def FnExactTwoOverSaid : Prop := fnExactTwoOverRow.holds Try.pinned (OpenSpec.ofChange fnExactTwoOverSpec)

/-- ITS FALSE NEIGHBOUR: 'it returns false'. Refute it at one input. -/
def fnExactTwoOverWrong : ChangeSpec := { name := "fnExactTwoOver", fn := fun _ => fun
  | [d] => { results := [.lit (.bool false)], args := [d] }
  | _ => none }
def FnExactTwoOverWrongFalsely : Prop := fnExactTwoOverRow.holds Try.pinned (OpenSpec.ofChange fnExactTwoOverWrong)

/-- 'laws.FnExactTwoOverBase': WHATEVER THE INPUT: true; the input reads as it did. -/
def fnExactTwoOverBaseSpec : ChangeSpec := { name := "fnExactTwoOverBase", fn := fun _ => fun
  | [d] => { results := [.lit (.bool true)], args := [d] }
  | _ => none }
def fnExactTwoOverBaseRow : OpenClaim := { program := "ythkchhjidihkpab", sum := "a50de7616327bacd346f1302df21b72f7fdfb80a3ee106158a01df55bb15d603", func := "loop.example/g01107/laws.FnExactTwoOverBase", spec := "fnExactTwoOverBase", inPlace := ["maps.clone"], unfollowed := true, recurses := true, apart := false }
def FnExactTwoOverBaseSaid : Prop := fnExactTwoOverBaseRow.holds Try.pinned (OpenSpec.ofChange fnExactTwoOverBaseSpec)

/-- ITS FALSE NEIGHBOUR: 'it returns false'. Refute it at one input. -/
def fnExactTwoOverBaseWrong : ChangeSpec := { name := "fnExactTwoOverBase", fn := fun _ => fun
  | [d] => { results := [.lit (.bool false)], args := [d] }
  | _ => none }
def FnExactTwoOverBaseWrongFalsely : Prop := fnExactTwoOverBaseRow.holds Try.pinned (OpenSpec.ofChange fnExactTwoOverBaseWrong)

/-- 'laws.FnExactCompletionOf': WHATEVER THE INPUT: true; the input reads as it did. -/
def fnExactCompletionOfSpec : ChangeSpec := { name := "fnExactCompletionOf", fn := fun _ => fun
  | [d1, d2, d3] => { results := [.lit (.bool true)], args := [d1, d2, d3] }
  | _ => none }
def fnExactCompletionOfRow : OpenClaim := { program := "ythkchhjidihkpab", sum := "a50de7616327bacd346f1302df21b72f7fdfb80a3ee106158a01df55bb15d603", func := "loop.example/g01107/laws.FnExactCompletionOf", spec := "fnExactCompletionOf", inPlace := ["maps.clone"], unfollowed := true, recurses := true, apart := false }
def FnExactCompletionOfSaid : Prop := fnExactCompletionOfRow.holds Try.pinned (OpenSpec.ofChange fnExactCompletionOfSpec)

/-- ITS FALSE NEIGHBOUR: 'it returns false'. Refute it at one input. -/
def fnExactCompletionOfWrong : ChangeSpec := { name := "fnExactCompletionOf", fn := fun _ => fun
  | [d1, d2, d3] => { results := [.lit (.bool false)], args := [d1, d2, d3] }
  | _ => none }
def FnExactCompletionOfWrongFalsely : Prop := fnExactCompletionOfRow.holds Try.pinned (OpenSpec.ofChange fnExactCompletionOfWrong)

/-- 'laws.FnExactHalvesOf': WHATEVER THE INPUT: true; the input reads as it did. -/
def fnExactHalvesOfSpec : ChangeSpec := { name := "fnExactHalvesOf", fn := fun _ => fun
  | [d] => { results := [.lit (.bool true)], args := [d] }
  | _ => none }
def fnExactHalvesOfRow : OpenClaim := { program := "ythkchhjidihkpab", sum := "a50de7616327bacd346f1302df21b72f7fdfb80a3ee106158a01df55bb15d603", func := "loop.example/g01107/laws.FnExactHalvesOf", spec := "fnExactHalvesOf", recurses := true, apart := false }
def FnExactHalvesOfSaid : Prop := fnExactHalvesOfRow.holds Try.pinned (OpenSpec.ofChange fnExactHalvesOfSpec)

/-- ITS FALSE NEIGHBOUR: 'it returns false'. Refute it at one input. -/
def fnExactHalvesOfWrong : ChangeSpec := { name := "fnExactHalvesOf", fn := fun _ => fun
  | [d] => { results := [.lit (.bool false)], args := [d] }
  | _ => none }
def FnExactHalvesOfWrongFalsely : Prop := fnExactHalvesOfRow.holds Try.pinned (OpenSpec.ofChange fnExactHalvesOfWrong)

/-- 'laws.FnExactTwoThirdsOf': WHATEVER THE INPUT: true; the input reads as it did. -/
def fnExactTwoThirdsOfSpec : ChangeSpec := { name := "fnExactTwoThirdsOf", fn := fun _ => fun
  | [d] => { results := [.lit (.bool true)], args := [d] }
  | _ => none }
def fnExactTwoThirdsOfRow : OpenClaim := { program := "ythkchhjidihkpab", sum := "a50de7616327bacd346f1302df21b72f7fdfb80a3ee106158a01df55bb15d603", func := "loop.example/g01107/laws.FnExactTwoThirdsOf", spec := "fnExactTwoThirdsOf", recurses := true, apart := false }
def FnExactTwoThirdsOfSaid : Prop := fnExactTwoThirdsOfRow.holds Try.pinned (OpenSpec.ofChange fnExactTwoThirdsOfSpec)

/-- ITS FALSE NEIGHBOUR: 'it returns false'. Refute it at one input. -/
def fnExactTwoThirdsOfWrong : ChangeSpec := { name := "fnExactTwoThirdsOf", fn := fun _ => fun
  | [d] => { results := [.lit (.bool false)], args := [d] }
  | _ => none }
def FnExactTwoThirdsOfWrongFalsely : Prop := fnExactTwoThirdsOfRow.holds Try.pinned (OpenSpec.ofChange fnExactTwoThirdsOfWrong)

/-- 'laws.FnExactProductOf': WHATEVER THE INPUT: true; the input reads as it did. -/
def fnExactProductOfSpec : ChangeSpec := { name := "fnExactProductOf", fn := fun _ => fun
  | [d1, d2] => { results := [.lit (.bool true)], args := [d1, d2] }
  | _ => none }
def fnExactProductOfRow : OpenClaim := { program := "ythkchhjidihkpab", sum := "a50de7616327bacd346f1302df21b72f7fdfb80a3ee106158a01df55bb15d603", func := "loop.example/g01107/laws.FnExactProductOf", spec := "fnExactProductOf", recurses := true, apart := false }
def FnExactProductOfSaid : Prop := fnExactProductOfRow.holds Try.pinned (OpenSpec.ofChange fnExactProductOfSpec)

/-- ITS FALSE NEIGHBOUR: 'it returns false'. Refute it at one input. -/
def fnExactProductOfWrong : ChangeSpec := { name := "fnExactProductOf", fn := fun _ => fun
  | [d1, d2] => { results := [.lit (.bool false)], args := [d1, d2] }
  | _ => none }
def FnExactProductOfWrongFalsely : Prop := fnExactProductOfRow.holds Try.pinned (OpenSpec.ofChange fnExactProductOfWrong)

/-- 'laws.FnTwoOverOdds': WHATEVER THE INPUT: true; the input reads as it did. -/
def fnTwoOverOddsSpec : ChangeSpec := { name := "fnTwoOverOdds", fn := fun _ => fun
  | [d1, d2] => { results := [.lit (.bool true)], args := [d1, d2] }
  | _ => none }
def fnTwoOverOddsRow : OpenClaim := { program := "ythkchhjidihkpab", sum := "a50de7616327bacd346f1302df21b72f7fdfb80a3ee106158a01df55bb15d603", func := "loop.example/g01107/laws.FnTwoOverOdds", spec := "fnTwoOverOdds", inPlace := ["maps.clone"], unfollowed := true, recurses := true, apart := false }
def FnTwoOverOddsSaid : Prop := fnTwoOverOddsRow.holds Try.pinned (OpenSpec.ofChange fnTwoOverOddsSpec)

/-- ITS FALSE NEIGHBOUR: 'it returns false'. Refute it at one input. -/
def fnTwoOverOddsWrong : ChangeSpec := { name := "fnTwoOverOdds", fn := fun _ => fun
  | [d1, d2] => { results := [.lit (.bool false)], args := [d1, d2] }
  | _ => none }
def FnTwoOverOddsWrongFalsely : Prop := fnTwoOverOddsRow.holds Try.pinned (OpenSpec.ofChange fnTwoOverOddsWrong)

/-- 'laws.FnAuxiliaries': WHATEVER THE INPUT: true; the input reads as it did. -/
def fnAuxiliariesSpec : ChangeSpec := { name := "fnAuxiliaries", fn := fun _ => fun
  | [d1, d2] => { results := [.lit (.bool true)], args := [d1, d2] }
  | _ => none }
def fnAuxiliariesRow : OpenClaim := { program := "ythkchhjidihkpab", sum := "a50de7616327bacd346f1302df21b72f7fdfb80a3ee106158a01df55bb15d603", func := "loop.example/g01107/laws.FnAuxiliaries", spec := "fnAuxiliaries", inPlace := ["maps.clone"], unfollowed := true, recurses := true, apart := false }
def FnAuxiliariesSaid : Prop := fnAuxiliariesRow.holds Try.pinned (OpenSpec.ofChange fnAuxiliariesSpec)

/-- ITS FALSE NEIGHBOUR: 'it returns false'. Refute it at one input. -/
def fnAuxiliariesWrong : ChangeSpec := { name := "fnAuxiliaries", fn := fun _ => fun
  | [d1, d2] => { results := [.lit (.bool false)], args := [d1, d2] }
  | _ => none }
def FnAuxiliariesWrongFalsely : Prop := fnAuxiliariesRow.holds Try.pinned (OpenSpec.ofChange fnAuxiliariesWrong)

/-- 'laws.FnProductsOfExpansions': WHATEVER THE INPUT: true; the input reads as it did. -/
def fnProductsOfExpansionsSpec : ChangeSpec := { name := "fnProductsOfExpansions", fn := fun _ => fun
  | [d1, d2] => { results := [.lit (.bool true)], args := [d1, d2] }
  | _ => none }
def fnProductsOfExpansionsRow : OpenClaim := { program := "ythkchhjidihkpab", sum := "a50de7616327bacd346f1302df21b72f7fdfb80a3ee106158a01df55bb15d603", func := "loop.example/g01107/laws.FnProductsOfExpansions", spec := "fnProductsOfExpansions", unfollowed := true, recurses := true, apart := false }
def FnProductsOfExpansionsSaid : Prop := fnProductsOfExpansionsRow.holds Try.pinned (OpenSpec.ofChange fnProductsOfExpansionsSpec)

/-- ITS FALSE NEIGHBOUR: 'it returns false'. Refute it at one input. -/
def fnProductsOfExpansionsWrong : ChangeSpec := { name := "fnProductsOfExpansions", fn := fun _ => fun
  | [d1, d2] => { results := [.lit (.bool false)], args := [d1, d2] }
  | _ => none }
def FnProductsOfExpansionsWrongFalsely : Prop := fnProductsOfExpansionsRow.holds Try.pinned (OpenSpec.ofChange fnProductsOfExpansionsWrong)

/-- 'laws.FnExactNearestBelow': WHATEVER THE INPUT: true; the input reads as it did. -/
def fnExactNearestBelowSpec : ChangeSpec := { name := "fnExactNearestBelow", fn := fun _ => fun
  | [d1, d2] => { results := [.lit (.bool true)], args := [d1, d2] }
  | _ => none }
def fnExactNearestBelowRow : OpenClaim := { program := "ythkchhjidihkpab", sum := "a50de7616327bacd346f1302df21b72f7fdfb80a3ee106158a01df55bb15d603", func := "loop.example/g01107/laws.FnExactNearestBelow", spec := "fnExactNearestBelow", unfollowed := true, recurses := true, apart := false }
def FnExactNearestBelowSaid : Prop := fnExactNearestBelowRow.holds Try.pinned (OpenSpec.ofChange fnExactNearestBelowSpec)

/-- ITS FALSE NEIGHBOUR: 'it returns false'. Refute it at one input. -/
def fnExactNearestBelowWrong : ChangeSpec := { name := "fnExactNearestBelow", fn := fun _ => fun
  | [d1, d2] => { results := [.lit (.bool false)], args := [d1, d2] }
  | _ => none }
def FnExactNearestBelowWrongFalsely : Prop := fnExactNearestBelowRow.holds Try.pinned (OpenSpec.ofChange fnExactNearestBelowWrong)

/- THE SECOND FORM. 'bulk': how many values and letters a reading holds, each counted each time it is reached (what is shared counts as often as it is met; a slice's spare places count too). A statement '..UptoSaid' is the law's where the arguments, and the package variables that the reading takes, are together of bulk at most 1048576: NARROWER than '..Said'. Prove '..Said' where nothing that the law and all that it calls make is longer than what came in: it says more and counts as full. Else prove '..UptoSaid'. A law counts once. -/
mutual
def uptoBulk {H : Type} : DataW H → Nat
  | .lit (.string bytes) => bytes.length + 1
  | .lit _ => 1
  | .nil => 1
  | .ptr d => uptoBulk d + 1
  | .slice elems spare => uptoBulkAll elems + uptoBulkAll spare + 1
  | .agg parts => uptoBulkAll parts + 1
  | .iface _ d => uptoBulk d + 1
  | .map entries => uptoBulkEntries entries + 1
  | .held _ => 1
def uptoBulkAll {H : Type} : List (DataW H) → Nat
  | [] => 0
  | d :: r => uptoBulk d + uptoBulkAll r
def uptoBulkEntries {H : Type} : List (Lit × DataW H) → Nat
  | [] => 0
  | x :: r => uptoBulkEntry x + uptoBulkEntries r
def uptoBulkEntry {H : Type} : Lit × DataW H → Nat
  | (.string bytes, d) => bytes.length + uptoBulk d + 1
  | (_, d) => uptoBulk d + 1
 end
def uptoSmall : (H : Type) → List (DataW H) → Bool := fun _ ds => decide (uptoBulkAll ds ≤ 1048576)
def OpenSpec.upto (s : _root_.Go.ChangeSpec) : _root_.Go.OpenSpec := { _root_.Go.OpenSpec.ofChange s with cond := some uptoSmall }

/-- 'laws.FnExactTwoOver', WHERE WHAT IT READS IS OF BULK AT MOST 1048576: true; the input reads as it did. -/
def fnExactTwoOverUptoRow : OpenClaim := { program := "ythkchhjidihkpab", sum := "a50de7616327bacd346f1302df21b72f7fdfb80a3ee106158a01df55bb15d603", func := "loop.example/g01107/laws.FnExactTwoOver", spec := "fnExactTwoOver", inPlace := ["maps.clone"], unfollowed := true, recurses := true, apart := false, narrowed := true }
def FnExactTwoOverUptoSaid : Prop := fnExactTwoOverUptoRow.holds Try.pinned (OpenSpec.upto fnExactTwoOverSpec)

/-- 'laws.FnExactTwoOverBase', WHERE WHAT IT READS IS OF BULK AT MOST 1048576: true; the input reads as it did. -/
def fnExactTwoOverBaseUptoRow : OpenClaim := { program := "ythkchhjidihkpab", sum := "a50de7616327bacd346f1302df21b72f7fdfb80a3ee106158a01df55bb15d603", func := "loop.example/g01107/laws.FnExactTwoOverBase", spec := "fnExactTwoOverBase", inPlace := ["maps.clone"], unfollowed := true, recurses := true, apart := false, narrowed := true }
def FnExactTwoOverBaseUptoSaid : Prop := fnExactTwoOverBaseUptoRow.holds Try.pinned (OpenSpec.upto fnExactTwoOverBaseSpec)

/-- 'laws.FnExactCompletionOf', WHERE WHAT IT READS IS OF BULK AT MOST 1048576: true; the input reads as it did. -/
def fnExactCompletionOfUptoRow : OpenClaim := { program := "ythkchhjidihkpab", sum := "a50de7616327bacd346f1302df21b72f7fdfb80a3ee106158a01df55bb15d603", func := "loop.example/g01107/laws.FnExactCompletionOf", spec := "fnExactCompletionOf", inPlace := ["maps.clone"], unfollowed := true, recurses := true, apart := false, narrowed := true }
def FnExactCompletionOfUptoSaid : Prop := fnExactCompletionOfUptoRow.holds Try.pinned (OpenSpec.upto fnExactCompletionOfSpec)

/-- 'laws.FnExactHalvesOf', WHERE WHAT IT READS IS OF BULK AT MOST 1048576: true; the input reads as it did. -/
def fnExactHalvesOfUptoRow : OpenClaim := { program := "ythkchhjidihkpab", sum := "a50de7616327bacd346f1302df21b72f7fdfb80a3ee106158a01df55bb15d603", func := "loop.example/g01107/laws.FnExactHalvesOf", spec := "fnExactHalvesOf", recurses := true, apart := false, narrowed := true }
def FnExactHalvesOfUptoSaid : Prop := fnExactHalvesOfUptoRow.holds Try.pinned (OpenSpec.upto fnExactHalvesOfSpec)

/-- 'laws.FnExactTwoThirdsOf', WHERE WHAT IT READS IS OF BULK AT MOST 1048576: true; the input reads as it did. -/
def fnExactTwoThirdsOfUptoRow : OpenClaim := { program := "ythkchhjidihkpab", sum := "a50de7616327bacd346f1302df21b72f7fdfb80a3ee106158a01df55bb15d603", func := "loop.example/g01107/laws.FnExactTwoThirdsOf", spec := "fnExactTwoThirdsOf", recurses := true, apart := false, narrowed := true }
def FnExactTwoThirdsOfUptoSaid : Prop := fnExactTwoThirdsOfUptoRow.holds Try.pinned (OpenSpec.upto fnExactTwoThirdsOfSpec)

/-- 'laws.FnExactProductOf', WHERE WHAT IT READS IS OF BULK AT MOST 1048576: true; the input reads as it did. -/
def fnExactProductOfUptoRow : OpenClaim := { program := "ythkchhjidihkpab", sum := "a50de7616327bacd346f1302df21b72f7fdfb80a3ee106158a01df55bb15d603", func := "loop.example/g01107/laws.FnExactProductOf", spec := "fnExactProductOf", recurses := true, apart := false, narrowed := true }
def FnExactProductOfUptoSaid : Prop := fnExactProductOfUptoRow.holds Try.pinned (OpenSpec.upto fnExactProductOfSpec)

/-- 'laws.FnTwoOverOdds', WHERE WHAT IT READS IS OF BULK AT MOST 1048576: true; the input reads as it did. -/
def fnTwoOverOddsUptoRow : OpenClaim := { program := "ythkchhjidihkpab", sum := "a50de7616327bacd346f1302df21b72f7fdfb80a3ee106158a01df55bb15d603", func := "loop.example/g01107/laws.FnTwoOverOdds", spec := "fnTwoOverOdds", inPlace := ["maps.clone"], unfollowed := true, recurses := true, apart := false, narrowed := true }
def FnTwoOverOddsUptoSaid : Prop := fnTwoOverOddsUptoRow.holds Try.pinned (OpenSpec.upto fnTwoOverOddsSpec)

/-- 'laws.FnAuxiliaries', WHERE WHAT IT READS IS OF BULK AT MOST 1048576: true; the input reads as it did. -/
def fnAuxiliariesUptoRow : OpenClaim := { program := "ythkchhjidihkpab", sum := "a50de7616327bacd346f1302df21b72f7fdfb80a3ee106158a01df55bb15d603", func := "loop.example/g01107/laws.FnAuxiliaries", spec := "fnAuxiliaries", inPlace := ["maps.clone"], unfollowed := true, recurses := true, apart := false, narrowed := true }
def FnAuxiliariesUptoSaid : Prop := fnAuxiliariesUptoRow.holds Try.pinned (OpenSpec.upto fnAuxiliariesSpec)

/-- 'laws.FnProductsOfExpansions', WHERE WHAT IT READS IS OF BULK AT MOST 1048576: true; the input reads as it did. -/
def fnProductsOfExpansionsUptoRow : OpenClaim := { program := "ythkchhjidihkpab", sum := "a50de7616327bacd346f1302df21b72f7fdfb80a3ee106158a01df55bb15d603", func := "loop.example/g01107/laws.FnProductsOfExpansions", spec := "fnProductsOfExpansions", unfollowed := true, recurses := true, apart := false, narrowed := true }
def FnProductsOfExpansionsUptoSaid : Prop := fnProductsOfExpansionsUptoRow.holds Try.pinned (OpenSpec.upto fnProductsOfExpansionsSpec)

/-- 'laws.FnExactNearestBelow', WHERE WHAT IT READS IS OF BULK AT MOST 1048576: true; the input reads as it did. -/
def fnExactNearestBelowUptoRow : OpenClaim := { program := "ythkchhjidihkpab", sum := "a50de7616327bacd346f1302df21b72f7fdfb80a3ee106158a01df55bb15d603", func := "loop.example/g01107/laws.FnExactNearestBelow", spec := "fnExactNearestBelow", unfollowed := true, recurses := true, apart := false, narrowed := true }
def FnExactNearestBelowUptoSaid : Prop := fnExactNearestBelowUptoRow.holds Try.pinned (OpenSpec.upto fnExactNearestBelowSpec)

end Rows
end Go.Proofs.Ythkchhjidihkpab
