/-
  No cell of these rows narrows 'for every input' (looked for: loops, veiled, ifaces, maps, wideKeys, modest, calm, conditions, laid).
  DERIVED. THE GIVEN ROWS OF THIS SEAT. 7 by the template 'for every input the law returns true; each argument reads behind the call as it read before'; 0 by the template 'total and deterministic' (their statements: YtbjblkfibinenabTotals.lean).
  GIVEN WITH THE SEED: the statements are not yours to turn. If you find one false, say at which input.
  Laid BY PROGRAM, IN A SANDBOX (cutbox-rows.mjs): the forced cells as the released guide's own fill.sh prints them over the translation 729d68eb3b5bc5fd… (all of the seat's roots in one cut). By AI agents, Wed Nov 11 2026. No macro, syntax, notation, axiom, sorry.
-/
import Derived.Test.YtbjblkfibinenabChecked
import GoSem.Claim
import GoSem.ClaimJoined
import GoSem.ClaimMapViews
import Derived.JoinedTies
import Derived.KernelRfl
namespace Go.Proofs.Ytbjblkfibinenab
/- THE CELL 'sum', in the pinned program and in every row, IS THE sha256 OF THE DUMP (.gsa) THAT YtbjblkfibinenabProg.lean LOADS. Nothing in Lean hashes anything: it is a label: what it is worth is what the hold of that sum in a sandbox is worth. -/
noncomputable def Try.pinned : Pinned := { name := "ytbjblkfibinenab", sum := "729d68eb3b5bc5fd9184e97937e7d9cc3cb1a08ba0da7fe9cd077e3e710e0d94", checked := Try.checked }
namespace Rows
def none {H : Type} : Left H := { results := [], args := [] }

/-- 'laws.FnExactEngelOf': WHATEVER THE INPUT: true; the input reads as it did. -/
def fnExactEngelOfSpec : ChangeSpec := { name := "fnExactEngelOf", fn := fun _ => fun
  | [d] => { results := [.lit (.bool true)], args := [d] }
  | _ => none }
def fnExactEngelOfRow : OpenClaim := { program := "ytbjblkfibinenab", sum := "729d68eb3b5bc5fd9184e97937e7d9cc3cb1a08ba0da7fe9cd077e3e710e0d94", func := "loop.example/g01107/laws.FnExactEngelOf", spec := "fnExactEngelOf", unfollowed := true, recurses := true, apart := false }
def FnExactEngelOfSaid : Prop := fnExactEngelOfRow.holds Try.pinned (OpenSpec.ofChange fnExactEngelOfSpec)

/-- ITS FALSE NEIGHBOUR: 'it returns false'. Refute it at one input. -/
def fnExactEngelOfWrong : ChangeSpec := { name := "fnExactEngelOf", fn := fun _ => fun
  | [d] => { results := [.lit (.bool false)], args := [d] }
  | _ => none }
def FnExactEngelOfWrongFalsely : Prop := fnExactEngelOfRow.holds Try.pinned (OpenSpec.ofChange fnExactEngelOfWrong)

/-- 'laws.FnExactFromEngel': WHATEVER THE INPUT: true; the input reads as it did. -/
def fnExactFromEngelSpec : ChangeSpec := { name := "fnExactFromEngel", fn := fun _ => fun
  | [d] => { results := [.lit (.bool true)], args := [d] }
  | _ => none }
def fnExactFromEngelRow : OpenClaim := { program := "ytbjblkfibinenab", sum := "729d68eb3b5bc5fd9184e97937e7d9cc3cb1a08ba0da7fe9cd077e3e710e0d94", func := "loop.example/g01107/laws.FnExactFromEngel", spec := "fnExactFromEngel", apart := false }
def FnExactFromEngelSaid : Prop := fnExactFromEngelRow.holds Try.pinned (OpenSpec.ofChange fnExactFromEngelSpec)

/-- ITS FALSE NEIGHBOUR: 'it returns false'. Refute it at one input. -/
def fnExactFromEngelWrong : ChangeSpec := { name := "fnExactFromEngel", fn := fun _ => fun
  | [d] => { results := [.lit (.bool false)], args := [d] }
  | _ => none }
def FnExactFromEngelWrongFalsely : Prop := fnExactFromEngelRow.holds Try.pinned (OpenSpec.ofChange fnExactFromEngelWrong)

/-- 'laws.FnExactIsEngel': WHATEVER THE INPUT: true; the input reads as it did. -/
def fnExactIsEngelSpec : ChangeSpec := { name := "fnExactIsEngel", fn := fun _ => fun
  | [d] => { results := [.lit (.bool true)], args := [d] }
  | _ => none }
def fnExactIsEngelRow : OpenClaim := { program := "ytbjblkfibinenab", sum := "729d68eb3b5bc5fd9184e97937e7d9cc3cb1a08ba0da7fe9cd077e3e710e0d94", func := "loop.example/g01107/laws.FnExactIsEngel", spec := "fnExactIsEngel", apart := false }
def FnExactIsEngelSaid : Prop := fnExactIsEngelRow.holds Try.pinned (OpenSpec.ofChange fnExactIsEngelSpec)

/-- ITS FALSE NEIGHBOUR: 'it returns false'. Refute it at one input. -/
def fnExactIsEngelWrong : ChangeSpec := { name := "fnExactIsEngel", fn := fun _ => fun
  | [d] => { results := [.lit (.bool false)], args := [d] }
  | _ => none }
def FnExactIsEngelWrongFalsely : Prop := fnExactIsEngelRow.holds Try.pinned (OpenSpec.ofChange fnExactIsEngelWrong)

/-- 'laws.FnExactEngelTerms': WHATEVER THE INPUT: true; the input reads as it did. -/
def fnExactEngelTermsSpec : ChangeSpec := { name := "fnExactEngelTerms", fn := fun _ => fun
  | [d] => { results := [.lit (.bool true)], args := [d] }
  | _ => none }
def fnExactEngelTermsRow : OpenClaim := { program := "ytbjblkfibinenab", sum := "729d68eb3b5bc5fd9184e97937e7d9cc3cb1a08ba0da7fe9cd077e3e710e0d94", func := "loop.example/g01107/laws.FnExactEngelTerms", spec := "fnExactEngelTerms", unfollowed := true, recurses := true, apart := false }
def FnExactEngelTermsSaid : Prop := fnExactEngelTermsRow.holds Try.pinned (OpenSpec.ofChange fnExactEngelTermsSpec)

/-- ITS FALSE NEIGHBOUR: 'it returns false'. Refute it at one input. -/
def fnExactEngelTermsWrong : ChangeSpec := { name := "fnExactEngelTerms", fn := fun _ => fun
  | [d] => { results := [.lit (.bool false)], args := [d] }
  | _ => none }
def FnExactEngelTermsWrongFalsely : Prop := fnExactEngelTermsRow.holds Try.pinned (OpenSpec.ofChange fnExactEngelTermsWrong)

/-- 'laws.FnExactGrowthHolds': WHATEVER THE INPUT: true; the input reads as it did. -/
def fnExactGrowthHoldsSpec : ChangeSpec := { name := "fnExactGrowthHolds", fn := fun _ => fun
  | [d] => { results := [.lit (.bool true)], args := [d] }
  | _ => none }
def fnExactGrowthHoldsRow : OpenClaim := { program := "ytbjblkfibinenab", sum := "729d68eb3b5bc5fd9184e97937e7d9cc3cb1a08ba0da7fe9cd077e3e710e0d94", func := "loop.example/g01107/laws.FnExactGrowthHolds", spec := "fnExactGrowthHolds", apart := false }
def FnExactGrowthHoldsSaid : Prop := fnExactGrowthHoldsRow.holds Try.pinned (OpenSpec.ofChange fnExactGrowthHoldsSpec)

/-- ITS FALSE NEIGHBOUR: 'it returns false'. Refute it at one input. -/
def fnExactGrowthHoldsWrong : ChangeSpec := { name := "fnExactGrowthHolds", fn := fun _ => fun
  | [d] => { results := [.lit (.bool false)], args := [d] }
  | _ => none }
def FnExactGrowthHoldsWrongFalsely : Prop := fnExactGrowthHoldsRow.holds Try.pinned (OpenSpec.ofChange fnExactGrowthHoldsWrong)

/-- 'laws.FnEngelLists': WHATEVER THE INPUT: true; the input reads as it did. -/
def fnEngelListsSpec : ChangeSpec := { name := "fnEngelLists", fn := fun _ => fun
  | [d1, d2] => { results := [.lit (.bool true)], args := [d1, d2] }
  | _ => none }
def fnEngelListsRow : OpenClaim := { program := "ytbjblkfibinenab", sum := "729d68eb3b5bc5fd9184e97937e7d9cc3cb1a08ba0da7fe9cd077e3e710e0d94", func := "loop.example/g01107/laws.FnEngelLists", spec := "fnEngelLists", unfollowed := true, recurses := true, apart := false }
def FnEngelListsSaid : Prop := fnEngelListsRow.holds Try.pinned (OpenSpec.ofChange fnEngelListsSpec)

/-- ITS FALSE NEIGHBOUR: 'it returns false'. Refute it at one input. -/
def fnEngelListsWrong : ChangeSpec := { name := "fnEngelLists", fn := fun _ => fun
  | [d1, d2] => { results := [.lit (.bool false)], args := [d1, d2] }
  | _ => none }
def FnEngelListsWrongFalsely : Prop := fnEngelListsRow.holds Try.pinned (OpenSpec.ofChange fnEngelListsWrong)

/-- 'laws.FnExactGreedyExpansion': WHATEVER THE INPUT: true; the input reads as it did. -/
def fnExactGreedyExpansionSpec : ChangeSpec := { name := "fnExactGreedyExpansion", fn := fun _ => fun
  | [d] => { results := [.lit (.bool true)], args := [d] }
  | _ => none }
def fnExactGreedyExpansionRow : OpenClaim := { program := "ytbjblkfibinenab", sum := "729d68eb3b5bc5fd9184e97937e7d9cc3cb1a08ba0da7fe9cd077e3e710e0d94", func := "loop.example/g01107/laws.FnExactGreedyExpansion", spec := "fnExactGreedyExpansion", unfollowed := true, recurses := true, apart := false }
def FnExactGreedyExpansionSaid : Prop := fnExactGreedyExpansionRow.holds Try.pinned (OpenSpec.ofChange fnExactGreedyExpansionSpec)

/-- ITS FALSE NEIGHBOUR: 'it returns false'. Refute it at one input. -/
def fnExactGreedyExpansionWrong : ChangeSpec := { name := "fnExactGreedyExpansion", fn := fun _ => fun
  | [d] => { results := [.lit (.bool false)], args := [d] }
  | _ => none }
def FnExactGreedyExpansionWrongFalsely : Prop := fnExactGreedyExpansionRow.holds Try.pinned (OpenSpec.ofChange fnExactGreedyExpansionWrong)

/- THE SECOND FORM. 'bulk': how many values and letters a reading holds, each counted each time it is reached (what is shared counts as often as it is met; a slice's spare places count too). A statement '..UptoSaid' is the law's where the arguments, and the package variables that the reading takes, are together of bulk at most 1048576: NARROWER than '..Said'. Prove '..Said' where nothing that the law and all that it calls make is longer than what came in: it says more and counts as full. Else prove '..UptoSaid'. A law counts once. -/
mutual
def uptoBulk {H : Type} : DataW H → Nat
  | .lit (.string bytes) => bytes.length + 1
  | .lit _ => 1
  | .nil => 1
  | .ptr d => uptoBulk d + 1
  | .slice elems spare => uptoBulkAll elems + uptoBulkAll spare + 1
  | .agg parts => uptoBulkAll parts + 1
  | .iface _ d => uptoBulk d + 1
  | .map entries => uptoBulkEntries entries + 1
  | .held _ => 1
def uptoBulkAll {H : Type} : List (DataW H) → Nat
  | [] => 0
  | d :: r => uptoBulk d + uptoBulkAll r
def uptoBulkEntries {H : Type} : List (Lit × DataW H) → Nat
  | [] => 0
  | x :: r => uptoBulkEntry x + uptoBulkEntries r
def uptoBulkEntry {H : Type} : Lit × DataW H → Nat
  | (.string bytes, d) => bytes.length + uptoBulk d + 1
  | (_, d) => uptoBulk d + 1
 end
def uptoSmall : (H : Type) → List (DataW H) → Bool := fun _ ds => decide (uptoBulkAll ds ≤ 1048576)
def OpenSpec.upto (s : _root_.Go.ChangeSpec) : _root_.Go.OpenSpec := { _root_.Go.OpenSpec.ofChange s with cond := some uptoSmall }

/-- 'laws.FnExactEngelOf', WHERE WHAT IT READS IS OF BULK AT MOST 1048576: true; the input reads as it did. -/
def fnExactEngelOfUptoRow : OpenClaim := { program := "ytbjblkfibinenab", sum := "729d68eb3b5bc5fd9184e97937e7d9cc3cb1a08ba0da7fe9cd077e3e710e0d94", func := "loop.example/g01107/laws.FnExactEngelOf", spec := "fnExactEngelOf", unfollowed := true, recurses := true, apart := false, narrowed := true }
def FnExactEngelOfUptoSaid : Prop := fnExactEngelOfUptoRow.holds Try.pinned (OpenSpec.upto fnExactEngelOfSpec)

/-- 'laws.FnExactFromEngel', WHERE WHAT IT READS IS OF BULK AT MOST 1048576: true; the input reads as it did. -/
def fnExactFromEngelUptoRow : OpenClaim := { program := "ytbjblkfibinenab", sum := "729d68eb3b5bc5fd9184e97937e7d9cc3cb1a08ba0da7fe9cd077e3e710e0d94", func := "loop.example/g01107/laws.FnExactFromEngel", spec := "fnExactFromEngel", apart := false, narrowed := true }
def FnExactFromEngelUptoSaid : Prop := fnExactFromEngelUptoRow.holds Try.pinned (OpenSpec.upto fnExactFromEngelSpec)

/-- 'laws.FnExactIsEngel', WHERE WHAT IT READS IS OF BULK AT MOST 1048576: true; the input reads as it did. -/
def fnExactIsEngelUptoRow : OpenClaim := { program := "ytbjblkfibinenab", sum := "729d68eb3b5bc5fd9184e97937e7d9cc3cb1a08ba0da7fe9cd077e3e710e0d94", func := "loop.example/g01107/laws.FnExactIsEngel", spec := "fnExactIsEngel", apart := false, narrowed := true }
def FnExactIsEngelUptoSaid : Prop := fnExactIsEngelUptoRow.holds Try.pinned (OpenSpec.upto fnExactIsEngelSpec)

/-- 'laws.FnExactEngelTerms', WHERE WHAT IT READS IS OF BULK AT MOST 1048576: true; the input reads as it did. -/
def fnExactEngelTermsUptoRow : OpenClaim := { program := "ytbjblkfibinenab", sum := "729d68eb3b5bc5fd9184e97937e7d9cc3cb1a08ba0da7fe9cd077e3e710e0d94", func := "loop.example/g01107/laws.FnExactEngelTerms", spec := "fnExactEngelTerms", unfollowed := true, recurses := true, apart := false, narrowed := true }
def FnExactEngelTermsUptoSaid : Prop := fnExactEngelTermsUptoRow.holds Try.pinned (OpenSpec.upto fnExactEngelTermsSpec)

/-- 'laws.FnExactGrowthHolds', WHERE WHAT IT READS IS OF BULK AT MOST 1048576: true; the input reads as it did. -/
def fnExactGrowthHoldsUptoRow : OpenClaim := { program := "ytbjblkfibinenab", sum := "729d68eb3b5bc5fd9184e97937e7d9cc3cb1a08ba0da7fe9cd077e3e710e0d94", func := "loop.example/g01107/laws.FnExactGrowthHolds", spec := "fnExactGrowthHolds", apart := false, narrowed := true }
def FnExactGrowthHoldsUptoSaid : Prop := fnExactGrowthHoldsUptoRow.holds Try.pinned (OpenSpec.upto fnExactGrowthHoldsSpec)

/-- 'laws.FnEngelLists', WHERE WHAT IT READS IS OF BULK AT MOST 1048576: true; the input reads as it did. -/
def fnEngelListsUptoRow : OpenClaim := { program := "ytbjblkfibinenab", sum := "729d68eb3b5bc5fd9184e97937e7d9cc3cb1a08ba0da7fe9cd077e3e710e0d94", func := "loop.example/g01107/laws.FnEngelLists", spec := "fnEngelLists", unfollowed := true, recurses := true, apart := false, narrowed := true }
def FnEngelListsUptoSaid : Prop := fnEngelListsUptoRow.holds Try.pinned (OpenSpec.upto fnEngelListsSpec)

/-- 'laws.FnExactGreedyExpansion', WHERE WHAT IT READS IS OF BULK AT MOST 1048576: true; the input reads as it did. -/
def fnExactGreedyExpansionUptoRow : OpenClaim := { program := "ytbjblkfibinenab", sum := "729d68eb3b5bc5fd9184e97937e7d9cc3cb1a08ba0da7fe9cd077e3e710e0d94", func := "loop.example/g01107/laws.FnExactGreedyExpansion", spec := "fnExactGreedyExpansion", unfollowed := true, recurses := true, apart := false, narrowed := true }
def FnExactGreedyExpansionUptoSaid : Prop := fnExactGreedyExpansionUptoRow.holds Try.pinned (OpenSpec.upto fnExactGreedyExpansionSpec)

end Rows
end Go.Proofs.Ytbjblkfibinenab
