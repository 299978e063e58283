/-
  No cell of these rows narrows 'for every input' (looked for: loops, veiled, ifaces, maps, wideKeys, modest, calm, conditions, laid).
  DERIVED. THE GIVEN ROWS OF THIS SEAT. 11 by the template 'for every input the law returns true; each argument reads behind the call as it read before'; 0 by the template 'total and deterministic' (their statements: YtbjblkfibinenacTotals.lean).
  GIVEN WITH THE SEED: the statements are not yours to turn. If you find one false, say at which input.
  Laid BY PROGRAM, IN A SANDBOX (cutbox-rows.mjs): the forced cells as the released guide's own fill.sh prints them over the translation babb255326933a9b… (all of the seat's roots in one cut). By AI agents, Wed Nov 11 2026. No macro, syntax, notation, axiom, sorry.
-/
import Derived.Test.YtbjblkfibinenacChecked
import GoSem.Claim
import GoSem.ClaimJoined
import GoSem.ClaimMapViews
import Derived.JoinedTies
import Derived.KernelRfl
namespace Go.Proofs.Ytbjblkfibinenac
/- THE CELL 'sum', in the pinned program and in every row, IS THE sha256 OF THE DUMP (.gsa) THAT YtbjblkfibinenacProg.lean LOADS. Nothing in Lean hashes anything: it is a label: what it is worth is what the hold of that sum in a sandbox is worth. -/
noncomputable def Try.pinned : Pinned := { name := "ytbjblkfibinenac", sum := "babb255326933a9b4fffb4c9986d584bb9f681e6a1b5728f3c62549f9ed5d4db", checked := Try.checked }
namespace Rows
def none {H : Type} : Left H := { results := [], args := [] }

/-- 'laws.FnExactGreedyFrom': WHATEVER THE INPUT: true; the input reads as it did. -/
def fnExactGreedyFromSpec : ChangeSpec := { name := "fnExactGreedyFrom", fn := fun _ => fun
  | [d1, d2] => { results := [.lit (.bool true)], args := [d1, d2] }
  | _ => none }
def fnExactGreedyFromRow : OpenClaim := { program := "ytbjblkfibinenac", sum := "babb255326933a9b4fffb4c9986d584bb9f681e6a1b5728f3c62549f9ed5d4db", func := "loop.example/g01107/laws.FnExactGreedyFrom", spec := "fnExactGreedyFrom", unfollowed := true, recurses := true, apart := false }
def FnExactGreedyFromSaid : Prop := fnExactGreedyFromRow.holds Try.pinned (OpenSpec.ofChange fnExactGreedyFromSpec)

/-- ITS FALSE NEIGHBOUR: 'it returns false'. Refute it at one input. -/
def fnExactGreedyFromWrong : ChangeSpec := { name := "fnExactGreedyFrom", fn := fun _ => fun
  | [d1, d2] => { results := [.lit (.bool false)], args := [d1, d2] }
  | _ => none }
def FnExactGreedyFromWrongFalsely : Prop := fnExactGreedyFromRow.holds Try.pinned (OpenSpec.ofChange fnExactGreedyFromWrong)

/-- 'laws.FnExactIsGreedy': WHATEVER THE INPUT: true; the input reads as it did. -/
def fnExactIsGreedySpec : ChangeSpec := { name := "fnExactIsGreedy", fn := fun _ => fun
  | [d] => { results := [.lit (.bool true)], args := [d] }
  | _ => none }
def fnExactIsGreedyRow : OpenClaim := { program := "ytbjblkfibinenac", sum := "babb255326933a9b4fffb4c9986d584bb9f681e6a1b5728f3c62549f9ed5d4db", func := "loop.example/g01107/laws.FnExactIsGreedy", spec := "fnExactIsGreedy", unfollowed := true, recurses := true, apart := false }
def FnExactIsGreedySaid : Prop := fnExactIsGreedyRow.holds Try.pinned (OpenSpec.ofChange fnExactIsGreedySpec)

/-- ITS FALSE NEIGHBOUR: 'it returns false'. Refute it at one input. -/
def fnExactIsGreedyWrong : ChangeSpec := { name := "fnExactIsGreedy", fn := fun _ => fun
  | [d] => { results := [.lit (.bool false)], args := [d] }
  | _ => none }
def FnExactIsGreedyWrongFalsely : Prop := fnExactIsGreedyRow.holds Try.pinned (OpenSpec.ofChange fnExactIsGreedyWrong)

/-- 'laws.FnExactOddGreedy': WHATEVER THE INPUT: true; the input reads as it did. -/
def fnExactOddGreedySpec : ChangeSpec := { name := "fnExactOddGreedy", fn := fun _ => fun
  | [d1, d2] => { results := [.lit (.bool true)], args := [d1, d2] }
  | _ => none }
def fnExactOddGreedyRow : OpenClaim := { program := "ytbjblkfibinenac", sum := "babb255326933a9b4fffb4c9986d584bb9f681e6a1b5728f3c62549f9ed5d4db", func := "loop.example/g01107/laws.FnExactOddGreedy", spec := "fnExactOddGreedy", apart := false }
def FnExactOddGreedySaid : Prop := fnExactOddGreedyRow.holds Try.pinned (OpenSpec.ofChange fnExactOddGreedySpec)

/-- ITS FALSE NEIGHBOUR: 'it returns false'. Refute it at one input. -/
def fnExactOddGreedyWrong : ChangeSpec := { name := "fnExactOddGreedy", fn := fun _ => fun
  | [d1, d2] => { results := [.lit (.bool false)], args := [d1, d2] }
  | _ => none }
def FnExactOddGreedyWrongFalsely : Prop := fnExactOddGreedyRow.holds Try.pinned (OpenSpec.ofChange fnExactOddGreedyWrong)

/-- 'laws.FnGreedyEnds': WHATEVER THE INPUT: true; the input reads as it did. -/
def fnGreedyEndsSpec : ChangeSpec := { name := "fnGreedyEnds", fn := fun _ => fun
  | [d1, d2] => { results := [.lit (.bool true)], args := [d1, d2] }
  | _ => none }
def fnGreedyEndsRow : OpenClaim := { program := "ytbjblkfibinenac", sum := "babb255326933a9b4fffb4c9986d584bb9f681e6a1b5728f3c62549f9ed5d4db", func := "loop.example/g01107/laws.FnGreedyEnds", spec := "fnGreedyEnds", unfollowed := true, recurses := true, apart := false }
def FnGreedyEndsSaid : Prop := fnGreedyEndsRow.holds Try.pinned (OpenSpec.ofChange fnGreedyEndsSpec)

/-- ITS FALSE NEIGHBOUR: 'it returns false'. Refute it at one input. -/
def fnGreedyEndsWrong : ChangeSpec := { name := "fnGreedyEnds", fn := fun _ => fun
  | [d1, d2] => { results := [.lit (.bool false)], args := [d1, d2] }
  | _ => none }
def FnGreedyEndsWrongFalsely : Prop := fnGreedyEndsRow.holds Try.pinned (OpenSpec.ofChange fnGreedyEndsWrong)

/-- 'laws.FnGreedyFromNumbers': WHATEVER THE INPUT: true; the input reads as it did. -/
def fnGreedyFromNumbersSpec : ChangeSpec := { name := "fnGreedyFromNumbers", fn := fun _ => fun
  | [d1, d2] => { results := [.lit (.bool true)], args := [d1, d2] }
  | _ => none }
def fnGreedyFromNumbersRow : OpenClaim := { program := "ytbjblkfibinenac", sum := "babb255326933a9b4fffb4c9986d584bb9f681e6a1b5728f3c62549f9ed5d4db", func := "loop.example/g01107/laws.FnGreedyFromNumbers", spec := "fnGreedyFromNumbers", unfollowed := true, recurses := true, apart := false }
def FnGreedyFromNumbersSaid : Prop := fnGreedyFromNumbersRow.holds Try.pinned (OpenSpec.ofChange fnGreedyFromNumbersSpec)

/-- ITS FALSE NEIGHBOUR: 'it returns false'. Refute it at one input. -/
def fnGreedyFromNumbersWrong : ChangeSpec := { name := "fnGreedyFromNumbers", fn := fun _ => fun
  | [d1, d2] => { results := [.lit (.bool false)], args := [d1, d2] }
  | _ => none }
def FnGreedyFromNumbersWrongFalsely : Prop := fnGreedyFromNumbersRow.holds Try.pinned (OpenSpec.ofChange fnGreedyFromNumbersWrong)

/-- 'laws.FnSylvesterNumbers': WHATEVER THE INPUT: true; the input reads as it did. -/
def fnSylvesterNumbersSpec : ChangeSpec := { name := "fnSylvesterNumbers", fn := fun _ => fun
  | [d1, d2] => { results := [.lit (.bool true)], args := [d1, d2] }
  | _ => none }
def fnSylvesterNumbersRow : OpenClaim := { program := "ytbjblkfibinenac", sum := "babb255326933a9b4fffb4c9986d584bb9f681e6a1b5728f3c62549f9ed5d4db", func := "loop.example/g01107/laws.FnSylvesterNumbers", spec := "fnSylvesterNumbers", unfollowed := true, recurses := true, apart := false }
def FnSylvesterNumbersSaid : Prop := fnSylvesterNumbersRow.holds Try.pinned (OpenSpec.ofChange fnSylvesterNumbersSpec)

/-- ITS FALSE NEIGHBOUR: 'it returns false'. Refute it at one input. -/
def fnSylvesterNumbersWrong : ChangeSpec := { name := "fnSylvesterNumbers", fn := fun _ => fun
  | [d1, d2] => { results := [.lit (.bool false)], args := [d1, d2] }
  | _ => none }
def FnSylvesterNumbersWrongFalsely : Prop := fnSylvesterNumbersRow.holds Try.pinned (OpenSpec.ofChange fnSylvesterNumbersWrong)

/-- 'laws.FnOddGreedyTerms': WHATEVER THE INPUT: true; the input reads as it did. -/
def fnOddGreedyTermsSpec : ChangeSpec := { name := "fnOddGreedyTerms", fn := fun _ => fun
  | [d1, d2] => { results := [.lit (.bool true)], args := [d1, d2] }
  | _ => none }
def fnOddGreedyTermsRow : OpenClaim := { program := "ytbjblkfibinenac", sum := "babb255326933a9b4fffb4c9986d584bb9f681e6a1b5728f3c62549f9ed5d4db", func := "loop.example/g01107/laws.FnOddGreedyTerms", spec := "fnOddGreedyTerms", apart := false }
def FnOddGreedyTermsSaid : Prop := fnOddGreedyTermsRow.holds Try.pinned (OpenSpec.ofChange fnOddGreedyTermsSpec)

/-- ITS FALSE NEIGHBOUR: 'it returns false'. Refute it at one input. -/
def fnOddGreedyTermsWrong : ChangeSpec := { name := "fnOddGreedyTerms", fn := fun _ => fun
  | [d1, d2] => { results := [.lit (.bool false)], args := [d1, d2] }
  | _ => none }
def FnOddGreedyTermsWrongFalsely : Prop := fnOddGreedyTermsRow.holds Try.pinned (OpenSpec.ofChange fnOddGreedyTermsWrong)

/-- 'laws.FnExactGolombExpansion': WHATEVER THE INPUT: true; the input reads as it did. -/
def fnExactGolombExpansionSpec : ChangeSpec := { name := "fnExactGolombExpansion", fn := fun _ => fun
  | [d] => { results := [.lit (.bool true)], args := [d] }
  | _ => none }
def fnExactGolombExpansionRow : OpenClaim := { program := "ytbjblkfibinenac", sum := "babb255326933a9b4fffb4c9986d584bb9f681e6a1b5728f3c62549f9ed5d4db", func := "loop.example/g01107/laws.FnExactGolombExpansion", spec := "fnExactGolombExpansion", unfollowed := true, recurses := true, apart := false }
def FnExactGolombExpansionSaid : Prop := fnExactGolombExpansionRow.holds Try.pinned (OpenSpec.ofChange fnExactGolombExpansionSpec)

/-- ITS FALSE NEIGHBOUR: 'it returns false'. Refute it at one input. -/
def fnExactGolombExpansionWrong : ChangeSpec := { name := "fnExactGolombExpansion", fn := fun _ => fun
  | [d] => { results := [.lit (.bool false)], args := [d] }
  | _ => none }
def FnExactGolombExpansionWrongFalsely : Prop := fnExactGolombExpansionRow.holds Try.pinned (OpenSpec.ofChange fnExactGolombExpansionWrong)

/-- 'laws.FnExactBinaryExpansion': WHATEVER THE INPUT: true; the input reads as it did. -/
def fnExactBinaryExpansionSpec : ChangeSpec := { name := "fnExactBinaryExpansion", fn := fun _ => fun
  | [d] => { results := [.lit (.bool true)], args := [d] }
  | _ => none }
def fnExactBinaryExpansionRow : OpenClaim := { program := "ytbjblkfibinenac", sum := "babb255326933a9b4fffb4c9986d584bb9f681e6a1b5728f3c62549f9ed5d4db", func := "loop.example/g01107/laws.FnExactBinaryExpansion", spec := "fnExactBinaryExpansion", unfollowed := true, recurses := true, apart := false }
def FnExactBinaryExpansionSaid : Prop := fnExactBinaryExpansionRow.holds Try.pinned (OpenSpec.ofChange fnExactBinaryExpansionSpec)

/-- ITS FALSE NEIGHBOUR: 'it returns false'. Refute it at one input. -/
def fnExactBinaryExpansionWrong : ChangeSpec := { name := "fnExactBinaryExpansion", fn := fun _ => fun
  | [d] => { results := [.lit (.bool false)], args := [d] }
  | _ => none }
def FnExactBinaryExpansionWrongFalsely : Prop := fnExactBinaryExpansionRow.holds Try.pinned (OpenSpec.ofChange fnExactBinaryExpansionWrong)

/-- 'laws.FnExactFactorialExpansion': WHATEVER THE INPUT: true; the input reads as it did. -/
def fnExactFactorialExpansionSpec : ChangeSpec := { name := "fnExactFactorialExpansion", fn := fun _ => fun
  | [d] => { results := [.lit (.bool true)], args := [d] }
  | _ => none }
def fnExactFactorialExpansionRow : OpenClaim := { program := "ytbjblkfibinenac", sum := "babb255326933a9b4fffb4c9986d584bb9f681e6a1b5728f3c62549f9ed5d4db", func := "loop.example/g01107/laws.FnExactFactorialExpansion", spec := "fnExactFactorialExpansion", unfollowed := true, recurses := true, apart := false }
def FnExactFactorialExpansionSaid : Prop := fnExactFactorialExpansionRow.holds Try.pinned (OpenSpec.ofChange fnExactFactorialExpansionSpec)

/-- ITS FALSE NEIGHBOUR: 'it returns false'. Refute it at one input. -/
def fnExactFactorialExpansionWrong : ChangeSpec := { name := "fnExactFactorialExpansion", fn := fun _ => fun
  | [d] => { results := [.lit (.bool false)], args := [d] }
  | _ => none }
def FnExactFactorialExpansionWrongFalsely : Prop := fnExactFactorialExpansionRow.holds Try.pinned (OpenSpec.ofChange fnExactFactorialExpansionWrong)

/-- 'laws.FnExactMergeAll': WHATEVER THE INPUT: true; the input reads as it did. -/
def fnExactMergeAllSpec : ChangeSpec := { name := "fnExactMergeAll", fn := fun _ => fun
  | [d] => { results := [.lit (.bool true)], args := [d] }
  | _ => none }
def fnExactMergeAllRow : OpenClaim := { program := "ytbjblkfibinenac", sum := "babb255326933a9b4fffb4c9986d584bb9f681e6a1b5728f3c62549f9ed5d4db", func := "loop.example/g01107/laws.FnExactMergeAll", spec := "fnExactMergeAll", apart := false }
def FnExactMergeAllSaid : Prop := fnExactMergeAllRow.holds Try.pinned (OpenSpec.ofChange fnExactMergeAllSpec)

/-- ITS FALSE NEIGHBOUR: 'it returns false'. Refute it at one input. -/
def fnExactMergeAllWrong : ChangeSpec := { name := "fnExactMergeAll", fn := fun _ => fun
  | [d] => { results := [.lit (.bool false)], args := [d] }
  | _ => none }
def FnExactMergeAllWrongFalsely : Prop := fnExactMergeAllRow.holds Try.pinned (OpenSpec.ofChange fnExactMergeAllWrong)

/- THE SECOND FORM. 'bulk': how many values and letters a reading holds, each counted each time it is reached (what is shared counts as often as it is met; a slice's spare places count too). A statement '..UptoSaid' is the law's where the arguments, and the package variables that the reading takes, are together of bulk at most 1048576: NARROWER than '..Said'. Prove '..Said' where nothing that the law and all that it calls make is longer than what came in: it says more and counts as full. Else prove '..UptoSaid'. A law counts once. -/
mutual
def uptoBulk {H : Type} : DataW H → Nat
  | .lit (.string bytes) => bytes.length + 1
  | .lit _ => 1
  | .nil => 1
  | .ptr d => uptoBulk d + 1
  | .slice elems spare => uptoBulkAll elems + uptoBulkAll spare + 1
  | .agg parts => uptoBulkAll parts + 1
  | .iface _ d => uptoBulk d + 1
  | .map entries => uptoBulkEntries entries + 1
  | .held _ => 1
def uptoBulkAll {H : Type} : List (DataW H) → Nat
  | [] => 0
  | d :: r => uptoBulk d + uptoBulkAll r
def uptoBulkEntries {H : Type} : List (Lit × DataW H) → Nat
  | [] => 0
  | x :: r => uptoBulkEntry x + uptoBulkEntries r
def uptoBulkEntry {H : Type} : Lit × DataW H → Nat
  | (.string bytes, d) => bytes.length + uptoBulk d + 1
  | (_, d) => uptoBulk d + 1
 end
def uptoSmall : (H : Type) → List (DataW H) → Bool := fun _ ds => decide (uptoBulkAll ds ≤ 1048576)
def OpenSpec.upto (s : _root_.Go.ChangeSpec) : _root_.Go.OpenSpec := { _root_.Go.OpenSpec.ofChange s with cond := some uptoSmall }

/-- 'laws.FnExactGreedyFrom', WHERE WHAT IT READS IS OF BULK AT MOST 1048576: true; the input reads as it did. -/
def fnExactGreedyFromUptoRow : OpenClaim := { program := "ytbjblkfibinenac", sum := "babb255326933a9b4fffb4c9986d584bb9f681e6a1b5728f3c62549f9ed5d4db", func := "loop.example/g01107/laws.FnExactGreedyFrom", spec := "fnExactGreedyFrom", unfollowed := true, recurses := true, apart := false, narrowed := true }
def FnExactGreedyFromUptoSaid : Prop := fnExactGreedyFromUptoRow.holds Try.pinned (OpenSpec.upto fnExactGreedyFromSpec)

/-- 'laws.FnExactIsGreedy', WHERE WHAT IT READS IS OF BULK AT MOST 1048576: true; the input reads as it did. -/
def fnExactIsGreedyUptoRow : OpenClaim := { program := "ytbjblkfibinenac", sum := "babb255326933a9b4fffb4c9986d584bb9f681e6a1b5728f3c62549f9ed5d4db", func := "loop.example/g01107/laws.FnExactIsGreedy", spec := "fnExactIsGreedy", unfollowed := true, recurses := true, apart := false, narrowed := true }
def FnExactIsGreedyUptoSaid : Prop := fnExactIsGreedyUptoRow.holds Try.pinned (OpenSpec.upto fnExactIsGreedySpec)

/-- 'laws.FnExactOddGreedy', WHERE WHAT IT READS IS OF BULK AT MOST 1048576: true; the input reads as it did. -/
def fnExactOddGreedyUptoRow : OpenClaim := { program := "ytbjblkfibinenac", sum := "babb255326933a9b4fffb4c9986d584bb9f681e6a1b5728f3c62549f9ed5d4db", func := "loop.example/g01107/laws.FnExactOddGreedy", spec := "fnExactOddGreedy", apart := false, narrowed := true }
def FnExactOddGreedyUptoSaid : Prop := fnExactOddGreedyUptoRow.holds Try.pinned (OpenSpec.upto fnExactOddGreedySpec)

/-- 'laws.FnGreedyEnds', WHERE WHAT IT READS IS OF BULK AT MOST 1048576: true; the input reads as it did. -/
def fnGreedyEndsUptoRow : OpenClaim := { program := "ytbjblkfibinenac", sum := "babb255326933a9b4fffb4c9986d584bb9f681e6a1b5728f3c62549f9ed5d4db", func := "loop.example/g01107/laws.FnGreedyEnds", spec := "fnGreedyEnds", unfollowed := true, recurses := true, apart := false, narrowed := true }
def FnGreedyEndsUptoSaid : Prop := fnGreedyEndsUptoRow.holds Try.pinned (OpenSpec.upto fnGreedyEndsSpec)

/-- 'laws.FnGreedyFromNumbers', WHERE WHAT IT READS IS OF BULK AT MOST 1048576: true; the input reads as it did. -/
def fnGreedyFromNumbersUptoRow : OpenClaim := { program := "ytbjblkfibinenac", sum := "babb255326933a9b4fffb4c9986d584bb9f681e6a1b5728f3c62549f9ed5d4db", func := "loop.example/g01107/laws.FnGreedyFromNumbers", spec := "fnGreedyFromNumbers", unfollowed := true, recurses := true, apart := false, narrowed := true }
def FnGreedyFromNumbersUptoSaid : Prop := fnGreedyFromNumbersUptoRow.holds Try.pinned (OpenSpec.upto fnGreedyFromNumbersSpec)

/-- 'laws.FnSylvesterNumbers', WHERE WHAT IT READS IS OF BULK AT MOST 1048576: true; the input reads as it did. -/
def fnSylvesterNumbersUptoRow : OpenClaim := { program := "ytbjblkfibinenac", sum := "babb255326933a9b4fffb4c9986d584bb9f681e6a1b5728f3c62549f9ed5d4db", func := "loop.example/g01107/laws.FnSylvesterNumbers", spec := "fnSylvesterNumbers", unfollowed := true, recurses := true, apart := false, narrowed := true }
def FnSylvesterNumbersUptoSaid : Prop := fnSylvesterNumbersUptoRow.holds Try.pinned (OpenSpec.upto fnSylvesterNumbersSpec)

/-- 'laws.FnOddGreedyTerms', WHERE WHAT IT READS IS OF BULK AT MOST 1048576: true; the input reads as it did. -/
def fnOddGreedyTermsUptoRow : OpenClaim := { program := "ytbjblkfibinenac", sum := "babb255326933a9b4fffb4c9986d584bb9f681e6a1b5728f3c62549f9ed5d4db", func := "loop.example/g01107/laws.FnOddGreedyTerms", spec := "fnOddGreedyTerms", apart := false, narrowed := true }
def FnOddGreedyTermsUptoSaid : Prop := fnOddGreedyTermsUptoRow.holds Try.pinned (OpenSpec.upto fnOddGreedyTermsSpec)

/-- 'laws.FnExactGolombExpansion', WHERE WHAT IT READS IS OF BULK AT MOST 1048576: true; the input reads as it did. -/
def fnExactGolombExpansionUptoRow : OpenClaim := { program := "ytbjblkfibinenac", sum := "babb255326933a9b4fffb4c9986d584bb9f681e6a1b5728f3c62549f9ed5d4db", func := "loop.example/g01107/laws.FnExactGolombExpansion", spec := "fnExactGolombExpansion", unfollowed := true, recurses := true, apart := false, narrowed := true }
def FnExactGolombExpansionUptoSaid : Prop := fnExactGolombExpansionUptoRow.holds Try.pinned (OpenSpec.upto fnExactGolombExpansionSpec)

/-- 'laws.FnExactBinaryExpansion', WHERE WHAT IT READS IS OF BULK AT MOST 1048576: true; the input reads as it did. -/
def fnExactBinaryExpansionUptoRow : OpenClaim := { program := "ytbjblkfibinenac", sum := "babb255326933a9b4fffb4c9986d584bb9f681e6a1b5728f3c62549f9ed5d4db", func := "loop.example/g01107/laws.FnExactBinaryExpansion", spec := "fnExactBinaryExpansion", unfollowed := true, recurses := true, apart := false, narrowed := true }
def FnExactBinaryExpansionUptoSaid : Prop := fnExactBinaryExpansionUptoRow.holds Try.pinned (OpenSpec.upto fnExactBinaryExpansionSpec)

/-- 'laws.FnExactFactorialExpansion', WHERE WHAT IT READS IS OF BULK AT MOST 1048576: true; the input reads as it did. -/
def fnExactFactorialExpansionUptoRow : OpenClaim := { program := "ytbjblkfibinenac", sum := "babb255326933a9b4fffb4c9986d584bb9f681e6a1b5728f3c62549f9ed5d4db", func := "loop.example/g01107/laws.FnExactFactorialExpansion", spec := "fnExactFactorialExpansion", unfollowed := true, recurses := true, apart := false, narrowed := true }
def FnExactFactorialExpansionUptoSaid : Prop := fnExactFactorialExpansionUptoRow.holds Try.pinned (OpenSpec.upto fnExactFactorialExpansionSpec)

/-- 'laws.FnExactMergeAll', WHERE WHAT IT READS IS OF BULK AT MOST 1048576: true; the input reads as it did. -/
def fnExactMergeAllUptoRow : OpenClaim := { program := "ytbjblkfibinenac", sum := "babb255326933a9b4fffb4c9986d584bb9f681e6a1b5728f3c62549f9ed5d4db", func := "loop.example/g01107/laws.FnExactMergeAll", spec := "fnExactMergeAll", apart := false, narrowed := true }
def FnExactMergeAllUptoSaid : Prop := fnExactMergeAllUptoRow.holds Try.pinned (OpenSpec.upto fnExactMergeAllSpec)

end Rows
end Go.Proofs.Ytbjblkfibinenac
