/-
  No cell of these rows narrows 'for every input' (looked for: loops, veiled, ifaces, maps, wideKeys, modest, calm, conditions, laid).
  DERIVED. THE GIVEN ROWS OF THIS SEAT. 12 by the template 'for every input the law returns true; each argument reads behind the call as it read before'; 0 by the template 'total and deterministic' (their statements: YtjoibceopngifaaTotals.lean).
  GIVEN WITH THE SEED: the statements are not yours to turn. If you find one false, say at which input.
  Laid BY PROGRAM, IN A SANDBOX (cutbox-rows.mjs): the forced cells as the released guide's own fill.sh prints them over the translation f35ccb1f750c1275… (all of the seat's roots in one cut). By AI agents, Wed Nov 11 2026. No macro, syntax, notation, axiom, sorry.
-/
import Derived.Test.YtjoibceopngifaaChecked
import GoSem.Claim
import GoSem.ClaimJoined
import GoSem.ClaimMapViews
import Derived.JoinedTies
import Derived.KernelRfl
namespace Go.Proofs.Ytjoibceopngifaa
/- THE CELL 'sum', in the pinned program and in every row, IS THE sha256 OF THE DUMP (.gsa) THAT YtjoibceopngifaaProg.lean LOADS. Nothing in Lean hashes anything: it is a label: what it is worth is what the hold of that sum in a sandbox is worth. -/
noncomputable def Try.pinned : Pinned := { name := "ytjoibceopngifaa", sum := "f35ccb1f750c12752666618e17624ae8966108484ca50036b2d9948e808581fd", checked := Try.checked }
namespace Rows
def none {H : Type} : Left H := { results := [], args := [] }

/-- 'laws.FnExactIsFraction': WHATEVER THE INPUT: true; the input reads as it did. -/
def fnExactIsFractionSpec : ChangeSpec := { name := "fnExactIsFraction", fn := fun _ => fun
  | [d] => { results := [.lit (.bool true)], args := [d] }
  | _ => none }
def fnExactIsFractionRow : OpenClaim := { program := "ytjoibceopngifaa", sum := "f35ccb1f750c12752666618e17624ae8966108484ca50036b2d9948e808581fd", func := "loop.example/g01107/laws.FnExactIsFraction", spec := "fnExactIsFraction", apart := false }
def FnExactIsFractionSaid : Prop := fnExactIsFractionRow.holds Try.pinned (OpenSpec.ofChange fnExactIsFractionSpec)

/-- ITS FALSE NEIGHBOUR: 'it returns false'. Refute it at one input. -/
def fnExactIsFractionWrong : ChangeSpec := { name := "fnExactIsFraction", fn := fun _ => fun
  | [d] => { results := [.lit (.bool false)], args := [d] }
  | _ => none }
def FnExactIsFractionWrongFalsely : Prop := fnExactIsFractionRow.holds Try.pinned (OpenSpec.ofChange fnExactIsFractionWrong)

/-- 'laws.FnExactMakeFraction': WHATEVER THE INPUT: true; the input reads as it did. -/
def fnExactMakeFractionSpec : ChangeSpec := { name := "fnExactMakeFraction", fn := fun _ => fun
  | [d1, d2] => { results := [.lit (.bool true)], args := [d1, d2] }
  | _ => none }
def fnExactMakeFractionRow : OpenClaim := { program := "ytjoibceopngifaa", sum := "f35ccb1f750c12752666618e17624ae8966108484ca50036b2d9948e808581fd", func := "loop.example/g01107/laws.FnExactMakeFraction", spec := "fnExactMakeFraction", apart := false }
def FnExactMakeFractionSaid : Prop := fnExactMakeFractionRow.holds Try.pinned (OpenSpec.ofChange fnExactMakeFractionSpec)

/-- ITS FALSE NEIGHBOUR: 'it returns false'. Refute it at one input. -/
def fnExactMakeFractionWrong : ChangeSpec := { name := "fnExactMakeFraction", fn := fun _ => fun
  | [d1, d2] => { results := [.lit (.bool false)], args := [d1, d2] }
  | _ => none }
def FnExactMakeFractionWrongFalsely : Prop := fnExactMakeFractionRow.holds Try.pinned (OpenSpec.ofChange fnExactMakeFractionWrong)

/-- 'laws.FnExactAddFractions': WHATEVER THE INPUT: true; the input reads as it did. -/
def fnExactAddFractionsSpec : ChangeSpec := { name := "fnExactAddFractions", fn := fun _ => fun
  | [d1, d2] => { results := [.lit (.bool true)], args := [d1, d2] }
  | _ => none }
def fnExactAddFractionsRow : OpenClaim := { program := "ytjoibceopngifaa", sum := "f35ccb1f750c12752666618e17624ae8966108484ca50036b2d9948e808581fd", func := "loop.example/g01107/laws.FnExactAddFractions", spec := "fnExactAddFractions", apart := false }
def FnExactAddFractionsSaid : Prop := fnExactAddFractionsRow.holds Try.pinned (OpenSpec.ofChange fnExactAddFractionsSpec)

/-- ITS FALSE NEIGHBOUR: 'it returns false'. Refute it at one input. -/
def fnExactAddFractionsWrong : ChangeSpec := { name := "fnExactAddFractions", fn := fun _ => fun
  | [d1, d2] => { results := [.lit (.bool false)], args := [d1, d2] }
  | _ => none }
def FnExactAddFractionsWrongFalsely : Prop := fnExactAddFractionsRow.holds Try.pinned (OpenSpec.ofChange fnExactAddFractionsWrong)

/-- 'laws.FnExactSubtractFractions': WHATEVER THE INPUT: true; the input reads as it did. -/
def fnExactSubtractFractionsSpec : ChangeSpec := { name := "fnExactSubtractFractions", fn := fun _ => fun
  | [d1, d2] => { results := [.lit (.bool true)], args := [d1, d2] }
  | _ => none }
def fnExactSubtractFractionsRow : OpenClaim := { program := "ytjoibceopngifaa", sum := "f35ccb1f750c12752666618e17624ae8966108484ca50036b2d9948e808581fd", func := "loop.example/g01107/laws.FnExactSubtractFractions", spec := "fnExactSubtractFractions", apart := false }
def FnExactSubtractFractionsSaid : Prop := fnExactSubtractFractionsRow.holds Try.pinned (OpenSpec.ofChange fnExactSubtractFractionsSpec)

/-- ITS FALSE NEIGHBOUR: 'it returns false'. Refute it at one input. -/
def fnExactSubtractFractionsWrong : ChangeSpec := { name := "fnExactSubtractFractions", fn := fun _ => fun
  | [d1, d2] => { results := [.lit (.bool false)], args := [d1, d2] }
  | _ => none }
def FnExactSubtractFractionsWrongFalsely : Prop := fnExactSubtractFractionsRow.holds Try.pinned (OpenSpec.ofChange fnExactSubtractFractionsWrong)

/-- 'laws.FnExactMultiplyFractions': WHATEVER THE INPUT: true; the input reads as it did. -/
def fnExactMultiplyFractionsSpec : ChangeSpec := { name := "fnExactMultiplyFractions", fn := fun _ => fun
  | [d1, d2] => { results := [.lit (.bool true)], args := [d1, d2] }
  | _ => none }
def fnExactMultiplyFractionsRow : OpenClaim := { program := "ytjoibceopngifaa", sum := "f35ccb1f750c12752666618e17624ae8966108484ca50036b2d9948e808581fd", func := "loop.example/g01107/laws.FnExactMultiplyFractions", spec := "fnExactMultiplyFractions", apart := false }
def FnExactMultiplyFractionsSaid : Prop := fnExactMultiplyFractionsRow.holds Try.pinned (OpenSpec.ofChange fnExactMultiplyFractionsSpec)

/-- ITS FALSE NEIGHBOUR: 'it returns false'. Refute it at one input. -/
def fnExactMultiplyFractionsWrong : ChangeSpec := { name := "fnExactMultiplyFractions", fn := fun _ => fun
  | [d1, d2] => { results := [.lit (.bool false)], args := [d1, d2] }
  | _ => none }
def FnExactMultiplyFractionsWrongFalsely : Prop := fnExactMultiplyFractionsRow.holds Try.pinned (OpenSpec.ofChange fnExactMultiplyFractionsWrong)

/-- 'laws.FnExactDivideFractions': WHATEVER THE INPUT: true; the input reads as it did. -/
def fnExactDivideFractionsSpec : ChangeSpec := { name := "fnExactDivideFractions", fn := fun _ => fun
  | [d1, d2] => { results := [.lit (.bool true)], args := [d1, d2] }
  | _ => none }
def fnExactDivideFractionsRow : OpenClaim := { program := "ytjoibceopngifaa", sum := "f35ccb1f750c12752666618e17624ae8966108484ca50036b2d9948e808581fd", func := "loop.example/g01107/laws.FnExactDivideFractions", spec := "fnExactDivideFractions", apart := false }
def FnExactDivideFractionsSaid : Prop := fnExactDivideFractionsRow.holds Try.pinned (OpenSpec.ofChange fnExactDivideFractionsSpec)

/-- ITS FALSE NEIGHBOUR: 'it returns false'. Refute it at one input. -/
def fnExactDivideFractionsWrong : ChangeSpec := { name := "fnExactDivideFractions", fn := fun _ => fun
  | [d1, d2] => { results := [.lit (.bool false)], args := [d1, d2] }
  | _ => none }
def FnExactDivideFractionsWrongFalsely : Prop := fnExactDivideFractionsRow.holds Try.pinned (OpenSpec.ofChange fnExactDivideFractionsWrong)

/-- 'laws.FnExactCompareFractions': WHATEVER THE INPUT: true; the input reads as it did. -/
def fnExactCompareFractionsSpec : ChangeSpec := { name := "fnExactCompareFractions", fn := fun _ => fun
  | [d1, d2] => { results := [.lit (.bool true)], args := [d1, d2] }
  | _ => none }
def fnExactCompareFractionsRow : OpenClaim := { program := "ytjoibceopngifaa", sum := "f35ccb1f750c12752666618e17624ae8966108484ca50036b2d9948e808581fd", func := "loop.example/g01107/laws.FnExactCompareFractions", spec := "fnExactCompareFractions", apart := false }
def FnExactCompareFractionsSaid : Prop := fnExactCompareFractionsRow.holds Try.pinned (OpenSpec.ofChange fnExactCompareFractionsSpec)

/-- ITS FALSE NEIGHBOUR: 'it returns false'. Refute it at one input. -/
def fnExactCompareFractionsWrong : ChangeSpec := { name := "fnExactCompareFractions", fn := fun _ => fun
  | [d1, d2] => { results := [.lit (.bool false)], args := [d1, d2] }
  | _ => none }
def FnExactCompareFractionsWrongFalsely : Prop := fnExactCompareFractionsRow.holds Try.pinned (OpenSpec.ofChange fnExactCompareFractionsWrong)

/-- 'laws.FnExactFloorOf': WHATEVER THE INPUT: true; the input reads as it did. -/
def fnExactFloorOfSpec : ChangeSpec := { name := "fnExactFloorOf", fn := fun _ => fun
  | [d] => { results := [.lit (.bool true)], args := [d] }
  | _ => none }
def fnExactFloorOfRow : OpenClaim := { program := "ytjoibceopngifaa", sum := "f35ccb1f750c12752666618e17624ae8966108484ca50036b2d9948e808581fd", func := "loop.example/g01107/laws.FnExactFloorOf", spec := "fnExactFloorOf", apart := false }
def FnExactFloorOfSaid : Prop := fnExactFloorOfRow.holds Try.pinned (OpenSpec.ofChange fnExactFloorOfSpec)

/-- ITS FALSE NEIGHBOUR: 'it returns false'. Refute it at one input. -/
def fnExactFloorOfWrong : ChangeSpec := { name := "fnExactFloorOf", fn := fun _ => fun
  | [d] => { results := [.lit (.bool false)], args := [d] }
  | _ => none }
def FnExactFloorOfWrongFalsely : Prop := fnExactFloorOfRow.holds Try.pinned (OpenSpec.ofChange fnExactFloorOfWrong)

/-- 'laws.FnExactCeilingOf': WHATEVER THE INPUT: true; the input reads as it did. -/
def fnExactCeilingOfSpec : ChangeSpec := { name := "fnExactCeilingOf", fn := fun _ => fun
  | [d] => { results := [.lit (.bool true)], args := [d] }
  | _ => none }
def fnExactCeilingOfRow : OpenClaim := { program := "ytjoibceopngifaa", sum := "f35ccb1f750c12752666618e17624ae8966108484ca50036b2d9948e808581fd", func := "loop.example/g01107/laws.FnExactCeilingOf", spec := "fnExactCeilingOf", apart := false }
def FnExactCeilingOfSaid : Prop := fnExactCeilingOfRow.holds Try.pinned (OpenSpec.ofChange fnExactCeilingOfSpec)

/-- ITS FALSE NEIGHBOUR: 'it returns false'. Refute it at one input. -/
def fnExactCeilingOfWrong : ChangeSpec := { name := "fnExactCeilingOf", fn := fun _ => fun
  | [d] => { results := [.lit (.bool false)], args := [d] }
  | _ => none }
def FnExactCeilingOfWrongFalsely : Prop := fnExactCeilingOfRow.holds Try.pinned (OpenSpec.ofChange fnExactCeilingOfWrong)

/-- 'laws.FnExactIsExpansion': WHATEVER THE INPUT: true; the input reads as it did. -/
def fnExactIsExpansionSpec : ChangeSpec := { name := "fnExactIsExpansion", fn := fun _ => fun
  | [d] => { results := [.lit (.bool true)], args := [d] }
  | _ => none }
def fnExactIsExpansionRow : OpenClaim := { program := "ytjoibceopngifaa", sum := "f35ccb1f750c12752666618e17624ae8966108484ca50036b2d9948e808581fd", func := "loop.example/g01107/laws.FnExactIsExpansion", spec := "fnExactIsExpansion", apart := false }
def FnExactIsExpansionSaid : Prop := fnExactIsExpansionRow.holds Try.pinned (OpenSpec.ofChange fnExactIsExpansionSpec)

/-- ITS FALSE NEIGHBOUR: 'it returns false'. Refute it at one input. -/
def fnExactIsExpansionWrong : ChangeSpec := { name := "fnExactIsExpansion", fn := fun _ => fun
  | [d] => { results := [.lit (.bool false)], args := [d] }
  | _ => none }
def FnExactIsExpansionWrongFalsely : Prop := fnExactIsExpansionRow.holds Try.pinned (OpenSpec.ofChange fnExactIsExpansionWrong)

/-- 'laws.FnExactSumOf': WHATEVER THE INPUT: true; the input reads as it did. -/
def fnExactSumOfSpec : ChangeSpec := { name := "fnExactSumOf", fn := fun _ => fun
  | [d] => { results := [.lit (.bool true)], args := [d] }
  | _ => none }
def fnExactSumOfRow : OpenClaim := { program := "ytjoibceopngifaa", sum := "f35ccb1f750c12752666618e17624ae8966108484ca50036b2d9948e808581fd", func := "loop.example/g01107/laws.FnExactSumOf", spec := "fnExactSumOf", apart := false }
def FnExactSumOfSaid : Prop := fnExactSumOfRow.holds Try.pinned (OpenSpec.ofChange fnExactSumOfSpec)

/-- ITS FALSE NEIGHBOUR: 'it returns false'. Refute it at one input. -/
def fnExactSumOfWrong : ChangeSpec := { name := "fnExactSumOf", fn := fun _ => fun
  | [d] => { results := [.lit (.bool false)], args := [d] }
  | _ => none }
def FnExactSumOfWrongFalsely : Prop := fnExactSumOfRow.holds Try.pinned (OpenSpec.ofChange fnExactSumOfWrong)

/-- 'laws.FnExactCommonMultiple': WHATEVER THE INPUT: true; the input reads as it did. -/
def fnExactCommonMultipleSpec : ChangeSpec := { name := "fnExactCommonMultiple", fn := fun _ => fun
  | [d] => { results := [.lit (.bool true)], args := [d] }
  | _ => none }
def fnExactCommonMultipleRow : OpenClaim := { program := "ytjoibceopngifaa", sum := "f35ccb1f750c12752666618e17624ae8966108484ca50036b2d9948e808581fd", func := "loop.example/g01107/laws.FnExactCommonMultiple", spec := "fnExactCommonMultiple", apart := false }
def FnExactCommonMultipleSaid : Prop := fnExactCommonMultipleRow.holds Try.pinned (OpenSpec.ofChange fnExactCommonMultipleSpec)

/-- ITS FALSE NEIGHBOUR: 'it returns false'. Refute it at one input. -/
def fnExactCommonMultipleWrong : ChangeSpec := { name := "fnExactCommonMultiple", fn := fun _ => fun
  | [d] => { results := [.lit (.bool false)], args := [d] }
  | _ => none }
def FnExactCommonMultipleWrongFalsely : Prop := fnExactCommonMultipleRow.holds Try.pinned (OpenSpec.ofChange fnExactCommonMultipleWrong)

/- THE SECOND FORM. 'bulk': how many values and letters a reading holds, each counted each time it is reached (what is shared counts as often as it is met; a slice's spare places count too). A statement '..UptoSaid' is the law's where the arguments, and the package variables that the reading takes, are together of bulk at most 1048576: NARROWER than '..Said'. Prove '..Said' where nothing that the law and all that it calls make is longer than what came in: it says more and counts as full. Else prove '..UptoSaid'. A law counts once. -/
mutual
def uptoBulk {H : Type} : DataW H → Nat
  | .lit (.string bytes) => bytes.length + 1
  | .lit _ => 1
  | .nil => 1
  | .ptr d => uptoBulk d + 1
  | .slice elems spare => uptoBulkAll elems + uptoBulkAll spare + 1
  | .agg parts => uptoBulkAll parts + 1
  | .iface _ d => uptoBulk d + 1
  | .map entries => uptoBulkEntries entries + 1
  | .held _ => 1
def uptoBulkAll {H : Type} : List (DataW H) → Nat
  | [] => 0
  | d :: r => uptoBulk d + uptoBulkAll r
def uptoBulkEntries {H : Type} : List (Lit × DataW H) → Nat
  | [] => 0
  | x :: r => uptoBulkEntry x + uptoBulkEntries r
def uptoBulkEntry {H : Type} : Lit × DataW H → Nat
  | (.string bytes, d) => bytes.length + uptoBulk d + 1
  | (_, d) => uptoBulk d + 1
 end
def uptoSmall : (H : Type) → List (DataW H) → Bool := fun _ ds => decide (uptoBulkAll ds ≤ 1048576)
def OpenSpec.upto (s : _root_.Go.ChangeSpec) : _root_.Go.OpenSpec := { _root_.Go.OpenSpec.ofChange s with cond := some uptoSmall }

/-- 'laws.FnExactIsFraction', WHERE WHAT IT READS IS OF BULK AT MOST 1048576: true; the input reads as it did. -/
def fnExactIsFractionUptoRow : OpenClaim := { program := "ytjoibceopngifaa", sum := "f35ccb1f750c12752666618e17624ae8966108484ca50036b2d9948e808581fd", func := "loop.example/g01107/laws.FnExactIsFraction", spec := "fnExactIsFraction", apart := false, narrowed := true }
def FnExactIsFractionUptoSaid : Prop := fnExactIsFractionUptoRow.holds Try.pinned (OpenSpec.upto fnExactIsFractionSpec)

/-- 'laws.FnExactMakeFraction', WHERE WHAT IT READS IS OF BULK AT MOST 1048576: true; the input reads as it did. -/
def fnExactMakeFractionUptoRow : OpenClaim := { program := "ytjoibceopngifaa", sum := "f35ccb1f750c12752666618e17624ae8966108484ca50036b2d9948e808581fd", func := "loop.example/g01107/laws.FnExactMakeFraction", spec := "fnExactMakeFraction", apart := false, narrowed := true }
def FnExactMakeFractionUptoSaid : Prop := fnExactMakeFractionUptoRow.holds Try.pinned (OpenSpec.upto fnExactMakeFractionSpec)

/-- 'laws.FnExactAddFractions', WHERE WHAT IT READS IS OF BULK AT MOST 1048576: true; the input reads as it did. -/
def fnExactAddFractionsUptoRow : OpenClaim := { program := "ytjoibceopngifaa", sum := "f35ccb1f750c12752666618e17624ae8966108484ca50036b2d9948e808581fd", func := "loop.example/g01107/laws.FnExactAddFractions", spec := "fnExactAddFractions", apart := false, narrowed := true }
def FnExactAddFractionsUptoSaid : Prop := fnExactAddFractionsUptoRow.holds Try.pinned (OpenSpec.upto fnExactAddFractionsSpec)

/-- 'laws.FnExactSubtractFractions', WHERE WHAT IT READS IS OF BULK AT MOST 1048576: true; the input reads as it did. -/
def fnExactSubtractFractionsUptoRow : OpenClaim := { program := "ytjoibceopngifaa", sum := "f35ccb1f750c12752666618e17624ae8966108484ca50036b2d9948e808581fd", func := "loop.example/g01107/laws.FnExactSubtractFractions", spec := "fnExactSubtractFractions", apart := false, narrowed := true }
def FnExactSubtractFractionsUptoSaid : Prop := fnExactSubtractFractionsUptoRow.holds Try.pinned (OpenSpec.upto fnExactSubtractFractionsSpec)

/-- 'laws.FnExactMultiplyFractions', WHERE WHAT IT READS IS OF BULK AT MOST 1048576: true; the input reads as it did. -/
def fnExactMultiplyFractionsUptoRow : OpenClaim := { program := "ytjoibceopngifaa", sum := "f35ccb1f750c12752666618e17624ae8966108484ca50036b2d9948e808581fd", func := "loop.example/g01107/laws.FnExactMultiplyFractions", spec := "fnExactMultiplyFractions", apart := false, narrowed := true }
def FnExactMultiplyFractionsUptoSaid : Prop := fnExactMultiplyFractionsUptoRow.holds Try.pinned (OpenSpec.upto fnExactMultiplyFractionsSpec)

/-- 'laws.FnExactDivideFractions', WHERE WHAT IT READS IS OF BULK AT MOST 1048576: true; the input reads as it did. -/
def fnExactDivideFractionsUptoRow : OpenClaim := { program := "ytjoibceopngifaa", sum := "f35ccb1f750c12752666618e17624ae8966108484ca50036b2d9948e808581fd", func := "loop.example/g01107/laws.FnExactDivideFractions", spec := "fnExactDivideFractions", apart := false, narrowed := true }
def FnExactDivideFractionsUptoSaid : Prop := fnExactDivideFractionsUptoRow.holds Try.pinned (OpenSpec.upto fnExactDivideFractionsSpec)

/-- 'laws.FnExactCompareFractions', WHERE WHAT IT READS IS OF BULK AT MOST 1048576: true; the input reads as it did. -/
def fnExactCompareFractionsUptoRow : OpenClaim := { program := "ytjoibceopngifaa", sum := "f35ccb1f750c12752666618e17624ae8966108484ca50036b2d9948e808581fd", func := "loop.example/g01107/laws.FnExactCompareFractions", spec := "fnExactCompareFractions", apart := false, narrowed := true }
def FnExactCompareFractionsUptoSaid : Prop := fnExactCompareFractionsUptoRow.holds Try.pinned (OpenSpec.upto fnExactCompareFractionsSpec)

/-- 'laws.FnExactFloorOf', WHERE WHAT IT READS IS OF BULK AT MOST 1048576: true; the input reads as it did. -/
def fnExactFloorOfUptoRow : OpenClaim := { program := "ytjoibceopngifaa", sum := "f35ccb1f750c12752666618e17624ae8966108484ca50036b2d9948e808581fd", func := "loop.example/g01107/laws.FnExactFloorOf", spec := "fnExactFloorOf", apart := false, narrowed := true }
def FnExactFloorOfUptoSaid : Prop := fnExactFloorOfUptoRow.holds Try.pinned (OpenSpec.upto fnExactFloorOfSpec)

/-- 'laws.FnExactCeilingOf', WHERE WHAT IT READS IS OF BULK AT MOST 1048576: true; the input reads as it did. -/
def fnExactCeilingOfUptoRow : OpenClaim := { program := "ytjoibceopngifaa", sum := "f35ccb1f750c12752666618e17624ae8966108484ca50036b2d9948e808581fd", func := "loop.example/g01107/laws.FnExactCeilingOf", spec := "fnExactCeilingOf", apart := false, narrowed := true }
def FnExactCeilingOfUptoSaid : Prop := fnExactCeilingOfUptoRow.holds Try.pinned (OpenSpec.upto fnExactCeilingOfSpec)

/-- 'laws.FnExactIsExpansion', WHERE WHAT IT READS IS OF BULK AT MOST 1048576: true; the input reads as it did. -/
def fnExactIsExpansionUptoRow : OpenClaim := { program := "ytjoibceopngifaa", sum := "f35ccb1f750c12752666618e17624ae8966108484ca50036b2d9948e808581fd", func := "loop.example/g01107/laws.FnExactIsExpansion", spec := "fnExactIsExpansion", apart := false, narrowed := true }
def FnExactIsExpansionUptoSaid : Prop := fnExactIsExpansionUptoRow.holds Try.pinned (OpenSpec.upto fnExactIsExpansionSpec)

/-- 'laws.FnExactSumOf', WHERE WHAT IT READS IS OF BULK AT MOST 1048576: true; the input reads as it did. -/
def fnExactSumOfUptoRow : OpenClaim := { program := "ytjoibceopngifaa", sum := "f35ccb1f750c12752666618e17624ae8966108484ca50036b2d9948e808581fd", func := "loop.example/g01107/laws.FnExactSumOf", spec := "fnExactSumOf", apart := false, narrowed := true }
def FnExactSumOfUptoSaid : Prop := fnExactSumOfUptoRow.holds Try.pinned (OpenSpec.upto fnExactSumOfSpec)

/-- 'laws.FnExactCommonMultiple', WHERE WHAT IT READS IS OF BULK AT MOST 1048576: true; the input reads as it did. -/
def fnExactCommonMultipleUptoRow : OpenClaim := { program := "ytjoibceopngifaa", sum := "f35ccb1f750c12752666618e17624ae8966108484ca50036b2d9948e808581fd", func := "loop.example/g01107/laws.FnExactCommonMultiple", spec := "fnExactCommonMultiple", apart := false, narrowed := true }
def FnExactCommonMultipleUptoSaid : Prop := fnExactCommonMultipleUptoRow.holds Try.pinned (OpenSpec.upto fnExactCommonMultipleSpec)

end Rows
end Go.Proofs.Ytjoibceopngifaa
