/-
  No cell of these rows narrows 'for every input' (looked for: loops, veiled, ifaces, maps, wideKeys, modest, calm, conditions, laid).
  DERIVED. THE GIVEN ROWS OF THIS SEAT. 8 by the template 'for every input the law returns true; each argument reads behind the call as it read before'; 0 by the template 'total and deterministic' (their statements: YtiapljimgnhgoaaTotals.lean).
  GIVEN WITH THE SEED: the statements are not yours to turn. If you find one false, say at which input.
  Laid BY PROGRAM, IN A SANDBOX (cutbox-rows.mjs): the forced cells as the released guide's own fill.sh prints them over the translation 89e553f3997fb7f8… (all of the seat's roots in one cut). By AI agents, Wed Nov 11 2026. No macro, syntax, notation, axiom, sorry.
-/
import Derived.Test.YtiapljimgnhgoaaChecked
import GoSem.Claim
import GoSem.ClaimJoined
import GoSem.ClaimMapViews
import Derived.JoinedTies
import Derived.KernelRfl
namespace Go.Proofs.Ytiapljimgnhgoaa
/- THE CELL 'sum', in the pinned program and in every row, IS THE sha256 OF THE DUMP (.gsa) THAT YtiapljimgnhgoaaProg.lean LOADS. Nothing in Lean hashes anything: it is a label: what it is worth is what the hold of that sum in a sandbox is worth. -/
noncomputable def Try.pinned : Pinned := { name := "ytiapljimgnhgoaa", sum := "89e553f3997fb7f845cbb8f56db0b6c97cce8b75f74c8618d028dc92a9225213", checked := Try.checked }
namespace Rows
def none {H : Type} : Left H := { results := [], args := [] }

/-- 'laws.FnExactDivisorsOf': WHATEVER THE INPUT: true; the input reads as it did. -/
def fnExactDivisorsOfSpec : ChangeSpec := { name := "fnExactDivisorsOf", fn := fun _ => fun
  | [d] => { results := [.lit (.bool true)], args := [d] }
  | _ => none }
def fnExactDivisorsOfRow : OpenClaim := { program := "ytiapljimgnhgoaa", sum := "89e553f3997fb7f845cbb8f56db0b6c97cce8b75f74c8618d028dc92a9225213", func := "loop.example/g01107/laws.FnExactDivisorsOf", spec := "fnExactDivisorsOf", apart := false }
def FnExactDivisorsOfSaid : Prop := fnExactDivisorsOfRow.holds Try.pinned (OpenSpec.ofChange fnExactDivisorsOfSpec)

/-- ITS FALSE NEIGHBOUR: 'it returns false'. Refute it at one input. -/
def fnExactDivisorsOfWrong : ChangeSpec := { name := "fnExactDivisorsOf", fn := fun _ => fun
  | [d] => { results := [.lit (.bool false)], args := [d] }
  | _ => none }
def FnExactDivisorsOfWrongFalsely : Prop := fnExactDivisorsOfRow.holds Try.pinned (OpenSpec.ofChange fnExactDivisorsOfWrong)

/-- 'laws.FnExactDivisorSum': WHATEVER THE INPUT: true; the input reads as it did. -/
def fnExactDivisorSumSpec : ChangeSpec := { name := "fnExactDivisorSum", fn := fun _ => fun
  | [d] => { results := [.lit (.bool true)], args := [d] }
  | _ => none }
def fnExactDivisorSumRow : OpenClaim := { program := "ytiapljimgnhgoaa", sum := "89e553f3997fb7f845cbb8f56db0b6c97cce8b75f74c8618d028dc92a9225213", func := "loop.example/g01107/laws.FnExactDivisorSum", spec := "fnExactDivisorSum", apart := false }
def FnExactDivisorSumSaid : Prop := fnExactDivisorSumRow.holds Try.pinned (OpenSpec.ofChange fnExactDivisorSumSpec)

/-- ITS FALSE NEIGHBOUR: 'it returns false'. Refute it at one input. -/
def fnExactDivisorSumWrong : ChangeSpec := { name := "fnExactDivisorSum", fn := fun _ => fun
  | [d] => { results := [.lit (.bool false)], args := [d] }
  | _ => none }
def FnExactDivisorSumWrongFalsely : Prop := fnExactDivisorSumRow.holds Try.pinned (OpenSpec.ofChange fnExactDivisorSumWrong)

/-- 'laws.FnExactPrimePowers': WHATEVER THE INPUT: true; the input reads as it did. -/
def fnExactPrimePowersSpec : ChangeSpec := { name := "fnExactPrimePowers", fn := fun _ => fun
  | [d] => { results := [.lit (.bool true)], args := [d] }
  | _ => none }
def fnExactPrimePowersRow : OpenClaim := { program := "ytiapljimgnhgoaa", sum := "89e553f3997fb7f845cbb8f56db0b6c97cce8b75f74c8618d028dc92a9225213", func := "loop.example/g01107/laws.FnExactPrimePowers", spec := "fnExactPrimePowers", apart := false }
def FnExactPrimePowersSaid : Prop := fnExactPrimePowersRow.holds Try.pinned (OpenSpec.ofChange fnExactPrimePowersSpec)

/-- ITS FALSE NEIGHBOUR: 'it returns false'. Refute it at one input. -/
def fnExactPrimePowersWrong : ChangeSpec := { name := "fnExactPrimePowers", fn := fun _ => fun
  | [d] => { results := [.lit (.bool false)], args := [d] }
  | _ => none }
def FnExactPrimePowersWrongFalsely : Prop := fnExactPrimePowersRow.holds Try.pinned (OpenSpec.ofChange fnExactPrimePowersWrong)

/-- 'laws.FnExactBreakOf': WHATEVER THE INPUT: true; the input reads as it did. -/
def fnExactBreakOfSpec : ChangeSpec := { name := "fnExactBreakOf", fn := fun _ => fun
  | [d] => { results := [.lit (.bool true)], args := [d] }
  | _ => none }
def fnExactBreakOfRow : OpenClaim := { program := "ytiapljimgnhgoaa", sum := "89e553f3997fb7f845cbb8f56db0b6c97cce8b75f74c8618d028dc92a9225213", func := "loop.example/g01107/laws.FnExactBreakOf", spec := "fnExactBreakOf", apart := false }
def FnExactBreakOfSaid : Prop := fnExactBreakOfRow.holds Try.pinned (OpenSpec.ofChange fnExactBreakOfSpec)

/-- ITS FALSE NEIGHBOUR: 'it returns false'. Refute it at one input. -/
def fnExactBreakOfWrong : ChangeSpec := { name := "fnExactBreakOf", fn := fun _ => fun
  | [d] => { results := [.lit (.bool false)], args := [d] }
  | _ => none }
def FnExactBreakOfWrongFalsely : Prop := fnExactBreakOfRow.holds Try.pinned (OpenSpec.ofChange fnExactBreakOfWrong)

/-- 'laws.FnExactAreDivisorsFor': WHATEVER THE INPUT: true; the input reads as it did. -/
def fnExactAreDivisorsForSpec : ChangeSpec := { name := "fnExactAreDivisorsFor", fn := fun _ => fun
  | [d1, d2, d3] => { results := [.lit (.bool true)], args := [d1, d2, d3] }
  | _ => none }
def fnExactAreDivisorsForRow : OpenClaim := { program := "ytiapljimgnhgoaa", sum := "89e553f3997fb7f845cbb8f56db0b6c97cce8b75f74c8618d028dc92a9225213", func := "loop.example/g01107/laws.FnExactAreDivisorsFor", spec := "fnExactAreDivisorsFor", apart := false }
def FnExactAreDivisorsForSaid : Prop := fnExactAreDivisorsForRow.holds Try.pinned (OpenSpec.ofChange fnExactAreDivisorsForSpec)

/-- ITS FALSE NEIGHBOUR: 'it returns false'. Refute it at one input. -/
def fnExactAreDivisorsForWrong : ChangeSpec := { name := "fnExactAreDivisorsFor", fn := fun _ => fun
  | [d1, d2, d3] => { results := [.lit (.bool false)], args := [d1, d2, d3] }
  | _ => none }
def FnExactAreDivisorsForWrongFalsely : Prop := fnExactAreDivisorsForRow.holds Try.pinned (OpenSpec.ofChange fnExactAreDivisorsForWrong)

/-- 'laws.FnExactNextPractical': WHATEVER THE INPUT: true; the input reads as it did. -/
def fnExactNextPracticalSpec : ChangeSpec := { name := "fnExactNextPractical", fn := fun _ => fun
  | [d] => { results := [.lit (.bool true)], args := [d] }
  | _ => none }
def fnExactNextPracticalRow : OpenClaim := { program := "ytiapljimgnhgoaa", sum := "89e553f3997fb7f845cbb8f56db0b6c97cce8b75f74c8618d028dc92a9225213", func := "loop.example/g01107/laws.FnExactNextPractical", spec := "fnExactNextPractical", apart := false }
def FnExactNextPracticalSaid : Prop := fnExactNextPracticalRow.holds Try.pinned (OpenSpec.ofChange fnExactNextPracticalSpec)

/-- ITS FALSE NEIGHBOUR: 'it returns false'. Refute it at one input. -/
def fnExactNextPracticalWrong : ChangeSpec := { name := "fnExactNextPractical", fn := fun _ => fun
  | [d] => { results := [.lit (.bool false)], args := [d] }
  | _ => none }
def FnExactNextPracticalWrongFalsely : Prop := fnExactNextPracticalRow.holds Try.pinned (OpenSpec.ofChange fnExactNextPracticalWrong)

/-- 'laws.FnExactPracticalsUpTo': WHATEVER THE INPUT: true; the input reads as it did. -/
def fnExactPracticalsUpToSpec : ChangeSpec := { name := "fnExactPracticalsUpTo", fn := fun _ => fun
  | [d] => { results := [.lit (.bool true)], args := [d] }
  | _ => none }
def fnExactPracticalsUpToRow : OpenClaim := { program := "ytiapljimgnhgoaa", sum := "89e553f3997fb7f845cbb8f56db0b6c97cce8b75f74c8618d028dc92a9225213", func := "loop.example/g01107/laws.FnExactPracticalsUpTo", spec := "fnExactPracticalsUpTo", apart := false }
def FnExactPracticalsUpToSaid : Prop := fnExactPracticalsUpToRow.holds Try.pinned (OpenSpec.ofChange fnExactPracticalsUpToSpec)

/-- ITS FALSE NEIGHBOUR: 'it returns false'. Refute it at one input. -/
def fnExactPracticalsUpToWrong : ChangeSpec := { name := "fnExactPracticalsUpTo", fn := fun _ => fun
  | [d] => { results := [.lit (.bool false)], args := [d] }
  | _ => none }
def FnExactPracticalsUpToWrongFalsely : Prop := fnExactPracticalsUpToRow.holds Try.pinned (OpenSpec.ofChange fnExactPracticalsUpToWrong)

/-- 'laws.FnExactIsPrimitive': WHATEVER THE INPUT: true; the input reads as it did. -/
def fnExactIsPrimitiveSpec : ChangeSpec := { name := "fnExactIsPrimitive", fn := fun _ => fun
  | [d] => { results := [.lit (.bool true)], args := [d] }
  | _ => none }
def fnExactIsPrimitiveRow : OpenClaim := { program := "ytiapljimgnhgoaa", sum := "89e553f3997fb7f845cbb8f56db0b6c97cce8b75f74c8618d028dc92a9225213", func := "loop.example/g01107/laws.FnExactIsPrimitive", spec := "fnExactIsPrimitive", apart := false }
def FnExactIsPrimitiveSaid : Prop := fnExactIsPrimitiveRow.holds Try.pinned (OpenSpec.ofChange fnExactIsPrimitiveSpec)

/-- ITS FALSE NEIGHBOUR: 'it returns false'. Refute it at one input. -/
def fnExactIsPrimitiveWrong : ChangeSpec := { name := "fnExactIsPrimitive", fn := fun _ => fun
  | [d] => { results := [.lit (.bool false)], args := [d] }
  | _ => none }
def FnExactIsPrimitiveWrongFalsely : Prop := fnExactIsPrimitiveRow.holds Try.pinned (OpenSpec.ofChange fnExactIsPrimitiveWrong)

/- THE SECOND FORM. 'bulk': how many values and letters a reading holds, each counted each time it is reached (what is shared counts as often as it is met; a slice's spare places count too). A statement '..UptoSaid' is the law's where the arguments, and the package variables that the reading takes, are together of bulk at most 1048576: NARROWER than '..Said'. Prove '..Said' where nothing that the law and all that it calls make is longer than what came in: it says more and counts as full. Else prove '..UptoSaid'. A law counts once. -/
mutual
def uptoBulk {H : Type} : DataW H → Nat
  | .lit (.string bytes) => bytes.length + 1
  | .lit _ => 1
  | .nil => 1
  | .ptr d => uptoBulk d + 1
  | .slice elems spare => uptoBulkAll elems + uptoBulkAll spare + 1
  | .agg parts => uptoBulkAll parts + 1
  | .iface _ d => uptoBulk d + 1
  | .map entries => uptoBulkEntries entries + 1
  | .held _ => 1
def uptoBulkAll {H : Type} : List (DataW H) → Nat
  | [] => 0
  | d :: r => uptoBulk d + uptoBulkAll r
def uptoBulkEntries {H : Type} : List (Lit × DataW H) → Nat
  | [] => 0
  | x :: r => uptoBulkEntry x + uptoBulkEntries r
def uptoBulkEntry {H : Type} : Lit × DataW H → Nat
  | (.string bytes, d) => bytes.length + uptoBulk d + 1
  | (_, d) => uptoBulk d + 1
 end
def uptoSmall : (H : Type) → List (DataW H) → Bool := fun _ ds => decide (uptoBulkAll ds ≤ 1048576)
def OpenSpec.upto (s : _root_.Go.ChangeSpec) : _root_.Go.OpenSpec := { _root_.Go.OpenSpec.ofChange s with cond := some uptoSmall }

/-- 'laws.FnExactDivisorsOf', WHERE WHAT IT READS IS OF BULK AT MOST 1048576: true; the input reads as it did. -/
def fnExactDivisorsOfUptoRow : OpenClaim := { program := "ytiapljimgnhgoaa", sum := "89e553f3997fb7f845cbb8f56db0b6c97cce8b75f74c8618d028dc92a9225213", func := "loop.example/g01107/laws.FnExactDivisorsOf", spec := "fnExactDivisorsOf", apart := false, narrowed := true }
def FnExactDivisorsOfUptoSaid : Prop := fnExactDivisorsOfUptoRow.holds Try.pinned (OpenSpec.upto fnExactDivisorsOfSpec)

/-- 'laws.FnExactDivisorSum', WHERE WHAT IT READS IS OF BULK AT MOST 1048576: true; the input reads as it did. -/
def fnExactDivisorSumUptoRow : OpenClaim := { program := "ytiapljimgnhgoaa", sum := "89e553f3997fb7f845cbb8f56db0b6c97cce8b75f74c8618d028dc92a9225213", func := "loop.example/g01107/laws.FnExactDivisorSum", spec := "fnExactDivisorSum", apart := false, narrowed := true }
def FnExactDivisorSumUptoSaid : Prop := fnExactDivisorSumUptoRow.holds Try.pinned (OpenSpec.upto fnExactDivisorSumSpec)

/-- 'laws.FnExactPrimePowers', WHERE WHAT IT READS IS OF BULK AT MOST 1048576: true; the input reads as it did. -/
def fnExactPrimePowersUptoRow : OpenClaim := { program := "ytiapljimgnhgoaa", sum := "89e553f3997fb7f845cbb8f56db0b6c97cce8b75f74c8618d028dc92a9225213", func := "loop.example/g01107/laws.FnExactPrimePowers", spec := "fnExactPrimePowers", apart := false, narrowed := true }
def FnExactPrimePowersUptoSaid : Prop := fnExactPrimePowersUptoRow.holds Try.pinned (OpenSpec.upto fnExactPrimePowersSpec)

/-- 'laws.FnExactBreakOf', WHERE WHAT IT READS IS OF BULK AT MOST 1048576: true; the input reads as it did. -/
def fnExactBreakOfUptoRow : OpenClaim := { program := "ytiapljimgnhgoaa", sum := "89e553f3997fb7f845cbb8f56db0b6c97cce8b75f74c8618d028dc92a9225213", func := "loop.example/g01107/laws.FnExactBreakOf", spec := "fnExactBreakOf", apart := false, narrowed := true }
def FnExactBreakOfUptoSaid : Prop := fnExactBreakOfUptoRow.holds Try.pinned (OpenSpec.upto fnExactBreakOfSpec)

/-- 'laws.FnExactAreDivisorsFor', WHERE WHAT IT READS IS OF BULK AT MOST 1048576: true; the input reads as it did. -/
def fnExactAreDivisorsForUptoRow : OpenClaim := { program := "ytiapljimgnhgoaa", sum := "89e553f3997fb7f845cbb8f56db0b6c97cce8b75f74c8618d028dc92a9225213", func := "loop.example/g01107/laws.FnExactAreDivisorsFor", spec := "fnExactAreDivisorsFor", apart := false, narrowed := true }
def FnExactAreDivisorsForUptoSaid : Prop := fnExactAreDivisorsForUptoRow.holds Try.pinned (OpenSpec.upto fnExactAreDivisorsForSpec)

/-- 'laws.FnExactNextPractical', WHERE WHAT IT READS IS OF BULK AT MOST 1048576: true; the input reads as it did. -/
def fnExactNextPracticalUptoRow : OpenClaim := { program := "ytiapljimgnhgoaa", sum := "89e553f3997fb7f845cbb8f56db0b6c97cce8b75f74c8618d028dc92a9225213", func := "loop.example/g01107/laws.FnExactNextPractical", spec := "fnExactNextPractical", apart := false, narrowed := true }
def FnExactNextPracticalUptoSaid : Prop := fnExactNextPracticalUptoRow.holds Try.pinned (OpenSpec.upto fnExactNextPracticalSpec)

/-- 'laws.FnExactPracticalsUpTo', WHERE WHAT IT READS IS OF BULK AT MOST 1048576: true; the input reads as it did. -/
def fnExactPracticalsUpToUptoRow : OpenClaim := { program := "ytiapljimgnhgoaa", sum := "89e553f3997fb7f845cbb8f56db0b6c97cce8b75f74c8618d028dc92a9225213", func := "loop.example/g01107/laws.FnExactPracticalsUpTo", spec := "fnExactPracticalsUpTo", apart := false, narrowed := true }
def FnExactPracticalsUpToUptoSaid : Prop := fnExactPracticalsUpToUptoRow.holds Try.pinned (OpenSpec.upto fnExactPracticalsUpToSpec)

/-- 'laws.FnExactIsPrimitive', WHERE WHAT IT READS IS OF BULK AT MOST 1048576: true; the input reads as it did. -/
def fnExactIsPrimitiveUptoRow : OpenClaim := { program := "ytiapljimgnhgoaa", sum := "89e553f3997fb7f845cbb8f56db0b6c97cce8b75f74c8618d028dc92a9225213", func := "loop.example/g01107/laws.FnExactIsPrimitive", spec := "fnExactIsPrimitive", apart := false, narrowed := true }
def FnExactIsPrimitiveUptoSaid : Prop := fnExactIsPrimitiveUptoRow.holds Try.pinned (OpenSpec.upto fnExactIsPrimitiveSpec)

end Rows
end Go.Proofs.Ytiapljimgnhgoaa
