/-
  No cell of these rows narrows 'for every input' (looked for: loops, veiled, ifaces, maps, wideKeys, modest, calm, conditions, laid).
  DERIVED. THE GIVEN ROWS OF THIS SEAT. 9 by the template 'for every input the law returns true; each argument reads behind the call as it read before'; 0 by the template 'total and deterministic' (their statements: YtponpllfojhfiabTotals.lean).
  GIVEN WITH THE SEED: the statements are not yours to turn. If you find one false, say at which input.
  Laid BY PROGRAM, IN A SANDBOX (cutbox-rows.mjs): the forced cells as the released guide's own fill.sh prints them over the translation ed993bc3c6f46c97… (all of the seat's roots in one cut). By AI agents, Wed Nov 11 2026. No macro, syntax, notation, axiom, sorry.
-/
import Derived.Test.YtponpllfojhfiabChecked
import GoSem.Claim
import GoSem.ClaimJoined
import GoSem.ClaimMapViews
import Derived.JoinedTies
import Derived.KernelRfl
namespace Go.Proofs.Ytponpllfojhfiab
/- THE CELL 'sum', in the pinned program and in every row, IS THE sha256 OF THE DUMP (.gsa) THAT YtponpllfojhfiabProg.lean LOADS. Nothing in Lean hashes anything: it is a label: what it is worth is what the hold of that sum in a sandbox is worth. -/
noncomputable def Try.pinned : Pinned := { name := "ytponpllfojhfiab", sum := "ed993bc3c6f46c974dc37c05fa41649943d0a4fe88d8be40d99f8ebc85675e89", checked := Try.checked }
namespace Rows
def none {H : Type} : Left H := { results := [], args := [] }

/-- 'laws.FnExactIsRepeated': WHATEVER THE INPUT: true; the input reads as it did. -/
def fnExactIsRepeatedSpec : ChangeSpec := { name := "fnExactIsRepeated", fn := fun _ => fun
  | [d] => { results := [.lit (.bool true)], args := [d] }
  | _ => none }
def fnExactIsRepeatedRow : OpenClaim := { program := "ytponpllfojhfiab", sum := "ed993bc3c6f46c974dc37c05fa41649943d0a4fe88d8be40d99f8ebc85675e89", func := "loop.example/g01107/laws.FnExactIsRepeated", spec := "fnExactIsRepeated", apart := false }
def FnExactIsRepeatedSaid : Prop := fnExactIsRepeatedRow.holds Try.pinned (OpenSpec.ofChange fnExactIsRepeatedSpec)

/-- ITS FALSE NEIGHBOUR: 'it returns false'. Refute it at one input. -/
def fnExactIsRepeatedWrong : ChangeSpec := { name := "fnExactIsRepeated", fn := fun _ => fun
  | [d] => { results := [.lit (.bool false)], args := [d] }
  | _ => none }
def FnExactIsRepeatedWrongFalsely : Prop := fnExactIsRepeatedRow.holds Try.pinned (OpenSpec.ofChange fnExactIsRepeatedWrong)

/-- 'laws.FnExactRepeatedSum': WHATEVER THE INPUT: true; the input reads as it did. -/
def fnExactRepeatedSumSpec : ChangeSpec := { name := "fnExactRepeatedSum", fn := fun _ => fun
  | [d] => { results := [.lit (.bool true)], args := [d] }
  | _ => none }
def fnExactRepeatedSumRow : OpenClaim := { program := "ytponpllfojhfiab", sum := "ed993bc3c6f46c974dc37c05fa41649943d0a4fe88d8be40d99f8ebc85675e89", func := "loop.example/g01107/laws.FnExactRepeatedSum", spec := "fnExactRepeatedSum", apart := false }
def FnExactRepeatedSumSaid : Prop := fnExactRepeatedSumRow.holds Try.pinned (OpenSpec.ofChange fnExactRepeatedSumSpec)

/-- ITS FALSE NEIGHBOUR: 'it returns false'. Refute it at one input. -/
def fnExactRepeatedSumWrong : ChangeSpec := { name := "fnExactRepeatedSum", fn := fun _ => fun
  | [d] => { results := [.lit (.bool false)], args := [d] }
  | _ => none }
def FnExactRepeatedSumWrongFalsely : Prop := fnExactRepeatedSumRow.holds Try.pinned (OpenSpec.ofChange fnExactRepeatedSumWrong)

/-- 'laws.FnExactGreedyBelow': WHATEVER THE INPUT: true; the input reads as it did. -/
def fnExactGreedyBelowSpec : ChangeSpec := { name := "fnExactGreedyBelow", fn := fun _ => fun
  | [d1, d2] => { results := [.lit (.bool true)], args := [d1, d2] }
  | _ => none }
def fnExactGreedyBelowRow : OpenClaim := { program := "ytponpllfojhfiab", sum := "ed993bc3c6f46c974dc37c05fa41649943d0a4fe88d8be40d99f8ebc85675e89", func := "loop.example/g01107/laws.FnExactGreedyBelow", spec := "fnExactGreedyBelow", apart := false }
def FnExactGreedyBelowSaid : Prop := fnExactGreedyBelowRow.holds Try.pinned (OpenSpec.ofChange fnExactGreedyBelowSpec)

/-- ITS FALSE NEIGHBOUR: 'it returns false'. Refute it at one input. -/
def fnExactGreedyBelowWrong : ChangeSpec := { name := "fnExactGreedyBelow", fn := fun _ => fun
  | [d1, d2] => { results := [.lit (.bool false)], args := [d1, d2] }
  | _ => none }
def FnExactGreedyBelowWrongFalsely : Prop := fnExactGreedyBelowRow.holds Try.pinned (OpenSpec.ofChange fnExactGreedyBelowWrong)

/-- 'laws.FnExactIsNext': WHATEVER THE INPUT: true; the input reads as it did. -/
def fnExactIsNextSpec : ChangeSpec := { name := "fnExactIsNext", fn := fun _ => fun
  | [d1, d2] => { results := [.lit (.bool true)], args := [d1, d2] }
  | _ => none }
def fnExactIsNextRow : OpenClaim := { program := "ytponpllfojhfiab", sum := "ed993bc3c6f46c974dc37c05fa41649943d0a4fe88d8be40d99f8ebc85675e89", func := "loop.example/g01107/laws.FnExactIsNext", spec := "fnExactIsNext", apart := false }
def FnExactIsNextSaid : Prop := fnExactIsNextRow.holds Try.pinned (OpenSpec.ofChange fnExactIsNextSpec)

/-- ITS FALSE NEIGHBOUR: 'it returns false'. Refute it at one input. -/
def fnExactIsNextWrong : ChangeSpec := { name := "fnExactIsNext", fn := fun _ => fun
  | [d1, d2] => { results := [.lit (.bool false)], args := [d1, d2] }
  | _ => none }
def FnExactIsNextWrongFalsely : Prop := fnExactIsNextRow.holds Try.pinned (OpenSpec.ofChange fnExactIsNextWrong)

/-- 'laws.FnExactHarmonicOf': WHATEVER THE INPUT: true; the input reads as it did. -/
def fnExactHarmonicOfSpec : ChangeSpec := { name := "fnExactHarmonicOf", fn := fun _ => fun
  | [d] => { results := [.lit (.bool true)], args := [d] }
  | _ => none }
def fnExactHarmonicOfRow : OpenClaim := { program := "ytponpllfojhfiab", sum := "ed993bc3c6f46c974dc37c05fa41649943d0a4fe88d8be40d99f8ebc85675e89", func := "loop.example/g01107/laws.FnExactHarmonicOf", spec := "fnExactHarmonicOf", apart := false }
def FnExactHarmonicOfSaid : Prop := fnExactHarmonicOfRow.holds Try.pinned (OpenSpec.ofChange fnExactHarmonicOfSpec)

/-- ITS FALSE NEIGHBOUR: 'it returns false'. Refute it at one input. -/
def fnExactHarmonicOfWrong : ChangeSpec := { name := "fnExactHarmonicOf", fn := fun _ => fun
  | [d] => { results := [.lit (.bool false)], args := [d] }
  | _ => none }
def FnExactHarmonicOfWrongFalsely : Prop := fnExactHarmonicOfRow.holds Try.pinned (OpenSpec.ofChange fnExactHarmonicOfWrong)

/-- 'laws.FnExactHarmonicPast': WHATEVER THE INPUT: true; the input reads as it did. -/
def fnExactHarmonicPastSpec : ChangeSpec := { name := "fnExactHarmonicPast", fn := fun _ => fun
  | [d] => { results := [.lit (.bool true)], args := [d] }
  | _ => none }
def fnExactHarmonicPastRow : OpenClaim := { program := "ytponpllfojhfiab", sum := "ed993bc3c6f46c974dc37c05fa41649943d0a4fe88d8be40d99f8ebc85675e89", func := "loop.example/g01107/laws.FnExactHarmonicPast", spec := "fnExactHarmonicPast", apart := false }
def FnExactHarmonicPastSaid : Prop := fnExactHarmonicPastRow.holds Try.pinned (OpenSpec.ofChange fnExactHarmonicPastSpec)

/-- ITS FALSE NEIGHBOUR: 'it returns false'. Refute it at one input. -/
def fnExactHarmonicPastWrong : ChangeSpec := { name := "fnExactHarmonicPast", fn := fun _ => fun
  | [d] => { results := [.lit (.bool false)], args := [d] }
  | _ => none }
def FnExactHarmonicPastWrongFalsely : Prop := fnExactHarmonicPastRow.holds Try.pinned (OpenSpec.ofChange fnExactHarmonicPastWrong)

/-- 'laws.FnExactRangeSum': WHATEVER THE INPUT: true; the input reads as it did. -/
def fnExactRangeSumSpec : ChangeSpec := { name := "fnExactRangeSum", fn := fun _ => fun
  | [d1, d2] => { results := [.lit (.bool true)], args := [d1, d2] }
  | _ => none }
def fnExactRangeSumRow : OpenClaim := { program := "ytponpllfojhfiab", sum := "ed993bc3c6f46c974dc37c05fa41649943d0a4fe88d8be40d99f8ebc85675e89", func := "loop.example/g01107/laws.FnExactRangeSum", spec := "fnExactRangeSum", apart := false }
def FnExactRangeSumSaid : Prop := fnExactRangeSumRow.holds Try.pinned (OpenSpec.ofChange fnExactRangeSumSpec)

/-- ITS FALSE NEIGHBOUR: 'it returns false'. Refute it at one input. -/
def fnExactRangeSumWrong : ChangeSpec := { name := "fnExactRangeSum", fn := fun _ => fun
  | [d1, d2] => { results := [.lit (.bool false)], args := [d1, d2] }
  | _ => none }
def FnExactRangeSumWrongFalsely : Prop := fnExactRangeSumRow.holds Try.pinned (OpenSpec.ofChange fnExactRangeSumWrong)

/-- 'laws.FnExactZnamFails': WHATEVER THE INPUT: true; the input reads as it did. -/
def fnExactZnamFailsSpec : ChangeSpec := { name := "fnExactZnamFails", fn := fun _ => fun
  | [d] => { results := [.lit (.bool true)], args := [d] }
  | _ => none }
def fnExactZnamFailsRow : OpenClaim := { program := "ytponpllfojhfiab", sum := "ed993bc3c6f46c974dc37c05fa41649943d0a4fe88d8be40d99f8ebc85675e89", func := "loop.example/g01107/laws.FnExactZnamFails", spec := "fnExactZnamFails", apart := false }
def FnExactZnamFailsSaid : Prop := fnExactZnamFailsRow.holds Try.pinned (OpenSpec.ofChange fnExactZnamFailsSpec)

/-- ITS FALSE NEIGHBOUR: 'it returns false'. Refute it at one input. -/
def fnExactZnamFailsWrong : ChangeSpec := { name := "fnExactZnamFails", fn := fun _ => fun
  | [d] => { results := [.lit (.bool false)], args := [d] }
  | _ => none }
def FnExactZnamFailsWrongFalsely : Prop := fnExactZnamFailsRow.holds Try.pinned (OpenSpec.ofChange fnExactZnamFailsWrong)

/-- 'laws.FnNextNumbers': WHATEVER THE INPUT: true; the input reads as it did. -/
def fnNextNumbersSpec : ChangeSpec := { name := "fnNextNumbers", fn := fun _ => fun
  | [d1, d2] => { results := [.lit (.bool true)], args := [d1, d2] }
  | _ => none }
def fnNextNumbersRow : OpenClaim := { program := "ytponpllfojhfiab", sum := "ed993bc3c6f46c974dc37c05fa41649943d0a4fe88d8be40d99f8ebc85675e89", func := "loop.example/g01107/laws.FnNextNumbers", spec := "fnNextNumbers", apart := false }
def FnNextNumbersSaid : Prop := fnNextNumbersRow.holds Try.pinned (OpenSpec.ofChange fnNextNumbersSpec)

/-- ITS FALSE NEIGHBOUR: 'it returns false'. Refute it at one input. -/
def fnNextNumbersWrong : ChangeSpec := { name := "fnNextNumbers", fn := fun _ => fun
  | [d1, d2] => { results := [.lit (.bool false)], args := [d1, d2] }
  | _ => none }
def FnNextNumbersWrongFalsely : Prop := fnNextNumbersRow.holds Try.pinned (OpenSpec.ofChange fnNextNumbersWrong)

/- THE SECOND FORM. 'bulk': how many values and letters a reading holds, each counted each time it is reached (what is shared counts as often as it is met; a slice's spare places count too). A statement '..UptoSaid' is the law's where the arguments, and the package variables that the reading takes, are together of bulk at most 1048576: NARROWER than '..Said'. Prove '..Said' where nothing that the law and all that it calls make is longer than what came in: it says more and counts as full. Else prove '..UptoSaid'. A law counts once. -/
mutual
def uptoBulk {H : Type} : DataW H → Nat
  | .lit (.string bytes) => bytes.length + 1
  | .lit _ => 1
  | .nil => 1
  | .ptr d => uptoBulk d + 1
  | .slice elems spare => uptoBulkAll elems + uptoBulkAll spare + 1
  | .agg parts => uptoBulkAll parts + 1
  | .iface _ d => uptoBulk d + 1
  | .map entries => uptoBulkEntries entries + 1
  | .held _ => 1
def uptoBulkAll {H : Type} : List (DataW H) → Nat
  | [] => 0
  | d :: r => uptoBulk d + uptoBulkAll r
def uptoBulkEntries {H : Type} : List (Lit × DataW H) → Nat
  | [] => 0
  | x :: r => uptoBulkEntry x + uptoBulkEntries r
def uptoBulkEntry {H : Type} : Lit × DataW H → Nat
  | (.string bytes, d) => bytes.length + uptoBulk d + 1
  | (_, d) => uptoBulk d + 1
 end
def uptoSmall : (H : Type) → List (DataW H) → Bool := fun _ ds => decide (uptoBulkAll ds ≤ 1048576)
def OpenSpec.upto (s : _root_.Go.ChangeSpec) : _root_.Go.OpenSpec := { _root_.Go.OpenSpec.ofChange s with cond := some uptoSmall }

/-- 'laws.FnExactIsRepeated', WHERE WHAT IT READS IS OF BULK AT MOST 1048576: true; the input reads as it did. -/
def fnExactIsRepeatedUptoRow : OpenClaim := { program := "ytponpllfojhfiab", sum := "ed993bc3c6f46c974dc37c05fa41649943d0a4fe88d8be40d99f8ebc85675e89", func := "loop.example/g01107/laws.FnExactIsRepeated", spec := "fnExactIsRepeated", apart := false, narrowed := true }
def FnExactIsRepeatedUptoSaid : Prop := fnExactIsRepeatedUptoRow.holds Try.pinned (OpenSpec.upto fnExactIsRepeatedSpec)

/-- 'laws.FnExactRepeatedSum', WHERE WHAT IT READS IS OF BULK AT MOST 1048576: true; the input reads as it did. -/
def fnExactRepeatedSumUptoRow : OpenClaim := { program := "ytponpllfojhfiab", sum := "ed993bc3c6f46c974dc37c05fa41649943d0a4fe88d8be40d99f8ebc85675e89", func := "loop.example/g01107/laws.FnExactRepeatedSum", spec := "fnExactRepeatedSum", apart := false, narrowed := true }
def FnExactRepeatedSumUptoSaid : Prop := fnExactRepeatedSumUptoRow.holds Try.pinned (OpenSpec.upto fnExactRepeatedSumSpec)

/-- 'laws.FnExactGreedyBelow', WHERE WHAT IT READS IS OF BULK AT MOST 1048576: true; the input reads as it did. -/
def fnExactGreedyBelowUptoRow : OpenClaim := { program := "ytponpllfojhfiab", sum := "ed993bc3c6f46c974dc37c05fa41649943d0a4fe88d8be40d99f8ebc85675e89", func := "loop.example/g01107/laws.FnExactGreedyBelow", spec := "fnExactGreedyBelow", apart := false, narrowed := true }
def FnExactGreedyBelowUptoSaid : Prop := fnExactGreedyBelowUptoRow.holds Try.pinned (OpenSpec.upto fnExactGreedyBelowSpec)

/-- 'laws.FnExactIsNext', WHERE WHAT IT READS IS OF BULK AT MOST 1048576: true; the input reads as it did. -/
def fnExactIsNextUptoRow : OpenClaim := { program := "ytponpllfojhfiab", sum := "ed993bc3c6f46c974dc37c05fa41649943d0a4fe88d8be40d99f8ebc85675e89", func := "loop.example/g01107/laws.FnExactIsNext", spec := "fnExactIsNext", apart := false, narrowed := true }
def FnExactIsNextUptoSaid : Prop := fnExactIsNextUptoRow.holds Try.pinned (OpenSpec.upto fnExactIsNextSpec)

/-- 'laws.FnExactHarmonicOf', WHERE WHAT IT READS IS OF BULK AT MOST 1048576: true; the input reads as it did. -/
def fnExactHarmonicOfUptoRow : OpenClaim := { program := "ytponpllfojhfiab", sum := "ed993bc3c6f46c974dc37c05fa41649943d0a4fe88d8be40d99f8ebc85675e89", func := "loop.example/g01107/laws.FnExactHarmonicOf", spec := "fnExactHarmonicOf", apart := false, narrowed := true }
def FnExactHarmonicOfUptoSaid : Prop := fnExactHarmonicOfUptoRow.holds Try.pinned (OpenSpec.upto fnExactHarmonicOfSpec)

/-- 'laws.FnExactHarmonicPast', WHERE WHAT IT READS IS OF BULK AT MOST 1048576: true; the input reads as it did. -/
def fnExactHarmonicPastUptoRow : OpenClaim := { program := "ytponpllfojhfiab", sum := "ed993bc3c6f46c974dc37c05fa41649943d0a4fe88d8be40d99f8ebc85675e89", func := "loop.example/g01107/laws.FnExactHarmonicPast", spec := "fnExactHarmonicPast", apart := false, narrowed := true }
def FnExactHarmonicPastUptoSaid : Prop := fnExactHarmonicPastUptoRow.holds Try.pinned (OpenSpec.upto fnExactHarmonicPastSpec)

/-- 'laws.FnExactRangeSum', WHERE WHAT IT READS IS OF BULK AT MOST 1048576: true; the input reads as it did. -/
def fnExactRangeSumUptoRow : OpenClaim := { program := "ytponpllfojhfiab", sum := "ed993bc3c6f46c974dc37c05fa41649943d0a4fe88d8be40d99f8ebc85675e89", func := "loop.example/g01107/laws.FnExactRangeSum", spec := "fnExactRangeSum", apart := false, narrowed := true }
def FnExactRangeSumUptoSaid : Prop := fnExactRangeSumUptoRow.holds Try.pinned (OpenSpec.upto fnExactRangeSumSpec)

/-- 'laws.FnExactZnamFails', WHERE WHAT IT READS IS OF BULK AT MOST 1048576: true; the input reads as it did. -/
def fnExactZnamFailsUptoRow : OpenClaim := { program := "ytponpllfojhfiab", sum := "ed993bc3c6f46c974dc37c05fa41649943d0a4fe88d8be40d99f8ebc85675e89", func := "loop.example/g01107/laws.FnExactZnamFails", spec := "fnExactZnamFails", apart := false, narrowed := true }
def FnExactZnamFailsUptoSaid : Prop := fnExactZnamFailsUptoRow.holds Try.pinned (OpenSpec.upto fnExactZnamFailsSpec)

/-- 'laws.FnNextNumbers', WHERE WHAT IT READS IS OF BULK AT MOST 1048576: true; the input reads as it did. -/
def fnNextNumbersUptoRow : OpenClaim := { program := "ytponpllfojhfiab", sum := "ed993bc3c6f46c974dc37c05fa41649943d0a4fe88d8be40d99f8ebc85675e89", func := "loop.example/g01107/laws.FnNextNumbers", spec := "fnNextNumbers", apart := false, narrowed := true }
def FnNextNumbersUptoSaid : Prop := fnNextNumbersUptoRow.holds Try.pinned (OpenSpec.upto fnNextNumbersSpec)

end Rows
end Go.Proofs.Ytponpllfojhfiab
