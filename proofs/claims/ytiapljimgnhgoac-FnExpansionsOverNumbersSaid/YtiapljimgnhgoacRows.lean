/-
  No cell of these rows narrows 'for every input' (looked for: loops, veiled, ifaces, maps, wideKeys, modest, calm, conditions, laid).
  DERIVED. THE GIVEN ROWS OF THIS SEAT. 3 by the template 'for every input the law returns true; each argument reads behind the call as it read before'; 0 by the template 'total and deterministic' (their statements: YtiapljimgnhgoacTotals.lean).
  GIVEN WITH THE SEED: the statements are not yours to turn. If you find one false, say at which input.
  Laid BY PROGRAM, IN A SANDBOX (cutbox-rows.mjs): the forced cells as the released guide's own fill.sh prints them over the translation d0d679e8e4aeb1a9… (all of the seat's roots in one cut). By AI agents, Wed Nov 11 2026. No macro, syntax, notation, axiom, sorry.
-/
import Derived.Test.YtiapljimgnhgoacChecked
import GoSem.Claim
import GoSem.ClaimJoined
import GoSem.ClaimMapViews
import Derived.JoinedTies
import Derived.KernelRfl
namespace Go.Proofs.Ytiapljimgnhgoac
/- THE CELL 'sum', in the pinned program and in every row, IS THE sha256 OF THE DUMP (.gsa) THAT YtiapljimgnhgoacProg.lean LOADS. Nothing in Lean hashes anything: it is a label: what it is worth is what the hold of that sum in a sandbox is worth. -/
noncomputable def Try.pinned : Pinned := { name := "ytiapljimgnhgoac", sum := "d0d679e8e4aeb1a9d3576983576802cf52469f4453724770e668bb2db9d626be", checked := Try.checked }
namespace Rows
def none {H : Type} : Left H := { results := [], args := [] }

/-- 'laws.FnDivisorWitnesses': WHATEVER THE INPUT: true; the input reads as it did. -/
def fnDivisorWitnessesSpec : ChangeSpec := { name := "fnDivisorWitnesses", fn := fun _ => fun
  | [d1, d2] => { results := [.lit (.bool true)], args := [d1, d2] }
  | _ => none }
def fnDivisorWitnessesRow : OpenClaim := { program := "ytiapljimgnhgoac", sum := "d0d679e8e4aeb1a9d3576983576802cf52469f4453724770e668bb2db9d626be", func := "loop.example/g01107/laws.FnDivisorWitnesses", spec := "fnDivisorWitnesses", inPlace := ["maps.clone"], unfollowed := true, recurses := true, apart := false }
def FnDivisorWitnessesSaid : Prop := fnDivisorWitnessesRow.holds Try.pinned (OpenSpec.ofChange fnDivisorWitnessesSpec)

/-- ITS FALSE NEIGHBOUR: 'it returns false'. Refute it at one input. -/
def fnDivisorWitnessesWrong : ChangeSpec := { name := "fnDivisorWitnesses", fn := fun _ => fun
  | [d1, d2] => { results := [.lit (.bool false)], args := [d1, d2] }
  | _ => none }
def FnDivisorWitnessesWrongFalsely : Prop := fnDivisorWitnessesRow.holds Try.pinned (OpenSpec.ofChange fnDivisorWitnessesWrong)

/-- 'laws.FnPracticalLists': WHATEVER THE INPUT: true; the input reads as it did. -/
def fnPracticalListsSpec : ChangeSpec := { name := "fnPracticalLists", fn := fun _ => fun
  | [d1, d2] => { results := [.lit (.bool true)], args := [d1, d2] }
  | _ => none }
def fnPracticalListsRow : OpenClaim := { program := "ytiapljimgnhgoac", sum := "d0d679e8e4aeb1a9d3576983576802cf52469f4453724770e668bb2db9d626be", func := "loop.example/g01107/laws.FnPracticalLists", spec := "fnPracticalLists", apart := false }
def FnPracticalListsSaid : Prop := fnPracticalListsRow.holds Try.pinned (OpenSpec.ofChange fnPracticalListsSpec)

/-- ITS FALSE NEIGHBOUR: 'it returns false'. Refute it at one input. -/
def fnPracticalListsWrong : ChangeSpec := { name := "fnPracticalLists", fn := fun _ => fun
  | [d1, d2] => { results := [.lit (.bool false)], args := [d1, d2] }
  | _ => none }
def FnPracticalListsWrongFalsely : Prop := fnPracticalListsRow.holds Try.pinned (OpenSpec.ofChange fnPracticalListsWrong)

/-- 'laws.FnExpansionsOverNumbers': WHATEVER THE INPUT: true; the input reads as it did. -/
def fnExpansionsOverNumbersSpec : ChangeSpec := { name := "fnExpansionsOverNumbers", fn := fun _ => fun
  | [d1, d2] => { results := [.lit (.bool true)], args := [d1, d2] }
  | _ => none }
def fnExpansionsOverNumbersRow : OpenClaim := { program := "ytiapljimgnhgoac", sum := "d0d679e8e4aeb1a9d3576983576802cf52469f4453724770e668bb2db9d626be", func := "loop.example/g01107/laws.FnExpansionsOverNumbers", spec := "fnExpansionsOverNumbers", inPlace := ["maps.clone"], unfollowed := true, recurses := true, apart := false }
def FnExpansionsOverNumbersSaid : Prop := fnExpansionsOverNumbersRow.holds Try.pinned (OpenSpec.ofChange fnExpansionsOverNumbersSpec)

/-- ITS FALSE NEIGHBOUR: 'it returns false'. Refute it at one input. -/
def fnExpansionsOverNumbersWrong : ChangeSpec := { name := "fnExpansionsOverNumbers", fn := fun _ => fun
  | [d1, d2] => { results := [.lit (.bool false)], args := [d1, d2] }
  | _ => none }
def FnExpansionsOverNumbersWrongFalsely : Prop := fnExpansionsOverNumbersRow.holds Try.pinned (OpenSpec.ofChange fnExpansionsOverNumbersWrong)

/- THE SECOND FORM. 'bulk': how many values and letters a reading holds, each counted each time it is reached (what is shared counts as often as it is met; a slice's spare places count too). A statement '..UptoSaid' is the law's where the arguments, and the package variables that the reading takes, are together of bulk at most 1048576: NARROWER than '..Said'. Prove '..Said' where nothing that the law and all that it calls make is longer than what came in: it says more and counts as full. Else prove '..UptoSaid'. A law counts once. -/
mutual
def uptoBulk {H : Type} : DataW H → Nat
  | .lit (.string bytes) => bytes.length + 1
  | .lit _ => 1
  | .nil => 1
  | .ptr d => uptoBulk d + 1
  | .slice elems spare => uptoBulkAll elems + uptoBulkAll spare + 1
  | .agg parts => uptoBulkAll parts + 1
  | .iface _ d => uptoBulk d + 1
  | .map entries => uptoBulkEntries entries + 1
  | .held _ => 1
def uptoBulkAll {H : Type} : List (DataW H) → Nat
  | [] => 0
  | d :: r => uptoBulk d + uptoBulkAll r
def uptoBulkEntries {H : Type} : List (Lit × DataW H) → Nat
  | [] => 0
  | x :: r => uptoBulkEntry x + uptoBulkEntries r
def uptoBulkEntry {H : Type} : Lit × DataW H → Nat
  | (.string bytes, d) => bytes.length + uptoBulk d + 1
  | (_, d) => uptoBulk d + 1
 end
def uptoSmall : (H : Type) → List (DataW H) → Bool := fun _ ds => decide (uptoBulkAll ds ≤ 1048576)
def OpenSpec.upto (s : _root_.Go.ChangeSpec) : _root_.Go.OpenSpec := { _root_.Go.OpenSpec.ofChange s with cond := some uptoSmall }

/-- 'laws.FnDivisorWitnesses', WHERE WHAT IT READS IS OF BULK AT MOST 1048576: true; the input reads as it did. -/
def fnDivisorWitnessesUptoRow : OpenClaim := { program := "ytiapljimgnhgoac", sum := "d0d679e8e4aeb1a9d3576983576802cf52469f4453724770e668bb2db9d626be", func := "loop.example/g01107/laws.FnDivisorWitnesses", spec := "fnDivisorWitnesses", inPlace := ["maps.clone"], unfollowed := true, recurses := true, apart := false, narrowed := true }
def FnDivisorWitnessesUptoSaid : Prop := fnDivisorWitnessesUptoRow.holds Try.pinned (OpenSpec.upto fnDivisorWitnessesSpec)

/-- 'laws.FnPracticalLists', WHERE WHAT IT READS IS OF BULK AT MOST 1048576: true; the input reads as it did. -/
def fnPracticalListsUptoRow : OpenClaim := { program := "ytiapljimgnhgoac", sum := "d0d679e8e4aeb1a9d3576983576802cf52469f4453724770e668bb2db9d626be", func := "loop.example/g01107/laws.FnPracticalLists", spec := "fnPracticalLists", apart := false, narrowed := true }
def FnPracticalListsUptoSaid : Prop := fnPracticalListsUptoRow.holds Try.pinned (OpenSpec.upto fnPracticalListsSpec)

/-- 'laws.FnExpansionsOverNumbers', WHERE WHAT IT READS IS OF BULK AT MOST 1048576: true; the input reads as it did. -/
def fnExpansionsOverNumbersUptoRow : OpenClaim := { program := "ytiapljimgnhgoac", sum := "d0d679e8e4aeb1a9d3576983576802cf52469f4453724770e668bb2db9d626be", func := "loop.example/g01107/laws.FnExpansionsOverNumbers", spec := "fnExpansionsOverNumbers", inPlace := ["maps.clone"], unfollowed := true, recurses := true, apart := false, narrowed := true }
def FnExpansionsOverNumbersUptoSaid : Prop := fnExpansionsOverNumbersUptoRow.holds Try.pinned (OpenSpec.upto fnExpansionsOverNumbersSpec)

end Rows
end Go.Proofs.Ytiapljimgnhgoac
