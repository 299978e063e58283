/-
  No cell of these rows narrows 'for every input' (looked for: loops, veiled, ifaces, maps, wideKeys, modest, calm, conditions, laid).
  DERIVED. THE GIVEN ROWS OF THIS SEAT. 3 by the template 'for every input the law returns true; each argument reads behind the call as it read before'; 0 by the template 'total and deterministic' (their statements: YtbjblkfibinenadGreatTotals.lean).
  GIVEN WITH THE SEED: the statements are not yours to turn. If you find one false, say at which input.
  Laid BY PROGRAM, IN A SANDBOX (cutbox-rows.mjs): the forced cells as the released guide's own fill.sh prints them over the translation ba02dc2e5370abd3… (all of the seat's roots in one cut). By AI agents, Wed Nov 11 2026. No macro, syntax, notation, axiom, sorry.
-/
import Derived.Test.YtbjblkfibinenadGreatChecked
import GoSem.Claim
import GoSem.ClaimJoined
import GoSem.ClaimMapViews
import Derived.JoinedTies
import Derived.KernelRfl
namespace Go.Proofs.YtbjblkfibinenadGreat
/- THE CELL 'sum', in the pinned program and in every row, IS THE sha256 OF THE DUMP (.gsa) THAT YtbjblkfibinenadGreatProg.lean LOADS. Nothing in Lean hashes anything: it is a label: what it is worth is what the hold of that sum in a sandbox is worth. -/
noncomputable def Tryz.pinned : Pinned := { name := "ytbjblkfibinenadgreat", sum := "ba02dc2e5370abd37222bc20e90d2d6d703aa04acbb68f42760a5dc0e7bcfa6c", checked := Tryz.checked }
namespace Rows
def none {H : Type} : Left H := { results := [], args := [] }

/-- 'laws.FnGolombEnds': WHATEVER THE INPUT: true; the input reads as it did. -/
def fnGolombEndsSpec : ChangeSpec := { name := "fnGolombEnds", fn := fun _ => fun
  | [d1, d2] => { results := [.lit (.bool true)], args := [d1, d2] }
  | _ => none }
def fnGolombEndsRow : OpenClaim := { program := "ytbjblkfibinenadgreat", sum := "ba02dc2e5370abd37222bc20e90d2d6d703aa04acbb68f42760a5dc0e7bcfa6c", func := "loop.example/g01107/laws.FnGolombEnds", spec := "fnGolombEnds", unfollowed := true, recurses := true, apart := false }
def FnGolombEndsSaid : Prop := fnGolombEndsRow.holds Tryz.pinned (OpenSpec.ofChange fnGolombEndsSpec)

/-- ITS FALSE NEIGHBOUR: 'it returns false'. Refute it at one input. -/
def fnGolombEndsWrong : ChangeSpec := { name := "fnGolombEnds", fn := fun _ => fun
  | [d1, d2] => { results := [.lit (.bool false)], args := [d1, d2] }
  | _ => none }
def FnGolombEndsWrongFalsely : Prop := fnGolombEndsRow.holds Tryz.pinned (OpenSpec.ofChange fnGolombEndsWrong)

/-- 'laws.FnFactorialMethod': WHATEVER THE INPUT: true; the input reads as it did. -/
def fnFactorialMethodSpec : ChangeSpec := { name := "fnFactorialMethod", fn := fun _ => fun
  | [d1, d2] => { results := [.lit (.bool true)], args := [d1, d2] }
  | _ => none }
def fnFactorialMethodRow : OpenClaim := { program := "ytbjblkfibinenadgreat", sum := "ba02dc2e5370abd37222bc20e90d2d6d703aa04acbb68f42760a5dc0e7bcfa6c", func := "loop.example/g01107/laws.FnFactorialMethod", spec := "fnFactorialMethod", unfollowed := true, recurses := true, apart := false }
def FnFactorialMethodSaid : Prop := fnFactorialMethodRow.holds Tryz.pinned (OpenSpec.ofChange fnFactorialMethodSpec)

/-- ITS FALSE NEIGHBOUR: 'it returns false'. Refute it at one input. -/
def fnFactorialMethodWrong : ChangeSpec := { name := "fnFactorialMethod", fn := fun _ => fun
  | [d1, d2] => { results := [.lit (.bool false)], args := [d1, d2] }
  | _ => none }
def FnFactorialMethodWrongFalsely : Prop := fnFactorialMethodRow.holds Tryz.pinned (OpenSpec.ofChange fnFactorialMethodWrong)

/-- 'laws.FnPairsAndSplits': WHATEVER THE INPUT: true; the input reads as it did. -/
def fnPairsAndSplitsSpec : ChangeSpec := { name := "fnPairsAndSplits", fn := fun _ => fun
  | [d1, d2] => { results := [.lit (.bool true)], args := [d1, d2] }
  | _ => none }
def fnPairsAndSplitsRow : OpenClaim := { program := "ytbjblkfibinenadgreat", sum := "ba02dc2e5370abd37222bc20e90d2d6d703aa04acbb68f42760a5dc0e7bcfa6c", func := "loop.example/g01107/laws.FnPairsAndSplits", spec := "fnPairsAndSplits", unfollowed := true, recurses := true, apart := false }
def FnPairsAndSplitsSaid : Prop := fnPairsAndSplitsRow.holds Tryz.pinned (OpenSpec.ofChange fnPairsAndSplitsSpec)

/-- ITS FALSE NEIGHBOUR: 'it returns false'. Refute it at one input. -/
def fnPairsAndSplitsWrong : ChangeSpec := { name := "fnPairsAndSplits", fn := fun _ => fun
  | [d1, d2] => { results := [.lit (.bool false)], args := [d1, d2] }
  | _ => none }
def FnPairsAndSplitsWrongFalsely : Prop := fnPairsAndSplitsRow.holds Tryz.pinned (OpenSpec.ofChange fnPairsAndSplitsWrong)

/- THE SECOND FORM. 'bulk': how many values and letters a reading holds, each counted each time it is reached (what is shared counts as often as it is met; a slice's spare places count too). A statement '..UptoSaid' is the law's where the arguments, and the package variables that the reading takes, are together of bulk at most 1048576: NARROWER than '..Said'. Prove '..Said' where nothing that the law and all that it calls make is longer than what came in: it says more and counts as full. Else prove '..UptoSaid'. A law counts once. -/
mutual
def uptoBulk {H : Type} : DataW H → Nat
  | .lit (.string bytes) => bytes.length + 1
  | .lit _ => 1
  | .nil => 1
  | .ptr d => uptoBulk d + 1
  | .slice elems spare => uptoBulkAll elems + uptoBulkAll spare + 1
  | .agg parts => uptoBulkAll parts + 1
  | .iface _ d => uptoBulk d + 1
  | .map entries => uptoBulkEntries entries + 1
  | .held _ => 1
def uptoBulkAll {H : Type} : List (DataW H) → Nat
  | [] => 0
  | d :: r => uptoBulk d + uptoBulkAll r
def uptoBulkEntries {H : Type} : List (Lit × DataW H) → Nat
  | [] => 0
  | x :: r => uptoBulkEntry x + uptoBulkEntries r
def uptoBulkEntry {H : Type} : Lit × DataW H → Nat
  | (.string bytes, d) => bytes.length + uptoBulk d + 1
  | (_, d) => uptoBulk d + 1
 end
def uptoSmall : (H : Type) → List (DataW H) → Bool := fun _ ds => decide (uptoBulkAll ds ≤ 1048576)
def OpenSpec.upto (s : _root_.Go.ChangeSpec) : _root_.Go.OpenSpec := { _root_.Go.OpenSpec.ofChange s with cond := some uptoSmall }

/-- 'laws.FnGolombEnds', WHERE WHAT IT READS IS OF BULK AT MOST 1048576: true; the input reads as it did. -/
def fnGolombEndsUptoRow : OpenClaim := { program := "ytbjblkfibinenadgreat", sum := "ba02dc2e5370abd37222bc20e90d2d6d703aa04acbb68f42760a5dc0e7bcfa6c", func := "loop.example/g01107/laws.FnGolombEnds", spec := "fnGolombEnds", unfollowed := true, recurses := true, apart := false, narrowed := true }
def FnGolombEndsUptoSaid : Prop := fnGolombEndsUptoRow.holds Tryz.pinned (OpenSpec.upto fnGolombEndsSpec)

/-- 'laws.FnFactorialMethod', WHERE WHAT IT READS IS OF BULK AT MOST 1048576: true; the input reads as it did. -/
def fnFactorialMethodUptoRow : OpenClaim := { program := "ytbjblkfibinenadgreat", sum := "ba02dc2e5370abd37222bc20e90d2d6d703aa04acbb68f42760a5dc0e7bcfa6c", func := "loop.example/g01107/laws.FnFactorialMethod", spec := "fnFactorialMethod", unfollowed := true, recurses := true, apart := false, narrowed := true }
def FnFactorialMethodUptoSaid : Prop := fnFactorialMethodUptoRow.holds Tryz.pinned (OpenSpec.upto fnFactorialMethodSpec)

/-- 'laws.FnPairsAndSplits', WHERE WHAT IT READS IS OF BULK AT MOST 1048576: true; the input reads as it did. -/
def fnPairsAndSplitsUptoRow : OpenClaim := { program := "ytbjblkfibinenadgreat", sum := "ba02dc2e5370abd37222bc20e90d2d6d703aa04acbb68f42760a5dc0e7bcfa6c", func := "loop.example/g01107/laws.FnPairsAndSplits", spec := "fnPairsAndSplits", unfollowed := true, recurses := true, apart := false, narrowed := true }
def FnPairsAndSplitsUptoSaid : Prop := fnPairsAndSplitsUptoRow.holds Tryz.pinned (OpenSpec.upto fnPairsAndSplitsSpec)

end Rows
end Go.Proofs.YtbjblkfibinenadGreat
