/-
  No cell of these rows narrows 'for every input' (looked for: loops, veiled, ifaces, maps, wideKeys, modest, calm, conditions, laid).
  DERIVED. THE GIVEN ROWS OF THIS SEAT. 8 by the template 'for every input the law returns true; each argument reads behind the call as it read before'; 0 by the template 'total and deterministic' (their statements: YtdpllknpdmkifaaTotals.lean).
  GIVEN WITH THE SEED: the statements are not yours to turn. If you find one false, say at which input.
  Laid BY PROGRAM, IN A SANDBOX (cutbox-rows.mjs): the forced cells as the released guide's own fill.sh prints them over the translation 661d40b6e0eab028… (all of the seat's roots in one cut). By AI agents, Wed Nov 11 2026. No macro, syntax, notation, axiom, sorry.
-/
import Derived.Test.YtdpllknpdmkifaaChecked
import GoSem.Claim
import GoSem.ClaimJoined
import GoSem.ClaimMapViews
import Derived.JoinedTies
import Derived.KernelRfl
namespace Go.Proofs.Ytdpllknpdmkifaa
/- THE CELL 'sum', in the pinned program and in every row, IS THE sha256 OF THE DUMP (.gsa) THAT YtdpllknpdmkifaaProg.lean LOADS. Nothing in Lean hashes anything: it is a label: what it is worth is what the hold of that sum in a sandbox is worth. -/
noncomputable def Try.pinned : Pinned := { name := "ytdpllknpdmkifaa", sum := "661d40b6e0eab0288408e643b88d180014fca891593df969d2f6168556a0d4d6", checked := Try.checked }
namespace Rows
def none {H : Type} : Left H := { results := [], args := [] }

/-- 'laws.FnExactGreedyStep': WHATEVER THE INPUT: true; the input reads as it did. -/
def fnExactGreedyStepSpec : ChangeSpec := { name := "fnExactGreedyStep", fn := fun _ => fun
  | [d] => { results := [.lit (.bool true)], args := [d] }
  | _ => none }
def fnExactGreedyStepRow : OpenClaim := { program := "ytdpllknpdmkifaa", sum := "661d40b6e0eab0288408e643b88d180014fca891593df969d2f6168556a0d4d6", func := "loop.example/g01107/laws.FnExactGreedyStep", spec := "fnExactGreedyStep", apart := false }
def FnExactGreedyStepSaid : Prop := fnExactGreedyStepRow.holds Try.pinned (OpenSpec.ofChange fnExactGreedyStepSpec)

/-- ITS FALSE NEIGHBOUR: 'it returns false'. Refute it at one input. -/
def fnExactGreedyStepWrong : ChangeSpec := { name := "fnExactGreedyStep", fn := fun _ => fun
  | [d] => { results := [.lit (.bool false)], args := [d] }
  | _ => none }
def FnExactGreedyStepWrongFalsely : Prop := fnExactGreedyStepRow.holds Try.pinned (OpenSpec.ofChange fnExactGreedyStepWrong)

/-- 'laws.FnExactSylvesterTerm': WHATEVER THE INPUT: true; the input reads as it did. -/
def fnExactSylvesterTermSpec : ChangeSpec := { name := "fnExactSylvesterTerm", fn := fun _ => fun
  | [d] => { results := [.lit (.bool true)], args := [d] }
  | _ => none }
def fnExactSylvesterTermRow : OpenClaim := { program := "ytdpllknpdmkifaa", sum := "661d40b6e0eab0288408e643b88d180014fca891593df969d2f6168556a0d4d6", func := "loop.example/g01107/laws.FnExactSylvesterTerm", spec := "fnExactSylvesterTerm", apart := false }
def FnExactSylvesterTermSaid : Prop := fnExactSylvesterTermRow.holds Try.pinned (OpenSpec.ofChange fnExactSylvesterTermSpec)

/-- ITS FALSE NEIGHBOUR: 'it returns false'. Refute it at one input. -/
def fnExactSylvesterTermWrong : ChangeSpec := { name := "fnExactSylvesterTerm", fn := fun _ => fun
  | [d] => { results := [.lit (.bool false)], args := [d] }
  | _ => none }
def FnExactSylvesterTermWrongFalsely : Prop := fnExactSylvesterTermRow.holds Try.pinned (OpenSpec.ofChange fnExactSylvesterTermWrong)

/-- 'laws.FnExactSylvesterGap': WHATEVER THE INPUT: true; the input reads as it did. -/
def fnExactSylvesterGapSpec : ChangeSpec := { name := "fnExactSylvesterGap", fn := fun _ => fun
  | [d] => { results := [.lit (.bool true)], args := [d] }
  | _ => none }
def fnExactSylvesterGapRow : OpenClaim := { program := "ytdpllknpdmkifaa", sum := "661d40b6e0eab0288408e643b88d180014fca891593df969d2f6168556a0d4d6", func := "loop.example/g01107/laws.FnExactSylvesterGap", spec := "fnExactSylvesterGap", apart := false }
def FnExactSylvesterGapSaid : Prop := fnExactSylvesterGapRow.holds Try.pinned (OpenSpec.ofChange fnExactSylvesterGapSpec)

/-- ITS FALSE NEIGHBOUR: 'it returns false'. Refute it at one input. -/
def fnExactSylvesterGapWrong : ChangeSpec := { name := "fnExactSylvesterGap", fn := fun _ => fun
  | [d] => { results := [.lit (.bool false)], args := [d] }
  | _ => none }
def FnExactSylvesterGapWrongFalsely : Prop := fnExactSylvesterGapRow.holds Try.pinned (OpenSpec.ofChange fnExactSylvesterGapWrong)

/-- 'laws.FnExactGrowthHolds': WHATEVER THE INPUT: true; the input reads as it did. -/
def fnExactGrowthHoldsSpec : ChangeSpec := { name := "fnExactGrowthHolds", fn := fun _ => fun
  | [d] => { results := [.lit (.bool true)], args := [d] }
  | _ => none }
def fnExactGrowthHoldsRow : OpenClaim := { program := "ytdpllknpdmkifaa", sum := "661d40b6e0eab0288408e643b88d180014fca891593df969d2f6168556a0d4d6", func := "loop.example/g01107/laws.FnExactGrowthHolds", spec := "fnExactGrowthHolds", apart := false }
def FnExactGrowthHoldsSaid : Prop := fnExactGrowthHoldsRow.holds Try.pinned (OpenSpec.ofChange fnExactGrowthHoldsSpec)

/-- ITS FALSE NEIGHBOUR: 'it returns false'. Refute it at one input. -/
def fnExactGrowthHoldsWrong : ChangeSpec := { name := "fnExactGrowthHolds", fn := fun _ => fun
  | [d] => { results := [.lit (.bool false)], args := [d] }
  | _ => none }
def FnExactGrowthHoldsWrongFalsely : Prop := fnExactGrowthHoldsRow.holds Try.pinned (OpenSpec.ofChange fnExactGrowthHoldsWrong)

/-- 'laws.FnExactFromEngel': WHATEVER THE INPUT: true; the input reads as it did. -/
def fnExactFromEngelSpec : ChangeSpec := { name := "fnExactFromEngel", fn := fun _ => fun
  | [d] => { results := [.lit (.bool true)], args := [d] }
  | _ => none }
def fnExactFromEngelRow : OpenClaim := { program := "ytdpllknpdmkifaa", sum := "661d40b6e0eab0288408e643b88d180014fca891593df969d2f6168556a0d4d6", func := "loop.example/g01107/laws.FnExactFromEngel", spec := "fnExactFromEngel", apart := false }
def FnExactFromEngelSaid : Prop := fnExactFromEngelRow.holds Try.pinned (OpenSpec.ofChange fnExactFromEngelSpec)

/-- ITS FALSE NEIGHBOUR: 'it returns false'. Refute it at one input. -/
def fnExactFromEngelWrong : ChangeSpec := { name := "fnExactFromEngel", fn := fun _ => fun
  | [d] => { results := [.lit (.bool false)], args := [d] }
  | _ => none }
def FnExactFromEngelWrongFalsely : Prop := fnExactFromEngelRow.holds Try.pinned (OpenSpec.ofChange fnExactFromEngelWrong)

/-- 'laws.FnExactIsEngel': WHATEVER THE INPUT: true; the input reads as it did. -/
def fnExactIsEngelSpec : ChangeSpec := { name := "fnExactIsEngel", fn := fun _ => fun
  | [d] => { results := [.lit (.bool true)], args := [d] }
  | _ => none }
def fnExactIsEngelRow : OpenClaim := { program := "ytdpllknpdmkifaa", sum := "661d40b6e0eab0288408e643b88d180014fca891593df969d2f6168556a0d4d6", func := "loop.example/g01107/laws.FnExactIsEngel", spec := "fnExactIsEngel", apart := false }
def FnExactIsEngelSaid : Prop := fnExactIsEngelRow.holds Try.pinned (OpenSpec.ofChange fnExactIsEngelSpec)

/-- ITS FALSE NEIGHBOUR: 'it returns false'. Refute it at one input. -/
def fnExactIsEngelWrong : ChangeSpec := { name := "fnExactIsEngel", fn := fun _ => fun
  | [d] => { results := [.lit (.bool false)], args := [d] }
  | _ => none }
def FnExactIsEngelWrongFalsely : Prop := fnExactIsEngelRow.holds Try.pinned (OpenSpec.ofChange fnExactIsEngelWrong)

/-- 'laws.FnExactFromPierce': WHATEVER THE INPUT: true; the input reads as it did. -/
def fnExactFromPierceSpec : ChangeSpec := { name := "fnExactFromPierce", fn := fun _ => fun
  | [d] => { results := [.lit (.bool true)], args := [d] }
  | _ => none }
def fnExactFromPierceRow : OpenClaim := { program := "ytdpllknpdmkifaa", sum := "661d40b6e0eab0288408e643b88d180014fca891593df969d2f6168556a0d4d6", func := "loop.example/g01107/laws.FnExactFromPierce", spec := "fnExactFromPierce", unfollowed := true, recurses := true, apart := false }
def FnExactFromPierceSaid : Prop := fnExactFromPierceRow.holds Try.pinned (OpenSpec.ofChange fnExactFromPierceSpec)

/-- ITS FALSE NEIGHBOUR: 'it returns false'. Refute it at one input. -/
def fnExactFromPierceWrong : ChangeSpec := { name := "fnExactFromPierce", fn := fun _ => fun
  | [d] => { results := [.lit (.bool false)], args := [d] }
  | _ => none }
def FnExactFromPierceWrongFalsely : Prop := fnExactFromPierceRow.holds Try.pinned (OpenSpec.ofChange fnExactFromPierceWrong)

/-- 'laws.FnExactIsPierce': WHATEVER THE INPUT: true; the input reads as it did. -/
def fnExactIsPierceSpec : ChangeSpec := { name := "fnExactIsPierce", fn := fun _ => fun
  | [d] => { results := [.lit (.bool true)], args := [d] }
  | _ => none }
def fnExactIsPierceRow : OpenClaim := { program := "ytdpllknpdmkifaa", sum := "661d40b6e0eab0288408e643b88d180014fca891593df969d2f6168556a0d4d6", func := "loop.example/g01107/laws.FnExactIsPierce", spec := "fnExactIsPierce", unfollowed := true, recurses := true, apart := false }
def FnExactIsPierceSaid : Prop := fnExactIsPierceRow.holds Try.pinned (OpenSpec.ofChange fnExactIsPierceSpec)

/-- ITS FALSE NEIGHBOUR: 'it returns false'. Refute it at one input. -/
def fnExactIsPierceWrong : ChangeSpec := { name := "fnExactIsPierce", fn := fun _ => fun
  | [d] => { results := [.lit (.bool false)], args := [d] }
  | _ => none }
def FnExactIsPierceWrongFalsely : Prop := fnExactIsPierceRow.holds Try.pinned (OpenSpec.ofChange fnExactIsPierceWrong)

/- THE SECOND FORM. 'bulk': how many values and letters a reading holds, each counted each time it is reached (what is shared counts as often as it is met; a slice's spare places count too). A statement '..UptoSaid' is the law's where the arguments, and the package variables that the reading takes, are together of bulk at most 1048576: NARROWER than '..Said'. Prove '..Said' where nothing that the law and all that it calls make is longer than what came in: it says more and counts as full. Else prove '..UptoSaid'. A law counts once. -/
mutual
def uptoBulk {H : Type} : DataW H → Nat
  | .lit (.string bytes) => bytes.length + 1
  | .lit _ => 1
  | .nil => 1
  | .ptr d => uptoBulk d + 1
  | .slice elems spare => uptoBulkAll elems + uptoBulkAll spare + 1
  | .agg parts => uptoBulkAll parts + 1
  | .iface _ d => uptoBulk d + 1
  | .map entries => uptoBulkEntries entries + 1
  | .held _ => 1
def uptoBulkAll {H : Type} : List (DataW H) → Nat
  | [] => 0
  | d :: r => uptoBulk d + uptoBulkAll r
def uptoBulkEntries {H : Type} : List (Lit × DataW H) → Nat
  | [] => 0
  | x :: r => uptoBulkEntry x + uptoBulkEntries r
def uptoBulkEntry {H : Type} : Lit × DataW H → Nat
  | (.string bytes, d) => bytes.length + uptoBulk d + 1
  | (_, d) => uptoBulk d + 1
 end
def uptoSmall : (H : Type) → List (DataW H) → Bool := fun _ ds => decide (uptoBulkAll ds ≤ 1048576)
def OpenSpec.upto (s : _root_.Go.ChangeSpec) : _root_.Go.OpenSpec := { _root_.Go.OpenSpec.ofChange s with cond := some uptoSmall }

/-- 'laws.FnExactGreedyStep', WHERE WHAT IT READS IS OF BULK AT MOST 1048576: true; the input reads as it did. -/
def fnExactGreedyStepUptoRow : OpenClaim := { program := "ytdpllknpdmkifaa", sum := "661d40b6e0eab0288408e643b88d180014fca891593df969d2f6168556a0d4d6", func := "loop.example/g01107/laws.FnExactGreedyStep", spec := "fnExactGreedyStep", apart := false, narrowed := true }
def FnExactGreedyStepUptoSaid : Prop := fnExactGreedyStepUptoRow.holds Try.pinned (OpenSpec.upto fnExactGreedyStepSpec)

/-- 'laws.FnExactSylvesterTerm', WHERE WHAT IT READS IS OF BULK AT MOST 1048576: true; the input reads as it did. -/
def fnExactSylvesterTermUptoRow : OpenClaim := { program := "ytdpllknpdmkifaa", sum := "661d40b6e0eab0288408e643b88d180014fca891593df969d2f6168556a0d4d6", func := "loop.example/g01107/laws.FnExactSylvesterTerm", spec := "fnExactSylvesterTerm", apart := false, narrowed := true }
def FnExactSylvesterTermUptoSaid : Prop := fnExactSylvesterTermUptoRow.holds Try.pinned (OpenSpec.upto fnExactSylvesterTermSpec)

/-- 'laws.FnExactSylvesterGap', WHERE WHAT IT READS IS OF BULK AT MOST 1048576: true; the input reads as it did. -/
def fnExactSylvesterGapUptoRow : OpenClaim := { program := "ytdpllknpdmkifaa", sum := "661d40b6e0eab0288408e643b88d180014fca891593df969d2f6168556a0d4d6", func := "loop.example/g01107/laws.FnExactSylvesterGap", spec := "fnExactSylvesterGap", apart := false, narrowed := true }
def FnExactSylvesterGapUptoSaid : Prop := fnExactSylvesterGapUptoRow.holds Try.pinned (OpenSpec.upto fnExactSylvesterGapSpec)

/-- 'laws.FnExactGrowthHolds', WHERE WHAT IT READS IS OF BULK AT MOST 1048576: true; the input reads as it did. -/
def fnExactGrowthHoldsUptoRow : OpenClaim := { program := "ytdpllknpdmkifaa", sum := "661d40b6e0eab0288408e643b88d180014fca891593df969d2f6168556a0d4d6", func := "loop.example/g01107/laws.FnExactGrowthHolds", spec := "fnExactGrowthHolds", apart := false, narrowed := true }
def FnExactGrowthHoldsUptoSaid : Prop := fnExactGrowthHoldsUptoRow.holds Try.pinned (OpenSpec.upto fnExactGrowthHoldsSpec)

/-- 'laws.FnExactFromEngel', WHERE WHAT IT READS IS OF BULK AT MOST 1048576: true; the input reads as it did. -/
def fnExactFromEngelUptoRow : OpenClaim := { program := "ytdpllknpdmkifaa", sum := "661d40b6e0eab0288408e643b88d180014fca891593df969d2f6168556a0d4d6", func := "loop.example/g01107/laws.FnExactFromEngel", spec := "fnExactFromEngel", apart := false, narrowed := true }
def FnExactFromEngelUptoSaid : Prop := fnExactFromEngelUptoRow.holds Try.pinned (OpenSpec.upto fnExactFromEngelSpec)

/-- 'laws.FnExactIsEngel', WHERE WHAT IT READS IS OF BULK AT MOST 1048576: true; the input reads as it did. -/
def fnExactIsEngelUptoRow : OpenClaim := { program := "ytdpllknpdmkifaa", sum := "661d40b6e0eab0288408e643b88d180014fca891593df969d2f6168556a0d4d6", func := "loop.example/g01107/laws.FnExactIsEngel", spec := "fnExactIsEngel", apart := false, narrowed := true }
def FnExactIsEngelUptoSaid : Prop := fnExactIsEngelUptoRow.holds Try.pinned (OpenSpec.upto fnExactIsEngelSpec)

/-- 'laws.FnExactFromPierce', WHERE WHAT IT READS IS OF BULK AT MOST 1048576: true; the input reads as it did. -/
def fnExactFromPierceUptoRow : OpenClaim := { program := "ytdpllknpdmkifaa", sum := "661d40b6e0eab0288408e643b88d180014fca891593df969d2f6168556a0d4d6", func := "loop.example/g01107/laws.FnExactFromPierce", spec := "fnExactFromPierce", unfollowed := true, recurses := true, apart := false, narrowed := true }
def FnExactFromPierceUptoSaid : Prop := fnExactFromPierceUptoRow.holds Try.pinned (OpenSpec.upto fnExactFromPierceSpec)

/-- 'laws.FnExactIsPierce', WHERE WHAT IT READS IS OF BULK AT MOST 1048576: true; the input reads as it did. -/
def fnExactIsPierceUptoRow : OpenClaim := { program := "ytdpllknpdmkifaa", sum := "661d40b6e0eab0288408e643b88d180014fca891593df969d2f6168556a0d4d6", func := "loop.example/g01107/laws.FnExactIsPierce", spec := "fnExactIsPierce", unfollowed := true, recurses := true, apart := false, narrowed := true }
def FnExactIsPierceUptoSaid : Prop := fnExactIsPierceUptoRow.holds Try.pinned (OpenSpec.upto fnExactIsPierceSpec)

end Rows
end Go.Proofs.Ytdpllknpdmkifaa
