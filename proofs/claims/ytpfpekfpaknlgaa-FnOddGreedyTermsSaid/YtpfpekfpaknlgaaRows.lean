/-
  No cell of these rows narrows 'for every input' (looked for: loops, veiled, ifaces, maps, wideKeys, modest, calm, conditions, laid).
  DERIVED. THE GIVEN ROWS OF THIS SEAT. 8 by the template 'for every input the law returns true; each argument reads behind the call as it read before'; 0 by the template 'total and deterministic' (their statements: YtpfpekfpaknlgaaTotals.lean).
  GIVEN WITH THE SEED: the statements are not yours to turn. If you find one false, say at which input.
  Laid BY PROGRAM, IN A SANDBOX (cutbox-rows.mjs): the forced cells as the released guide's own fill.sh prints them over the translation 630b2e5e95142603… (all of the seat's roots in one cut). By AI agents, Wed Nov 11 2026. No macro, syntax, notation, axiom, sorry.
-/
import Derived.Test.YtpfpekfpaknlgaaChecked
import GoSem.Claim
import GoSem.ClaimJoined
import GoSem.ClaimMapViews
import Derived.JoinedTies
import Derived.KernelRfl
namespace Go.Proofs.Ytpfpekfpaknlgaa
/- THE CELL 'sum', in the pinned program and in every row, IS THE sha256 OF THE DUMP (.gsa) THAT YtpfpekfpaknlgaaProg.lean LOADS. Nothing in Lean hashes anything: it is a label: what it is worth is what the hold of that sum in a sandbox is worth. -/
noncomputable def Try.pinned : Pinned := { name := "ytpfpekfpaknlgaa", sum := "630b2e5e95142603d82f9cf2d024e204df9a4c85a605731d62b642c4c6e1f59d", checked := Try.checked }
namespace Rows
def none {H : Type} : Left H := { results := [], args := [] }

/-- 'laws.FnEngelLists': WHATEVER THE INPUT: true; the input reads as it did. -/
def fnEngelListsSpec : ChangeSpec := { name := "fnEngelLists", fn := fun _ => fun
  | [d1, d2] => { results := [.lit (.bool true)], args := [d1, d2] }
  | _ => none }
def fnEngelListsRow : OpenClaim := { program := "ytpfpekfpaknlgaa", sum := "630b2e5e95142603d82f9cf2d024e204df9a4c85a605731d62b642c4c6e1f59d", func := "loop.example/g01107/laws.FnEngelLists", spec := "fnEngelLists", unfollowed := true, recurses := true, apart := false }
def FnEngelListsSaid : Prop := fnEngelListsRow.holds Try.pinned (OpenSpec.ofChange fnEngelListsSpec)

/-- ITS FALSE NEIGHBOUR: 'it returns false'. Refute it at one input. -/
def fnEngelListsWrong : ChangeSpec := { name := "fnEngelLists", fn := fun _ => fun
  | [d1, d2] => { results := [.lit (.bool false)], args := [d1, d2] }
  | _ => none }
def FnEngelListsWrongFalsely : Prop := fnEngelListsRow.holds Try.pinned (OpenSpec.ofChange fnEngelListsWrong)

/-- 'laws.FnPierceLists': WHATEVER THE INPUT: true; the input reads as it did. -/
def fnPierceListsSpec : ChangeSpec := { name := "fnPierceLists", fn := fun _ => fun
  | [d1, d2] => { results := [.lit (.bool true)], args := [d1, d2] }
  | _ => none }
def fnPierceListsRow : OpenClaim := { program := "ytpfpekfpaknlgaa", sum := "630b2e5e95142603d82f9cf2d024e204df9a4c85a605731d62b642c4c6e1f59d", func := "loop.example/g01107/laws.FnPierceLists", spec := "fnPierceLists", unfollowed := true, recurses := true, apart := false }
def FnPierceListsSaid : Prop := fnPierceListsRow.holds Try.pinned (OpenSpec.ofChange fnPierceListsSpec)

/-- ITS FALSE NEIGHBOUR: 'it returns false'. Refute it at one input. -/
def fnPierceListsWrong : ChangeSpec := { name := "fnPierceLists", fn := fun _ => fun
  | [d1, d2] => { results := [.lit (.bool false)], args := [d1, d2] }
  | _ => none }
def FnPierceListsWrongFalsely : Prop := fnPierceListsRow.holds Try.pinned (OpenSpec.ofChange fnPierceListsWrong)

/-- 'laws.FnGreedyEnds': WHATEVER THE INPUT: true; the input reads as it did. -/
def fnGreedyEndsSpec : ChangeSpec := { name := "fnGreedyEnds", fn := fun _ => fun
  | [d1, d2] => { results := [.lit (.bool true)], args := [d1, d2] }
  | _ => none }
def fnGreedyEndsRow : OpenClaim := { program := "ytpfpekfpaknlgaa", sum := "630b2e5e95142603d82f9cf2d024e204df9a4c85a605731d62b642c4c6e1f59d", func := "loop.example/g01107/laws.FnGreedyEnds", spec := "fnGreedyEnds", unfollowed := true, recurses := true, apart := false }
def FnGreedyEndsSaid : Prop := fnGreedyEndsRow.holds Try.pinned (OpenSpec.ofChange fnGreedyEndsSpec)

/-- ITS FALSE NEIGHBOUR: 'it returns false'. Refute it at one input. -/
def fnGreedyEndsWrong : ChangeSpec := { name := "fnGreedyEnds", fn := fun _ => fun
  | [d1, d2] => { results := [.lit (.bool false)], args := [d1, d2] }
  | _ => none }
def FnGreedyEndsWrongFalsely : Prop := fnGreedyEndsRow.holds Try.pinned (OpenSpec.ofChange fnGreedyEndsWrong)

/-- 'laws.FnGreedyFromNumbers': WHATEVER THE INPUT: true; the input reads as it did. -/
def fnGreedyFromNumbersSpec : ChangeSpec := { name := "fnGreedyFromNumbers", fn := fun _ => fun
  | [d1, d2] => { results := [.lit (.bool true)], args := [d1, d2] }
  | _ => none }
def fnGreedyFromNumbersRow : OpenClaim := { program := "ytpfpekfpaknlgaa", sum := "630b2e5e95142603d82f9cf2d024e204df9a4c85a605731d62b642c4c6e1f59d", func := "loop.example/g01107/laws.FnGreedyFromNumbers", spec := "fnGreedyFromNumbers", unfollowed := true, recurses := true, apart := false }
def FnGreedyFromNumbersSaid : Prop := fnGreedyFromNumbersRow.holds Try.pinned (OpenSpec.ofChange fnGreedyFromNumbersSpec)

/-- ITS FALSE NEIGHBOUR: 'it returns false'. Refute it at one input. -/
def fnGreedyFromNumbersWrong : ChangeSpec := { name := "fnGreedyFromNumbers", fn := fun _ => fun
  | [d1, d2] => { results := [.lit (.bool false)], args := [d1, d2] }
  | _ => none }
def FnGreedyFromNumbersWrongFalsely : Prop := fnGreedyFromNumbersRow.holds Try.pinned (OpenSpec.ofChange fnGreedyFromNumbersWrong)

/-- 'laws.FnOddGreedyTerms': WHATEVER THE INPUT: true; the input reads as it did. -/
def fnOddGreedyTermsSpec : ChangeSpec := { name := "fnOddGreedyTerms", fn := fun _ => fun
  | [d1, d2] => { results := [.lit (.bool true)], args := [d1, d2] }
  | _ => none }
def fnOddGreedyTermsRow : OpenClaim := { program := "ytpfpekfpaknlgaa", sum := "630b2e5e95142603d82f9cf2d024e204df9a4c85a605731d62b642c4c6e1f59d", func := "loop.example/g01107/laws.FnOddGreedyTerms", spec := "fnOddGreedyTerms", apart := false }
def FnOddGreedyTermsSaid : Prop := fnOddGreedyTermsRow.holds Try.pinned (OpenSpec.ofChange fnOddGreedyTermsSpec)

/-- ITS FALSE NEIGHBOUR: 'it returns false'. Refute it at one input. -/
def fnOddGreedyTermsWrong : ChangeSpec := { name := "fnOddGreedyTerms", fn := fun _ => fun
  | [d1, d2] => { results := [.lit (.bool false)], args := [d1, d2] }
  | _ => none }
def FnOddGreedyTermsWrongFalsely : Prop := fnOddGreedyTermsRow.holds Try.pinned (OpenSpec.ofChange fnOddGreedyTermsWrong)

/-- 'laws.FnSylvesterNumbers': WHATEVER THE INPUT: true; the input reads as it did. -/
def fnSylvesterNumbersSpec : ChangeSpec := { name := "fnSylvesterNumbers", fn := fun _ => fun
  | [d1, d2] => { results := [.lit (.bool true)], args := [d1, d2] }
  | _ => none }
def fnSylvesterNumbersRow : OpenClaim := { program := "ytpfpekfpaknlgaa", sum := "630b2e5e95142603d82f9cf2d024e204df9a4c85a605731d62b642c4c6e1f59d", func := "loop.example/g01107/laws.FnSylvesterNumbers", spec := "fnSylvesterNumbers", unfollowed := true, recurses := true, apart := false }
def FnSylvesterNumbersSaid : Prop := fnSylvesterNumbersRow.holds Try.pinned (OpenSpec.ofChange fnSylvesterNumbersSpec)

/-- ITS FALSE NEIGHBOUR: 'it returns false'. Refute it at one input. -/
def fnSylvesterNumbersWrong : ChangeSpec := { name := "fnSylvesterNumbers", fn := fun _ => fun
  | [d1, d2] => { results := [.lit (.bool false)], args := [d1, d2] }
  | _ => none }
def FnSylvesterNumbersWrongFalsely : Prop := fnSylvesterNumbersRow.holds Try.pinned (OpenSpec.ofChange fnSylvesterNumbersWrong)

/-- 'laws.FnExactOddGreedy': WHATEVER THE INPUT: true; the input reads as it did. -/
def fnExactOddGreedySpec : ChangeSpec := { name := "fnExactOddGreedy", fn := fun _ => fun
  | [d1, d2] => { results := [.lit (.bool true)], args := [d1, d2] }
  | _ => none }
def fnExactOddGreedyRow : OpenClaim := { program := "ytpfpekfpaknlgaa", sum := "630b2e5e95142603d82f9cf2d024e204df9a4c85a605731d62b642c4c6e1f59d", func := "loop.example/g01107/laws.FnExactOddGreedy", spec := "fnExactOddGreedy", apart := false }
def FnExactOddGreedySaid : Prop := fnExactOddGreedyRow.holds Try.pinned (OpenSpec.ofChange fnExactOddGreedySpec)

/-- ITS FALSE NEIGHBOUR: 'it returns false'. Refute it at one input. -/
def fnExactOddGreedyWrong : ChangeSpec := { name := "fnExactOddGreedy", fn := fun _ => fun
  | [d1, d2] => { results := [.lit (.bool false)], args := [d1, d2] }
  | _ => none }
def FnExactOddGreedyWrongFalsely : Prop := fnExactOddGreedyRow.holds Try.pinned (OpenSpec.ofChange fnExactOddGreedyWrong)

/-- 'laws.FnMergedPairs': WHATEVER THE INPUT: true; the input reads as it did. -/
def fnMergedPairsSpec : ChangeSpec := { name := "fnMergedPairs", fn := fun _ => fun
  | [d1, d2] => { results := [.lit (.bool true)], args := [d1, d2] }
  | _ => none }
def fnMergedPairsRow : OpenClaim := { program := "ytpfpekfpaknlgaa", sum := "630b2e5e95142603d82f9cf2d024e204df9a4c85a605731d62b642c4c6e1f59d", func := "loop.example/g01107/laws.FnMergedPairs", spec := "fnMergedPairs", apart := false }
def FnMergedPairsSaid : Prop := fnMergedPairsRow.holds Try.pinned (OpenSpec.ofChange fnMergedPairsSpec)

/-- ITS FALSE NEIGHBOUR: 'it returns false'. Refute it at one input. -/
def fnMergedPairsWrong : ChangeSpec := { name := "fnMergedPairs", fn := fun _ => fun
  | [d1, d2] => { results := [.lit (.bool false)], args := [d1, d2] }
  | _ => none }
def FnMergedPairsWrongFalsely : Prop := fnMergedPairsRow.holds Try.pinned (OpenSpec.ofChange fnMergedPairsWrong)

/- THE SECOND FORM. 'bulk': how many values and letters a reading holds, each counted each time it is reached (what is shared counts as often as it is met; a slice's spare places count too). A statement '..UptoSaid' is the law's where the arguments, and the package variables that the reading takes, are together of bulk at most 1048576: NARROWER than '..Said'. Prove '..Said' where nothing that the law and all that it calls make is longer than what came in: it says more and counts as full. Else prove '..UptoSaid'. A law counts once. -/
mutual
def uptoBulk {H : Type} : DataW H → Nat
  | .lit (.string bytes) => bytes.length + 1
  | .lit _ => 1
  | .nil => 1
  | .ptr d => uptoBulk d + 1
  | .slice elems spare => uptoBulkAll elems + uptoBulkAll spare + 1
  | .agg parts => uptoBulkAll parts + 1
  | .iface _ d => uptoBulk d + 1
  | .map entries => uptoBulkEntries entries + 1
  | .held _ => 1
def uptoBulkAll {H : Type} : List (DataW H) → Nat
  | [] => 0
  | d :: r => uptoBulk d + uptoBulkAll r
def uptoBulkEntries {H : Type} : List (Lit × DataW H) → Nat
  | [] => 0
  | x :: r => uptoBulkEntry x + uptoBulkEntries r
def uptoBulkEntry {H : Type} : Lit × DataW H → Nat
  | (.string bytes, d) => bytes.length + uptoBulk d + 1
  | (_, d) => uptoBulk d + 1
 end
def uptoSmall : (H : Type) → List (DataW H) → Bool := fun _ ds => decide (uptoBulkAll ds ≤ 1048576)
def OpenSpec.upto (s : _root_.Go.ChangeSpec) : _root_.Go.OpenSpec := { _root_.Go.OpenSpec.ofChange s with cond := some uptoSmall }

/-- 'laws.FnEngelLists', WHERE WHAT IT READS IS OF BULK AT MOST 1048576: true; the input reads as it did. -/
def fnEngelListsUptoRow : OpenClaim := { program := "ytpfpekfpaknlgaa", sum := "630b2e5e95142603d82f9cf2d024e204df9a4c85a605731d62b642c4c6e1f59d", func := "loop.example/g01107/laws.FnEngelLists", spec := "fnEngelLists", unfollowed := true, recurses := true, apart := false, narrowed := true }
def FnEngelListsUptoSaid : Prop := fnEngelListsUptoRow.holds Try.pinned (OpenSpec.upto fnEngelListsSpec)

/-- 'laws.FnPierceLists', WHERE WHAT IT READS IS OF BULK AT MOST 1048576: true; the input reads as it did. -/
def fnPierceListsUptoRow : OpenClaim := { program := "ytpfpekfpaknlgaa", sum := "630b2e5e95142603d82f9cf2d024e204df9a4c85a605731d62b642c4c6e1f59d", func := "loop.example/g01107/laws.FnPierceLists", spec := "fnPierceLists", unfollowed := true, recurses := true, apart := false, narrowed := true }
def FnPierceListsUptoSaid : Prop := fnPierceListsUptoRow.holds Try.pinned (OpenSpec.upto fnPierceListsSpec)

/-- 'laws.FnGreedyEnds', WHERE WHAT IT READS IS OF BULK AT MOST 1048576: true; the input reads as it did. -/
def fnGreedyEndsUptoRow : OpenClaim := { program := "ytpfpekfpaknlgaa", sum := "630b2e5e95142603d82f9cf2d024e204df9a4c85a605731d62b642c4c6e1f59d", func := "loop.example/g01107/laws.FnGreedyEnds", spec := "fnGreedyEnds", unfollowed := true, recurses := true, apart := false, narrowed := true }
def FnGreedyEndsUptoSaid : Prop := fnGreedyEndsUptoRow.holds Try.pinned (OpenSpec.upto fnGreedyEndsSpec)

/-- 'laws.FnGreedyFromNumbers', WHERE WHAT IT READS IS OF BULK AT MOST 1048576: true; the input reads as it did. -/
def fnGreedyFromNumbersUptoRow : OpenClaim := { program := "ytpfpekfpaknlgaa", sum := "630b2e5e95142603d82f9cf2d024e204df9a4c85a605731d62b642c4c6e1f59d", func := "loop.example/g01107/laws.FnGreedyFromNumbers", spec := "fnGreedyFromNumbers", unfollowed := true, recurses := true, apart := false, narrowed := true }
def FnGreedyFromNumbersUptoSaid : Prop := fnGreedyFromNumbersUptoRow.holds Try.pinned (OpenSpec.upto fnGreedyFromNumbersSpec)

/-- 'laws.FnOddGreedyTerms', WHERE WHAT IT READS IS OF BULK AT MOST 1048576: true; the input reads as it did. -/
def fnOddGreedyTermsUptoRow : OpenClaim := { program := "ytpfpekfpaknlgaa", sum := "630b2e5e95142603d82f9cf2d024e204df9a4c85a605731d62b642c4c6e1f59d", func := "loop.example/g01107/laws.FnOddGreedyTerms", spec := "fnOddGreedyTerms", apart := false, narrowed := true }
def FnOddGreedyTermsUptoSaid : Prop := fnOddGreedyTermsUptoRow.holds Try.pinned (OpenSpec.upto fnOddGreedyTermsSpec)

/-- 'laws.FnSylvesterNumbers', WHERE WHAT IT READS IS OF BULK AT MOST 1048576: true; the input reads as it did. -/
def fnSylvesterNumbersUptoRow : OpenClaim := { program := "ytpfpekfpaknlgaa", sum := "630b2e5e95142603d82f9cf2d024e204df9a4c85a605731d62b642c4c6e1f59d", func := "loop.example/g01107/laws.FnSylvesterNumbers", spec := "fnSylvesterNumbers", unfollowed := true, recurses := true, apart := false, narrowed := true }
def FnSylvesterNumbersUptoSaid : Prop := fnSylvesterNumbersUptoRow.holds Try.pinned (OpenSpec.upto fnSylvesterNumbersSpec)

/-- 'laws.FnExactOddGreedy', WHERE WHAT IT READS IS OF BULK AT MOST 1048576: true; the input reads as it did. -/
def fnExactOddGreedyUptoRow : OpenClaim := { program := "ytpfpekfpaknlgaa", sum := "630b2e5e95142603d82f9cf2d024e204df9a4c85a605731d62b642c4c6e1f59d", func := "loop.example/g01107/laws.FnExactOddGreedy", spec := "fnExactOddGreedy", apart := false, narrowed := true }
def FnExactOddGreedyUptoSaid : Prop := fnExactOddGreedyUptoRow.holds Try.pinned (OpenSpec.upto fnExactOddGreedySpec)

/-- 'laws.FnMergedPairs', WHERE WHAT IT READS IS OF BULK AT MOST 1048576: true; the input reads as it did. -/
def fnMergedPairsUptoRow : OpenClaim := { program := "ytpfpekfpaknlgaa", sum := "630b2e5e95142603d82f9cf2d024e204df9a4c85a605731d62b642c4c6e1f59d", func := "loop.example/g01107/laws.FnMergedPairs", spec := "fnMergedPairs", apart := false, narrowed := true }
def FnMergedPairsUptoSaid : Prop := fnMergedPairsUptoRow.holds Try.pinned (OpenSpec.upto fnMergedPairsSpec)

end Rows
end Go.Proofs.Ytpfpekfpaknlgaa
