/-
  No cell of these rows narrows 'for every input' (looked for: loops, veiled, ifaces, maps, wideKeys, modest, calm, conditions, laid).
  DERIVED. THE GIVEN ROWS OF THIS SEAT. 8 by the template 'for every input the law returns true; each argument reads behind the call as it read before'; 0 by the template 'total and deterministic' (their statements: YtpfpekfpaknlgabTotals.lean).
  GIVEN WITH THE SEED: the statements are not yours to turn. If you find one false, say at which input.
  Laid BY PROGRAM, IN A SANDBOX (cutbox-rows.mjs): the forced cells as the released guide's own fill.sh prints them over the translation 38901627c7897445… (all of the seat's roots in one cut). By AI agents, Wed Nov 11 2026. No macro, syntax, notation, axiom, sorry.
-/
import Derived.Test.YtpfpekfpaknlgabChecked
import GoSem.Claim
import GoSem.ClaimJoined
import GoSem.ClaimMapViews
import Derived.JoinedTies
import Derived.KernelRfl
namespace Go.Proofs.Ytpfpekfpaknlgab
/- THE CELL 'sum', in the pinned program and in every row, IS THE sha256 OF THE DUMP (.gsa) THAT YtpfpekfpaknlgabProg.lean LOADS. Nothing in Lean hashes anything: it is a label: what it is worth is what the hold of that sum in a sandbox is worth. -/
noncomputable def Try.pinned : Pinned := { name := "ytpfpekfpaknlgab", sum := "38901627c789744535ec272ae24a8a2934955761fec3138e8df36cb735df4dbe", checked := Try.checked }
namespace Rows
def none {H : Type} : Left H := { results := [], args := [] }

/-- 'laws.FnExactGreedyExpansion': WHATEVER THE INPUT: true; the input reads as it did. -/
def fnExactGreedyExpansionSpec : ChangeSpec := { name := "fnExactGreedyExpansion", fn := fun _ => fun
  | [d] => { results := [.lit (.bool true)], args := [d] }
  | _ => none }
def fnExactGreedyExpansionRow : OpenClaim := { program := "ytpfpekfpaknlgab", sum := "38901627c789744535ec272ae24a8a2934955761fec3138e8df36cb735df4dbe", func := "loop.example/g01107/laws.FnExactGreedyExpansion", spec := "fnExactGreedyExpansion", unfollowed := true, recurses := true, apart := false }
def FnExactGreedyExpansionSaid : Prop := fnExactGreedyExpansionRow.holds Try.pinned (OpenSpec.ofChange fnExactGreedyExpansionSpec)

/-- ITS FALSE NEIGHBOUR: 'it returns false'. Refute it at one input. -/
def fnExactGreedyExpansionWrong : ChangeSpec := { name := "fnExactGreedyExpansion", fn := fun _ => fun
  | [d] => { results := [.lit (.bool false)], args := [d] }
  | _ => none }
def FnExactGreedyExpansionWrongFalsely : Prop := fnExactGreedyExpansionRow.holds Try.pinned (OpenSpec.ofChange fnExactGreedyExpansionWrong)

/-- 'laws.FnExactGreedyFrom': WHATEVER THE INPUT: true; the input reads as it did. -/
def fnExactGreedyFromSpec : ChangeSpec := { name := "fnExactGreedyFrom", fn := fun _ => fun
  | [d1, d2] => { results := [.lit (.bool true)], args := [d1, d2] }
  | _ => none }
def fnExactGreedyFromRow : OpenClaim := { program := "ytpfpekfpaknlgab", sum := "38901627c789744535ec272ae24a8a2934955761fec3138e8df36cb735df4dbe", func := "loop.example/g01107/laws.FnExactGreedyFrom", spec := "fnExactGreedyFrom", unfollowed := true, recurses := true, apart := false }
def FnExactGreedyFromSaid : Prop := fnExactGreedyFromRow.holds Try.pinned (OpenSpec.ofChange fnExactGreedyFromSpec)

/-- ITS FALSE NEIGHBOUR: 'it returns false'. Refute it at one input. -/
def fnExactGreedyFromWrong : ChangeSpec := { name := "fnExactGreedyFrom", fn := fun _ => fun
  | [d1, d2] => { results := [.lit (.bool false)], args := [d1, d2] }
  | _ => none }
def FnExactGreedyFromWrongFalsely : Prop := fnExactGreedyFromRow.holds Try.pinned (OpenSpec.ofChange fnExactGreedyFromWrong)

/-- 'laws.FnExactIsGreedy': WHATEVER THE INPUT: true; the input reads as it did. -/
def fnExactIsGreedySpec : ChangeSpec := { name := "fnExactIsGreedy", fn := fun _ => fun
  | [d] => { results := [.lit (.bool true)], args := [d] }
  | _ => none }
def fnExactIsGreedyRow : OpenClaim := { program := "ytpfpekfpaknlgab", sum := "38901627c789744535ec272ae24a8a2934955761fec3138e8df36cb735df4dbe", func := "loop.example/g01107/laws.FnExactIsGreedy", spec := "fnExactIsGreedy", unfollowed := true, recurses := true, apart := false }
def FnExactIsGreedySaid : Prop := fnExactIsGreedyRow.holds Try.pinned (OpenSpec.ofChange fnExactIsGreedySpec)

/-- ITS FALSE NEIGHBOUR: 'it returns false'. Refute it at one input. -/
def fnExactIsGreedyWrong : ChangeSpec := { name := "fnExactIsGreedy", fn := fun _ => fun
  | [d] => { results := [.lit (.bool false)], args := [d] }
  | _ => none }
def FnExactIsGreedyWrongFalsely : Prop := fnExactIsGreedyRow.holds Try.pinned (OpenSpec.ofChange fnExactIsGreedyWrong)

/-- 'laws.FnExactEngelOf': WHATEVER THE INPUT: true; the input reads as it did. -/
def fnExactEngelOfSpec : ChangeSpec := { name := "fnExactEngelOf", fn := fun _ => fun
  | [d] => { results := [.lit (.bool true)], args := [d] }
  | _ => none }
def fnExactEngelOfRow : OpenClaim := { program := "ytpfpekfpaknlgab", sum := "38901627c789744535ec272ae24a8a2934955761fec3138e8df36cb735df4dbe", func := "loop.example/g01107/laws.FnExactEngelOf", spec := "fnExactEngelOf", unfollowed := true, recurses := true, apart := false }
def FnExactEngelOfSaid : Prop := fnExactEngelOfRow.holds Try.pinned (OpenSpec.ofChange fnExactEngelOfSpec)

/-- ITS FALSE NEIGHBOUR: 'it returns false'. Refute it at one input. -/
def fnExactEngelOfWrong : ChangeSpec := { name := "fnExactEngelOf", fn := fun _ => fun
  | [d] => { results := [.lit (.bool false)], args := [d] }
  | _ => none }
def FnExactEngelOfWrongFalsely : Prop := fnExactEngelOfRow.holds Try.pinned (OpenSpec.ofChange fnExactEngelOfWrong)

/-- 'laws.FnExactPierceOf': WHATEVER THE INPUT: true; the input reads as it did. -/
def fnExactPierceOfSpec : ChangeSpec := { name := "fnExactPierceOf", fn := fun _ => fun
  | [d] => { results := [.lit (.bool true)], args := [d] }
  | _ => none }
def fnExactPierceOfRow : OpenClaim := { program := "ytpfpekfpaknlgab", sum := "38901627c789744535ec272ae24a8a2934955761fec3138e8df36cb735df4dbe", func := "loop.example/g01107/laws.FnExactPierceOf", spec := "fnExactPierceOf", unfollowed := true, recurses := true, apart := false }
def FnExactPierceOfSaid : Prop := fnExactPierceOfRow.holds Try.pinned (OpenSpec.ofChange fnExactPierceOfSpec)

/-- ITS FALSE NEIGHBOUR: 'it returns false'. Refute it at one input. -/
def fnExactPierceOfWrong : ChangeSpec := { name := "fnExactPierceOf", fn := fun _ => fun
  | [d] => { results := [.lit (.bool false)], args := [d] }
  | _ => none }
def FnExactPierceOfWrongFalsely : Prop := fnExactPierceOfRow.holds Try.pinned (OpenSpec.ofChange fnExactPierceOfWrong)

/-- 'laws.FnExactEngelTerms': WHATEVER THE INPUT: true; the input reads as it did. -/
def fnExactEngelTermsSpec : ChangeSpec := { name := "fnExactEngelTerms", fn := fun _ => fun
  | [d] => { results := [.lit (.bool true)], args := [d] }
  | _ => none }
def fnExactEngelTermsRow : OpenClaim := { program := "ytpfpekfpaknlgab", sum := "38901627c789744535ec272ae24a8a2934955761fec3138e8df36cb735df4dbe", func := "loop.example/g01107/laws.FnExactEngelTerms", spec := "fnExactEngelTerms", unfollowed := true, recurses := true, apart := false }
def FnExactEngelTermsSaid : Prop := fnExactEngelTermsRow.holds Try.pinned (OpenSpec.ofChange fnExactEngelTermsSpec)

/-- ITS FALSE NEIGHBOUR: 'it returns false'. Refute it at one input. -/
def fnExactEngelTermsWrong : ChangeSpec := { name := "fnExactEngelTerms", fn := fun _ => fun
  | [d] => { results := [.lit (.bool false)], args := [d] }
  | _ => none }
def FnExactEngelTermsWrongFalsely : Prop := fnExactEngelTermsRow.holds Try.pinned (OpenSpec.ofChange fnExactEngelTermsWrong)

/-- 'laws.FnExactNumeratorsOf': WHATEVER THE INPUT: true; the input reads as it did. -/
def fnExactNumeratorsOfSpec : ChangeSpec := { name := "fnExactNumeratorsOf", fn := fun _ => fun
  | [d] => { results := [.lit (.bool true)], args := [d] }
  | _ => none }
def fnExactNumeratorsOfRow : OpenClaim := { program := "ytpfpekfpaknlgab", sum := "38901627c789744535ec272ae24a8a2934955761fec3138e8df36cb735df4dbe", func := "loop.example/g01107/laws.FnExactNumeratorsOf", spec := "fnExactNumeratorsOf", unfollowed := true, recurses := true, apart := false }
def FnExactNumeratorsOfSaid : Prop := fnExactNumeratorsOfRow.holds Try.pinned (OpenSpec.ofChange fnExactNumeratorsOfSpec)

/-- ITS FALSE NEIGHBOUR: 'it returns false'. Refute it at one input. -/
def fnExactNumeratorsOfWrong : ChangeSpec := { name := "fnExactNumeratorsOf", fn := fun _ => fun
  | [d] => { results := [.lit (.bool false)], args := [d] }
  | _ => none }
def FnExactNumeratorsOfWrongFalsely : Prop := fnExactNumeratorsOfRow.holds Try.pinned (OpenSpec.ofChange fnExactNumeratorsOfWrong)

/-- 'laws.FnExactMergeAll': WHATEVER THE INPUT: true; the input reads as it did. -/
def fnExactMergeAllSpec : ChangeSpec := { name := "fnExactMergeAll", fn := fun _ => fun
  | [d] => { results := [.lit (.bool true)], args := [d] }
  | _ => none }
def fnExactMergeAllRow : OpenClaim := { program := "ytpfpekfpaknlgab", sum := "38901627c789744535ec272ae24a8a2934955761fec3138e8df36cb735df4dbe", func := "loop.example/g01107/laws.FnExactMergeAll", spec := "fnExactMergeAll", apart := false }
def FnExactMergeAllSaid : Prop := fnExactMergeAllRow.holds Try.pinned (OpenSpec.ofChange fnExactMergeAllSpec)

/-- ITS FALSE NEIGHBOUR: 'it returns false'. Refute it at one input. -/
def fnExactMergeAllWrong : ChangeSpec := { name := "fnExactMergeAll", fn := fun _ => fun
  | [d] => { results := [.lit (.bool false)], args := [d] }
  | _ => none }
def FnExactMergeAllWrongFalsely : Prop := fnExactMergeAllRow.holds Try.pinned (OpenSpec.ofChange fnExactMergeAllWrong)

/- THE SECOND FORM. 'bulk': how many values and letters a reading holds, each counted each time it is reached (what is shared counts as often as it is met; a slice's spare places count too). A statement '..UptoSaid' is the law's where the arguments, and the package variables that the reading takes, are together of bulk at most 1048576: NARROWER than '..Said'. Prove '..Said' where nothing that the law and all that it calls make is longer than what came in: it says more and counts as full. Else prove '..UptoSaid'. A law counts once. -/
mutual
def uptoBulk {H : Type} : DataW H → Nat
  | .lit (.string bytes) => bytes.length + 1
  | .lit _ => 1
  | .nil => 1
  | .ptr d => uptoBulk d + 1
  | .slice elems spare => uptoBulkAll elems + uptoBulkAll spare + 1
  | .agg parts => uptoBulkAll parts + 1
  | .iface _ d => uptoBulk d + 1
  | .map entries => uptoBulkEntries entries + 1
  | .held _ => 1
def uptoBulkAll {H : Type} : List (DataW H) → Nat
  | [] => 0
  | d :: r => uptoBulk d + uptoBulkAll r
def uptoBulkEntries {H : Type} : List (Lit × DataW H) → Nat
  | [] => 0
  | x :: r => uptoBulkEntry x + uptoBulkEntries r
def uptoBulkEntry {H : Type} : Lit × DataW H → Nat
  | (.string bytes, d) => bytes.length + uptoBulk d + 1
  | (_, d) => uptoBulk d + 1
 end
def uptoSmall : (H : Type) → List (DataW H) → Bool := fun _ ds => decide (uptoBulkAll ds ≤ 1048576)
def OpenSpec.upto (s : _root_.Go.ChangeSpec) : _root_.Go.OpenSpec := { _root_.Go.OpenSpec.ofChange s with cond := some uptoSmall }

/-- 'laws.FnExactGreedyExpansion', WHERE WHAT IT READS IS OF BULK AT MOST 1048576: true; the input reads as it did. -/
def fnExactGreedyExpansionUptoRow : OpenClaim := { program := "ytpfpekfpaknlgab", sum := "38901627c789744535ec272ae24a8a2934955761fec3138e8df36cb735df4dbe", func := "loop.example/g01107/laws.FnExactGreedyExpansion", spec := "fnExactGreedyExpansion", unfollowed := true, recurses := true, apart := false, narrowed := true }
def FnExactGreedyExpansionUptoSaid : Prop := fnExactGreedyExpansionUptoRow.holds Try.pinned (OpenSpec.upto fnExactGreedyExpansionSpec)

/-- 'laws.FnExactGreedyFrom', WHERE WHAT IT READS IS OF BULK AT MOST 1048576: true; the input reads as it did. -/
def fnExactGreedyFromUptoRow : OpenClaim := { program := "ytpfpekfpaknlgab", sum := "38901627c789744535ec272ae24a8a2934955761fec3138e8df36cb735df4dbe", func := "loop.example/g01107/laws.FnExactGreedyFrom", spec := "fnExactGreedyFrom", unfollowed := true, recurses := true, apart := false, narrowed := true }
def FnExactGreedyFromUptoSaid : Prop := fnExactGreedyFromUptoRow.holds Try.pinned (OpenSpec.upto fnExactGreedyFromSpec)

/-- 'laws.FnExactIsGreedy', WHERE WHAT IT READS IS OF BULK AT MOST 1048576: true; the input reads as it did. -/
def fnExactIsGreedyUptoRow : OpenClaim := { program := "ytpfpekfpaknlgab", sum := "38901627c789744535ec272ae24a8a2934955761fec3138e8df36cb735df4dbe", func := "loop.example/g01107/laws.FnExactIsGreedy", spec := "fnExactIsGreedy", unfollowed := true, recurses := true, apart := false, narrowed := true }
def FnExactIsGreedyUptoSaid : Prop := fnExactIsGreedyUptoRow.holds Try.pinned (OpenSpec.upto fnExactIsGreedySpec)

/-- 'laws.FnExactEngelOf', WHERE WHAT IT READS IS OF BULK AT MOST 1048576: true; the input reads as it did. -/
def fnExactEngelOfUptoRow : OpenClaim := { program := "ytpfpekfpaknlgab", sum := "38901627c789744535ec272ae24a8a2934955761fec3138e8df36cb735df4dbe", func := "loop.example/g01107/laws.FnExactEngelOf", spec := "fnExactEngelOf", unfollowed := true, recurses := true, apart := false, narrowed := true }
def FnExactEngelOfUptoSaid : Prop := fnExactEngelOfUptoRow.holds Try.pinned (OpenSpec.upto fnExactEngelOfSpec)

/-- 'laws.FnExactPierceOf', WHERE WHAT IT READS IS OF BULK AT MOST 1048576: true; the input reads as it did. -/
def fnExactPierceOfUptoRow : OpenClaim := { program := "ytpfpekfpaknlgab", sum := "38901627c789744535ec272ae24a8a2934955761fec3138e8df36cb735df4dbe", func := "loop.example/g01107/laws.FnExactPierceOf", spec := "fnExactPierceOf", unfollowed := true, recurses := true, apart := false, narrowed := true }
def FnExactPierceOfUptoSaid : Prop := fnExactPierceOfUptoRow.holds Try.pinned (OpenSpec.upto fnExactPierceOfSpec)

/-- 'laws.FnExactEngelTerms', WHERE WHAT IT READS IS OF BULK AT MOST 1048576: true; the input reads as it did. -/
def fnExactEngelTermsUptoRow : OpenClaim := { program := "ytpfpekfpaknlgab", sum := "38901627c789744535ec272ae24a8a2934955761fec3138e8df36cb735df4dbe", func := "loop.example/g01107/laws.FnExactEngelTerms", spec := "fnExactEngelTerms", unfollowed := true, recurses := true, apart := false, narrowed := true }
def FnExactEngelTermsUptoSaid : Prop := fnExactEngelTermsUptoRow.holds Try.pinned (OpenSpec.upto fnExactEngelTermsSpec)

/-- 'laws.FnExactNumeratorsOf', WHERE WHAT IT READS IS OF BULK AT MOST 1048576: true; the input reads as it did. -/
def fnExactNumeratorsOfUptoRow : OpenClaim := { program := "ytpfpekfpaknlgab", sum := "38901627c789744535ec272ae24a8a2934955761fec3138e8df36cb735df4dbe", func := "loop.example/g01107/laws.FnExactNumeratorsOf", spec := "fnExactNumeratorsOf", unfollowed := true, recurses := true, apart := false, narrowed := true }
def FnExactNumeratorsOfUptoSaid : Prop := fnExactNumeratorsOfUptoRow.holds Try.pinned (OpenSpec.upto fnExactNumeratorsOfSpec)

/-- 'laws.FnExactMergeAll', WHERE WHAT IT READS IS OF BULK AT MOST 1048576: true; the input reads as it did. -/
def fnExactMergeAllUptoRow : OpenClaim := { program := "ytpfpekfpaknlgab", sum := "38901627c789744535ec272ae24a8a2934955761fec3138e8df36cb735df4dbe", func := "loop.example/g01107/laws.FnExactMergeAll", spec := "fnExactMergeAll", apart := false, narrowed := true }
def FnExactMergeAllUptoSaid : Prop := fnExactMergeAllUptoRow.holds Try.pinned (OpenSpec.upto fnExactMergeAllSpec)

end Rows
end Go.Proofs.Ytpfpekfpaknlgab
