/-
  No cell of these rows narrows 'for every input' (looked for: loops, veiled, ifaces, maps, wideKeys, modest, calm, conditions, laid).
  DERIVED. THE GIVEN ROWS OF THIS SEAT. 10 by the template 'for every input the law returns true; each argument reads behind the call as it read before'; 0 by the template 'total and deterministic' (their statements: YthkchhjidihkpaaTotals.lean).
  GIVEN WITH THE SEED: the statements are not yours to turn. If you find one false, say at which input.
  Laid BY PROGRAM, IN A SANDBOX (cutbox-rows.mjs): the forced cells as the released guide's own fill.sh prints them over the translation 4177c1714f9720ab… (all of the seat's roots in one cut). By AI agents, Wed Nov 11 2026. No macro, syntax, notation, axiom, sorry.
-/
import Derived.Test.YthkchhjidihkpaaChecked
import GoSem.Claim
import GoSem.ClaimJoined
import GoSem.ClaimMapViews
import Derived.JoinedTies
import Derived.KernelRfl
namespace Go.Proofs.Ythkchhjidihkpaa
/- THE CELL 'sum', in the pinned program and in every row, IS THE sha256 OF THE DUMP (.gsa) THAT YthkchhjidihkpaaProg.lean LOADS. Nothing in Lean hashes anything: it is a label: what it is worth is what the hold of that sum in a sandbox is worth. -/
noncomputable def Try.pinned : Pinned := { name := "ythkchhjidihkpaa", sum := "4177c1714f9720abd2175848987c7cb42727d32a00452d7881db2bda8a610317", checked := Try.checked }
namespace Rows
def none {H : Type} : Left H := { results := [], args := [] }

/-- 'laws.FnExactMarksOf': WHATEVER THE INPUT: true; the input reads as it did. -/
def fnExactMarksOfSpec : ChangeSpec := { name := "fnExactMarksOf", fn := fun _ => fun
  | [d] => { results := [.lit (.bool true)], args := [d] }
  | _ => none }
def fnExactMarksOfRow : OpenClaim := { program := "ythkchhjidihkpaa", sum := "4177c1714f9720abd2175848987c7cb42727d32a00452d7881db2bda8a610317", func := "loop.example/g01107/laws.FnExactMarksOf", spec := "fnExactMarksOf", apart := false }
def FnExactMarksOfSaid : Prop := fnExactMarksOfRow.holds Try.pinned (OpenSpec.ofChange fnExactMarksOfSpec)

/-- ITS FALSE NEIGHBOUR: 'it returns false'. Refute it at one input. -/
def fnExactMarksOfWrong : ChangeSpec := { name := "fnExactMarksOf", fn := fun _ => fun
  | [d] => { results := [.lit (.bool false)], args := [d] }
  | _ => none }
def FnExactMarksOfWrongFalsely : Prop := fnExactMarksOfRow.holds Try.pinned (OpenSpec.ofChange fnExactMarksOfWrong)

/-- 'laws.FnExactFromMarks': WHATEVER THE INPUT: true; the input reads as it did. -/
def fnExactFromMarksSpec : ChangeSpec := { name := "fnExactFromMarks", fn := fun _ => fun
  | [d] => { results := [.lit (.bool true)], args := [d] }
  | _ => none }
def fnExactFromMarksRow : OpenClaim := { program := "ythkchhjidihkpaa", sum := "4177c1714f9720abd2175848987c7cb42727d32a00452d7881db2bda8a610317", func := "loop.example/g01107/laws.FnExactFromMarks", spec := "fnExactFromMarks", apart := false }
def FnExactFromMarksSaid : Prop := fnExactFromMarksRow.holds Try.pinned (OpenSpec.ofChange fnExactFromMarksSpec)

/-- ITS FALSE NEIGHBOUR: 'it returns false'. Refute it at one input. -/
def fnExactFromMarksWrong : ChangeSpec := { name := "fnExactFromMarks", fn := fun _ => fun
  | [d] => { results := [.lit (.bool false)], args := [d] }
  | _ => none }
def FnExactFromMarksWrongFalsely : Prop := fnExactFromMarksRow.holds Try.pinned (OpenSpec.ofChange fnExactFromMarksWrong)

/-- 'laws.FnExactDoublingsOf': WHATEVER THE INPUT: true; the input reads as it did. -/
def fnExactDoublingsOfSpec : ChangeSpec := { name := "fnExactDoublingsOf", fn := fun _ => fun
  | [d1, d2] => { results := [.lit (.bool true)], args := [d1, d2] }
  | _ => none }
def fnExactDoublingsOfRow : OpenClaim := { program := "ythkchhjidihkpaa", sum := "4177c1714f9720abd2175848987c7cb42727d32a00452d7881db2bda8a610317", func := "loop.example/g01107/laws.FnExactDoublingsOf", spec := "fnExactDoublingsOf", apart := false }
def FnExactDoublingsOfSaid : Prop := fnExactDoublingsOfRow.holds Try.pinned (OpenSpec.ofChange fnExactDoublingsOfSpec)

/-- ITS FALSE NEIGHBOUR: 'it returns false'. Refute it at one input. -/
def fnExactDoublingsOfWrong : ChangeSpec := { name := "fnExactDoublingsOf", fn := fun _ => fun
  | [d1, d2] => { results := [.lit (.bool false)], args := [d1, d2] }
  | _ => none }
def FnExactDoublingsOfWrongFalsely : Prop := fnExactDoublingsOfRow.holds Try.pinned (OpenSpec.ofChange fnExactDoublingsOfWrong)

/-- 'laws.FnExactMultiplyMarks': WHATEVER THE INPUT: true; the input reads as it did. -/
def fnExactMultiplyMarksSpec : ChangeSpec := { name := "fnExactMultiplyMarks", fn := fun _ => fun
  | [d1, d2] => { results := [.lit (.bool true)], args := [d1, d2] }
  | _ => none }
def fnExactMultiplyMarksRow : OpenClaim := { program := "ythkchhjidihkpaa", sum := "4177c1714f9720abd2175848987c7cb42727d32a00452d7881db2bda8a610317", func := "loop.example/g01107/laws.FnExactMultiplyMarks", spec := "fnExactMultiplyMarks", apart := false }
def FnExactMultiplyMarksSaid : Prop := fnExactMultiplyMarksRow.holds Try.pinned (OpenSpec.ofChange fnExactMultiplyMarksSpec)

/-- ITS FALSE NEIGHBOUR: 'it returns false'. Refute it at one input. -/
def fnExactMultiplyMarksWrong : ChangeSpec := { name := "fnExactMultiplyMarks", fn := fun _ => fun
  | [d1, d2] => { results := [.lit (.bool false)], args := [d1, d2] }
  | _ => none }
def FnExactMultiplyMarksWrongFalsely : Prop := fnExactMultiplyMarksRow.holds Try.pinned (OpenSpec.ofChange fnExactMultiplyMarksWrong)

/-- 'laws.FnExactDivideMarks': WHATEVER THE INPUT: true; the input reads as it did. -/
def fnExactDivideMarksSpec : ChangeSpec := { name := "fnExactDivideMarks", fn := fun _ => fun
  | [d1, d2] => { results := [.lit (.bool true)], args := [d1, d2] }
  | _ => none }
def fnExactDivideMarksRow : OpenClaim := { program := "ythkchhjidihkpaa", sum := "4177c1714f9720abd2175848987c7cb42727d32a00452d7881db2bda8a610317", func := "loop.example/g01107/laws.FnExactDivideMarks", spec := "fnExactDivideMarks", apart := false }
def FnExactDivideMarksSaid : Prop := fnExactDivideMarksRow.holds Try.pinned (OpenSpec.ofChange fnExactDivideMarksSpec)

/-- ITS FALSE NEIGHBOUR: 'it returns false'. Refute it at one input. -/
def fnExactDivideMarksWrong : ChangeSpec := { name := "fnExactDivideMarks", fn := fun _ => fun
  | [d1, d2] => { results := [.lit (.bool false)], args := [d1, d2] }
  | _ => none }
def FnExactDivideMarksWrongFalsely : Prop := fnExactDivideMarksRow.holds Try.pinned (OpenSpec.ofChange fnExactDivideMarksWrong)

/-- 'laws.FnExactQuotientExpansion': WHATEVER THE INPUT: true; the input reads as it did. -/
def fnExactQuotientExpansionSpec : ChangeSpec := { name := "fnExactQuotientExpansion", fn := fun _ => fun
  | [d1, d2] => { results := [.lit (.bool true)], args := [d1, d2] }
  | _ => none }
def fnExactQuotientExpansionRow : OpenClaim := { program := "ythkchhjidihkpaa", sum := "4177c1714f9720abd2175848987c7cb42727d32a00452d7881db2bda8a610317", func := "loop.example/g01107/laws.FnExactQuotientExpansion", spec := "fnExactQuotientExpansion", unfollowed := true, recurses := true, apart := false }
def FnExactQuotientExpansionSaid : Prop := fnExactQuotientExpansionRow.holds Try.pinned (OpenSpec.ofChange fnExactQuotientExpansionSpec)

/-- ITS FALSE NEIGHBOUR: 'it returns false'. Refute it at one input. -/
def fnExactQuotientExpansionWrong : ChangeSpec := { name := "fnExactQuotientExpansion", fn := fun _ => fun
  | [d1, d2] => { results := [.lit (.bool false)], args := [d1, d2] }
  | _ => none }
def FnExactQuotientExpansionWrongFalsely : Prop := fnExactQuotientExpansionRow.holds Try.pinned (OpenSpec.ofChange fnExactQuotientExpansionWrong)

/-- 'laws.FnExactSharesOf': WHATEVER THE INPUT: true; the input reads as it did. -/
def fnExactSharesOfSpec : ChangeSpec := { name := "fnExactSharesOf", fn := fun _ => fun
  | [d1, d2] => { results := [.lit (.bool true)], args := [d1, d2] }
  | _ => none }
def fnExactSharesOfRow : OpenClaim := { program := "ythkchhjidihkpaa", sum := "4177c1714f9720abd2175848987c7cb42727d32a00452d7881db2bda8a610317", func := "loop.example/g01107/laws.FnExactSharesOf", spec := "fnExactSharesOf", unfollowed := true, recurses := true, apart := false }
def FnExactSharesOfSaid : Prop := fnExactSharesOfRow.holds Try.pinned (OpenSpec.ofChange fnExactSharesOfSpec)

/-- ITS FALSE NEIGHBOUR: 'it returns false'. Refute it at one input. -/
def fnExactSharesOfWrong : ChangeSpec := { name := "fnExactSharesOf", fn := fun _ => fun
  | [d1, d2] => { results := [.lit (.bool false)], args := [d1, d2] }
  | _ => none }
def FnExactSharesOfWrongFalsely : Prop := fnExactSharesOfRow.holds Try.pinned (OpenSpec.ofChange fnExactSharesOfWrong)

/-- 'laws.FnDoublings': WHATEVER THE INPUT: true; the input reads as it did. -/
def fnDoublingsSpec : ChangeSpec := { name := "fnDoublings", fn := fun _ => fun
  | [d1, d2] => { results := [.lit (.bool true)], args := [d1, d2] }
  | _ => none }
def fnDoublingsRow : OpenClaim := { program := "ythkchhjidihkpaa", sum := "4177c1714f9720abd2175848987c7cb42727d32a00452d7881db2bda8a610317", func := "loop.example/g01107/laws.FnDoublings", spec := "fnDoublings", unfollowed := true, recurses := true, apart := false }
def FnDoublingsSaid : Prop := fnDoublingsRow.holds Try.pinned (OpenSpec.ofChange fnDoublingsSpec)

/-- ITS FALSE NEIGHBOUR: 'it returns false'. Refute it at one input. -/
def fnDoublingsWrong : ChangeSpec := { name := "fnDoublings", fn := fun _ => fun
  | [d1, d2] => { results := [.lit (.bool false)], args := [d1, d2] }
  | _ => none }
def FnDoublingsWrongFalsely : Prop := fnDoublingsRow.holds Try.pinned (OpenSpec.ofChange fnDoublingsWrong)

/-- 'laws.FnExactAuxiliariesOf': WHATEVER THE INPUT: true; the input reads as it did. -/
def fnExactAuxiliariesOfSpec : ChangeSpec := { name := "fnExactAuxiliariesOf", fn := fun _ => fun
  | [d1, d2] => { results := [.lit (.bool true)], args := [d1, d2] }
  | _ => none }
def fnExactAuxiliariesOfRow : OpenClaim := { program := "ythkchhjidihkpaa", sum := "4177c1714f9720abd2175848987c7cb42727d32a00452d7881db2bda8a610317", func := "loop.example/g01107/laws.FnExactAuxiliariesOf", spec := "fnExactAuxiliariesOf", apart := false }
def FnExactAuxiliariesOfSaid : Prop := fnExactAuxiliariesOfRow.holds Try.pinned (OpenSpec.ofChange fnExactAuxiliariesOfSpec)

/-- ITS FALSE NEIGHBOUR: 'it returns false'. Refute it at one input. -/
def fnExactAuxiliariesOfWrong : ChangeSpec := { name := "fnExactAuxiliariesOf", fn := fun _ => fun
  | [d1, d2] => { results := [.lit (.bool false)], args := [d1, d2] }
  | _ => none }
def FnExactAuxiliariesOfWrongFalsely : Prop := fnExactAuxiliariesOfRow.holds Try.pinned (OpenSpec.ofChange fnExactAuxiliariesOfWrong)

/-- 'laws.FnExactFromAuxiliaries': WHATEVER THE INPUT: true; the input reads as it did. -/
def fnExactFromAuxiliariesSpec : ChangeSpec := { name := "fnExactFromAuxiliaries", fn := fun _ => fun
  | [d1, d2] => { results := [.lit (.bool true)], args := [d1, d2] }
  | _ => none }
def fnExactFromAuxiliariesRow : OpenClaim := { program := "ythkchhjidihkpaa", sum := "4177c1714f9720abd2175848987c7cb42727d32a00452d7881db2bda8a610317", func := "loop.example/g01107/laws.FnExactFromAuxiliaries", spec := "fnExactFromAuxiliaries", apart := false }
def FnExactFromAuxiliariesSaid : Prop := fnExactFromAuxiliariesRow.holds Try.pinned (OpenSpec.ofChange fnExactFromAuxiliariesSpec)

/-- ITS FALSE NEIGHBOUR: 'it returns false'. Refute it at one input. -/
def fnExactFromAuxiliariesWrong : ChangeSpec := { name := "fnExactFromAuxiliaries", fn := fun _ => fun
  | [d1, d2] => { results := [.lit (.bool false)], args := [d1, d2] }
  | _ => none }
def FnExactFromAuxiliariesWrongFalsely : Prop := fnExactFromAuxiliariesRow.holds Try.pinned (OpenSpec.ofChange fnExactFromAuxiliariesWrong)

/- THE SECOND FORM. 'bulk': how many values and letters a reading holds, each counted each time it is reached (what is shared counts as often as it is met; a slice's spare places count too). A statement '..UptoSaid' is the law's where the arguments, and the package variables that the reading takes, are together of bulk at most 1048576: NARROWER than '..Said'. Prove '..Said' where nothing that the law and all that it calls make is longer than what came in: it says more and counts as full. Else prove '..UptoSaid'. A law counts once. -/
mutual
def uptoBulk {H : Type} : DataW H → Nat
  | .lit (.string bytes) => bytes.length + 1
  | .lit _ => 1
  | .nil => 1
  | .ptr d => uptoBulk d + 1
  | .slice elems spare => uptoBulkAll elems + uptoBulkAll spare + 1
  | .agg parts => uptoBulkAll parts + 1
  | .iface _ d => uptoBulk d + 1
  | .map entries => uptoBulkEntries entries + 1
  | .held _ => 1
def uptoBulkAll {H : Type} : List (DataW H) → Nat
  | [] => 0
  | d :: r => uptoBulk d + uptoBulkAll r
def uptoBulkEntries {H : Type} : List (Lit × DataW H) → Nat
  | [] => 0
  | x :: r => uptoBulkEntry x + uptoBulkEntries r
def uptoBulkEntry {H : Type} : Lit × DataW H → Nat
  | (.string bytes, d) => bytes.length + uptoBulk d + 1
  | (_, d) => uptoBulk d + 1
 end
def uptoSmall : (H : Type) → List (DataW H) → Bool := fun _ ds => decide (uptoBulkAll ds ≤ 1048576)
def OpenSpec.upto (s : _root_.Go.ChangeSpec) : _root_.Go.OpenSpec := { _root_.Go.OpenSpec.ofChange s with cond := some uptoSmall }

/-- 'laws.FnExactMarksOf', WHERE WHAT IT READS IS OF BULK AT MOST 1048576: true; the input reads as it did. -/
def fnExactMarksOfUptoRow : OpenClaim := { program := "ythkchhjidihkpaa", sum := "4177c1714f9720abd2175848987c7cb42727d32a00452d7881db2bda8a610317", func := "loop.example/g01107/laws.FnExactMarksOf", spec := "fnExactMarksOf", apart := false, narrowed := true }
def FnExactMarksOfUptoSaid : Prop := fnExactMarksOfUptoRow.holds Try.pinned (OpenSpec.upto fnExactMarksOfSpec)

/-- 'laws.FnExactFromMarks', WHERE WHAT IT READS IS OF BULK AT MOST 1048576: true; the input reads as it did. -/
def fnExactFromMarksUptoRow : OpenClaim := { program := "ythkchhjidihkpaa", sum := "4177c1714f9720abd2175848987c7cb42727d32a00452d7881db2bda8a610317", func := "loop.example/g01107/laws.FnExactFromMarks", spec := "fnExactFromMarks", apart := false, narrowed := true }
def FnExactFromMarksUptoSaid : Prop := fnExactFromMarksUptoRow.holds Try.pinned (OpenSpec.upto fnExactFromMarksSpec)

/-- 'laws.FnExactDoublingsOf', WHERE WHAT IT READS IS OF BULK AT MOST 1048576: true; the input reads as it did. -/
def fnExactDoublingsOfUptoRow : OpenClaim := { program := "ythkchhjidihkpaa", sum := "4177c1714f9720abd2175848987c7cb42727d32a00452d7881db2bda8a610317", func := "loop.example/g01107/laws.FnExactDoublingsOf", spec := "fnExactDoublingsOf", apart := false, narrowed := true }
def FnExactDoublingsOfUptoSaid : Prop := fnExactDoublingsOfUptoRow.holds Try.pinned (OpenSpec.upto fnExactDoublingsOfSpec)

/-- 'laws.FnExactMultiplyMarks', WHERE WHAT IT READS IS OF BULK AT MOST 1048576: true; the input reads as it did. -/
def fnExactMultiplyMarksUptoRow : OpenClaim := { program := "ythkchhjidihkpaa", sum := "4177c1714f9720abd2175848987c7cb42727d32a00452d7881db2bda8a610317", func := "loop.example/g01107/laws.FnExactMultiplyMarks", spec := "fnExactMultiplyMarks", apart := false, narrowed := true }
def FnExactMultiplyMarksUptoSaid : Prop := fnExactMultiplyMarksUptoRow.holds Try.pinned (OpenSpec.upto fnExactMultiplyMarksSpec)

/-- 'laws.FnExactDivideMarks', WHERE WHAT IT READS IS OF BULK AT MOST 1048576: true; the input reads as it did. -/
def fnExactDivideMarksUptoRow : OpenClaim := { program := "ythkchhjidihkpaa", sum := "4177c1714f9720abd2175848987c7cb42727d32a00452d7881db2bda8a610317", func := "loop.example/g01107/laws.FnExactDivideMarks", spec := "fnExactDivideMarks", apart := false, narrowed := true }
def FnExactDivideMarksUptoSaid : Prop := fnExactDivideMarksUptoRow.holds Try.pinned (OpenSpec.upto fnExactDivideMarksSpec)

/-- 'laws.FnExactQuotientExpansion', WHERE WHAT IT READS IS OF BULK AT MOST 1048576: true; the input reads as it did. -/
def fnExactQuotientExpansionUptoRow : OpenClaim := { program := "ythkchhjidihkpaa", sum := "4177c1714f9720abd2175848987c7cb42727d32a00452d7881db2bda8a610317", func := "loop.example/g01107/laws.FnExactQuotientExpansion", spec := "fnExactQuotientExpansion", unfollowed := true, recurses := true, apart := false, narrowed := true }
def FnExactQuotientExpansionUptoSaid : Prop := fnExactQuotientExpansionUptoRow.holds Try.pinned (OpenSpec.upto fnExactQuotientExpansionSpec)

/-- 'laws.FnExactSharesOf', WHERE WHAT IT READS IS OF BULK AT MOST 1048576: true; the input reads as it did. -/
def fnExactSharesOfUptoRow : OpenClaim := { program := "ythkchhjidihkpaa", sum := "4177c1714f9720abd2175848987c7cb42727d32a00452d7881db2bda8a610317", func := "loop.example/g01107/laws.FnExactSharesOf", spec := "fnExactSharesOf", unfollowed := true, recurses := true, apart := false, narrowed := true }
def FnExactSharesOfUptoSaid : Prop := fnExactSharesOfUptoRow.holds Try.pinned (OpenSpec.upto fnExactSharesOfSpec)

/-- 'laws.FnDoublings', WHERE WHAT IT READS IS OF BULK AT MOST 1048576: true; the input reads as it did. -/
def fnDoublingsUptoRow : OpenClaim := { program := "ythkchhjidihkpaa", sum := "4177c1714f9720abd2175848987c7cb42727d32a00452d7881db2bda8a610317", func := "loop.example/g01107/laws.FnDoublings", spec := "fnDoublings", unfollowed := true, recurses := true, apart := false, narrowed := true }
def FnDoublingsUptoSaid : Prop := fnDoublingsUptoRow.holds Try.pinned (OpenSpec.upto fnDoublingsSpec)

/-- 'laws.FnExactAuxiliariesOf', WHERE WHAT IT READS IS OF BULK AT MOST 1048576: true; the input reads as it did. -/
def fnExactAuxiliariesOfUptoRow : OpenClaim := { program := "ythkchhjidihkpaa", sum := "4177c1714f9720abd2175848987c7cb42727d32a00452d7881db2bda8a610317", func := "loop.example/g01107/laws.FnExactAuxiliariesOf", spec := "fnExactAuxiliariesOf", apart := false, narrowed := true }
def FnExactAuxiliariesOfUptoSaid : Prop := fnExactAuxiliariesOfUptoRow.holds Try.pinned (OpenSpec.upto fnExactAuxiliariesOfSpec)

/-- 'laws.FnExactFromAuxiliaries', WHERE WHAT IT READS IS OF BULK AT MOST 1048576: true; the input reads as it did. -/
def fnExactFromAuxiliariesUptoRow : OpenClaim := { program := "ythkchhjidihkpaa", sum := "4177c1714f9720abd2175848987c7cb42727d32a00452d7881db2bda8a610317", func := "loop.example/g01107/laws.FnExactFromAuxiliaries", spec := "fnExactFromAuxiliaries", apart := false, narrowed := true }
def FnExactFromAuxiliariesUptoSaid : Prop := fnExactFromAuxiliariesUptoRow.holds Try.pinned (OpenSpec.upto fnExactFromAuxiliariesSpec)

end Rows
end Go.Proofs.Ythkchhjidihkpaa
