/-
  NARROWER THAN 'FOR EVERY INPUT', by the rows' own cells (each row's printed sentence says how): FnExactMethodSizes: laid · FnExactBestMethod: laid · FnMethodsCompared: laid.
  DERIVED. THE GIVEN ROWS OF THIS SEAT. 3 by the template 'for every input the law returns true; each argument reads behind the call as it read before'; 0 by the template 'total and deterministic' (their statements: YtbjblkfibinenadGreatDoorTotals.lean).
  GIVEN WITH THE SEED: the statements are not yours to turn. If you find one false, say at which input.
  Laid BY PROGRAM, IN A SANDBOX (cutbox-rows.mjs): the forced cells as the released guide's own fill.sh prints them over the translation ff8b9492f22f7910… (all of the seat's roots in one cut). By AI agents, Wed Nov 11 2026. No macro, syntax, notation, axiom, sorry.
-/
import Derived.Test.YtbjblkfibinenadGreatDoorChecked
import GoSem.Claim
import GoSem.ClaimJoined
import GoSem.ClaimMapViews
import Derived.JoinedTies
import Derived.KernelRfl
namespace Go.Proofs.YtbjblkfibinenadGreatDoor
/- THE CELL 'sum', in the pinned program and in every row, IS THE sha256 OF THE DUMP (.gsa) THAT YtbjblkfibinenadGreatDoorProg.lean LOADS. Nothing in Lean hashes anything: it is a label: what it is worth is what the hold of that sum in a sandbox is worth. -/
noncomputable def Tryz.pinned : Pinned := { name := "ytbjblkfibinenadgreatdoor", sum := "ff8b9492f22f7910ee4028f8f38f18e34a697a1f184a2dcfb9ad8f378e486367", checked := Tryz.checked }
namespace Rows
def none {H : Type} : Left H := { results := [], args := [] }

/- WHAT THE LISTED PACKAGE-LEVEL VARIABLES READ AS WHEN THE CALL BEGINS. Each datum BY PROGRAM (the guide's laid-datum.mjs) off the statement by which the dump's own 'gosem.cut.vars' lays the variable. In a bare row this is a premise. The card (YtbjblkfibinenadGreatDoorCards.lean) ties it to the program's text. -/
def laid_loop_example_g01107_impl_comparedMethods {H : Type} : DataW H := .agg [.lit (.string [103, 114, 101, 101, 100, 121]), .lit (.string [103, 111, 108, 111, 109, 98]), .lit (.string [98, 105, 110, 97, 114, 121]), .lit (.string [102, 97, 99, 116, 111, 114, 105, 97, 108]), .lit (.string [112, 97, 105, 114]), .lit (.string [101, 110, 103, 101, 108])]

/-- 'laws.FnExactMethodSizes': WHATEVER THE INPUT: true; the input reads as it did. -/
def fnExactMethodSizesSpec : ChangeSpec := { name := "fnExactMethodSizes", vars := ["loop.example/g01107/impl.comparedMethods"], fn := fun _ => fun
  | [d, g1] => { results := [.lit (.bool true)], args := [d], vars := [g1] }
  | _ => none }
def fnExactMethodSizesRow : OpenClaim := { program := "ytbjblkfibinenadgreatdoor", sum := "ff8b9492f22f7910ee4028f8f38f18e34a697a1f184a2dcfb9ad8f378e486367", func := "loop.example/g01107/laws.FnExactMethodSizes", spec := "fnExactMethodSizes", unfollowed := true, recurses := true, named := ["loop.example/g01107/impl.comparedMethods"], apart := false, laid := [("loop.example/g01107/impl.comparedMethods", laid_loop_example_g01107_impl_comparedMethods)] }
def FnExactMethodSizesSaid : Prop := fnExactMethodSizesRow.holds Tryz.pinned (OpenSpec.ofChange fnExactMethodSizesSpec)

/-- ITS FALSE NEIGHBOUR: 'it returns false'. Refute it at one input. -/
def fnExactMethodSizesWrong : ChangeSpec := { name := "fnExactMethodSizes", vars := ["loop.example/g01107/impl.comparedMethods"], fn := fun _ => fun
  | [d, g1] => { results := [.lit (.bool false)], args := [d], vars := [g1] }
  | _ => none }
def FnExactMethodSizesWrongFalsely : Prop := fnExactMethodSizesRow.holds Tryz.pinned (OpenSpec.ofChange fnExactMethodSizesWrong)

/-- 'laws.FnExactBestMethod': WHATEVER THE INPUT: true; the input reads as it did. -/
def fnExactBestMethodSpec : ChangeSpec := { name := "fnExactBestMethod", vars := ["loop.example/g01107/impl.comparedMethods"], fn := fun _ => fun
  | [d, g1] => { results := [.lit (.bool true)], args := [d], vars := [g1] }
  | _ => none }
def fnExactBestMethodRow : OpenClaim := { program := "ytbjblkfibinenadgreatdoor", sum := "ff8b9492f22f7910ee4028f8f38f18e34a697a1f184a2dcfb9ad8f378e486367", func := "loop.example/g01107/laws.FnExactBestMethod", spec := "fnExactBestMethod", unfollowed := true, recurses := true, named := ["loop.example/g01107/impl.comparedMethods"], apart := false, laid := [("loop.example/g01107/impl.comparedMethods", laid_loop_example_g01107_impl_comparedMethods)] }
def FnExactBestMethodSaid : Prop := fnExactBestMethodRow.holds Tryz.pinned (OpenSpec.ofChange fnExactBestMethodSpec)

/-- ITS FALSE NEIGHBOUR: 'it returns false'. Refute it at one input. -/
def fnExactBestMethodWrong : ChangeSpec := { name := "fnExactBestMethod", vars := ["loop.example/g01107/impl.comparedMethods"], fn := fun _ => fun
  | [d, g1] => { results := [.lit (.bool false)], args := [d], vars := [g1] }
  | _ => none }
def FnExactBestMethodWrongFalsely : Prop := fnExactBestMethodRow.holds Tryz.pinned (OpenSpec.ofChange fnExactBestMethodWrong)

/-- 'laws.FnMethodsCompared': WHATEVER THE INPUT: true; the input reads as it did. -/
def fnMethodsComparedSpec : ChangeSpec := { name := "fnMethodsCompared", vars := ["loop.example/g01107/impl.comparedMethods"], fn := fun _ => fun
  | [d1, d2, g1] => { results := [.lit (.bool true)], args := [d1, d2], vars := [g1] }
  | _ => none }
def fnMethodsComparedRow : OpenClaim := { program := "ytbjblkfibinenadgreatdoor", sum := "ff8b9492f22f7910ee4028f8f38f18e34a697a1f184a2dcfb9ad8f378e486367", func := "loop.example/g01107/laws.FnMethodsCompared", spec := "fnMethodsCompared", unfollowed := true, recurses := true, named := ["loop.example/g01107/impl.comparedMethods"], apart := false, laid := [("loop.example/g01107/impl.comparedMethods", laid_loop_example_g01107_impl_comparedMethods)] }
def FnMethodsComparedSaid : Prop := fnMethodsComparedRow.holds Tryz.pinned (OpenSpec.ofChange fnMethodsComparedSpec)

/-- ITS FALSE NEIGHBOUR: 'it returns false'. Refute it at one input. -/
def fnMethodsComparedWrong : ChangeSpec := { name := "fnMethodsCompared", vars := ["loop.example/g01107/impl.comparedMethods"], fn := fun _ => fun
  | [d1, d2, g1] => { results := [.lit (.bool false)], args := [d1, d2], vars := [g1] }
  | _ => none }
def FnMethodsComparedWrongFalsely : Prop := fnMethodsComparedRow.holds Tryz.pinned (OpenSpec.ofChange fnMethodsComparedWrong)

/- THE SECOND FORM. 'bulk': how many values and letters a reading holds, each counted each time it is reached (what is shared counts as often as it is met; a slice's spare places count too). A statement '..UptoSaid' is the law's where the arguments, and the package variables that the reading takes, are together of bulk at most 1048576: NARROWER than '..Said'. Prove '..Said' where nothing that the law and all that it calls make is longer than what came in: it says more and counts as full. Else prove '..UptoSaid'. A law counts once. -/
mutual
def uptoBulk {H : Type} : DataW H → Nat
  | .lit (.string bytes) => bytes.length + 1
  | .lit _ => 1
  | .nil => 1
  | .ptr d => uptoBulk d + 1
  | .slice elems spare => uptoBulkAll elems + uptoBulkAll spare + 1
  | .agg parts => uptoBulkAll parts + 1
  | .iface _ d => uptoBulk d + 1
  | .map entries => uptoBulkEntries entries + 1
  | .held _ => 1
def uptoBulkAll {H : Type} : List (DataW H) → Nat
  | [] => 0
  | d :: r => uptoBulk d + uptoBulkAll r
def uptoBulkEntries {H : Type} : List (Lit × DataW H) → Nat
  | [] => 0
  | x :: r => uptoBulkEntry x + uptoBulkEntries r
def uptoBulkEntry {H : Type} : Lit × DataW H → Nat
  | (.string bytes, d) => bytes.length + uptoBulk d + 1
  | (_, d) => uptoBulk d + 1
 end
def uptoSmall : (H : Type) → List (DataW H) → Bool := fun _ ds => decide (uptoBulkAll ds ≤ 1048576)
def OpenSpec.upto (s : _root_.Go.ChangeSpec) : _root_.Go.OpenSpec := { _root_.Go.OpenSpec.ofChange s with cond := some uptoSmall }

/-- 'laws.FnExactMethodSizes', WHERE WHAT IT READS IS OF BULK AT MOST 1048576: true; the input reads as it did. -/
def fnExactMethodSizesUptoRow : OpenClaim := { program := "ytbjblkfibinenadgreatdoor", sum := "ff8b9492f22f7910ee4028f8f38f18e34a697a1f184a2dcfb9ad8f378e486367", func := "loop.example/g01107/laws.FnExactMethodSizes", spec := "fnExactMethodSizes", unfollowed := true, recurses := true, named := ["loop.example/g01107/impl.comparedMethods"], apart := false, laid := [("loop.example/g01107/impl.comparedMethods", laid_loop_example_g01107_impl_comparedMethods)], narrowed := true }
def FnExactMethodSizesUptoSaid : Prop := fnExactMethodSizesUptoRow.holds Tryz.pinned (OpenSpec.upto fnExactMethodSizesSpec)

/-- 'laws.FnExactBestMethod', WHERE WHAT IT READS IS OF BULK AT MOST 1048576: true; the input reads as it did. -/
def fnExactBestMethodUptoRow : OpenClaim := { program := "ytbjblkfibinenadgreatdoor", sum := "ff8b9492f22f7910ee4028f8f38f18e34a697a1f184a2dcfb9ad8f378e486367", func := "loop.example/g01107/laws.FnExactBestMethod", spec := "fnExactBestMethod", unfollowed := true, recurses := true, named := ["loop.example/g01107/impl.comparedMethods"], apart := false, laid := [("loop.example/g01107/impl.comparedMethods", laid_loop_example_g01107_impl_comparedMethods)], narrowed := true }
def FnExactBestMethodUptoSaid : Prop := fnExactBestMethodUptoRow.holds Tryz.pinned (OpenSpec.upto fnExactBestMethodSpec)

/-- 'laws.FnMethodsCompared', WHERE WHAT IT READS IS OF BULK AT MOST 1048576: true; the input reads as it did. -/
def fnMethodsComparedUptoRow : OpenClaim := { program := "ytbjblkfibinenadgreatdoor", sum := "ff8b9492f22f7910ee4028f8f38f18e34a697a1f184a2dcfb9ad8f378e486367", func := "loop.example/g01107/laws.FnMethodsCompared", spec := "fnMethodsCompared", unfollowed := true, recurses := true, named := ["loop.example/g01107/impl.comparedMethods"], apart := false, laid := [("loop.example/g01107/impl.comparedMethods", laid_loop_example_g01107_impl_comparedMethods)], narrowed := true }
def FnMethodsComparedUptoSaid : Prop := fnMethodsComparedUptoRow.holds Tryz.pinned (OpenSpec.upto fnMethodsComparedSpec)

end Rows
end Go.Proofs.YtbjblkfibinenadGreatDoor
