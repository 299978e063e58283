/-
  No cell of these rows narrows 'for every input' (looked for: loops, veiled, ifaces, maps, wideKeys, modest, calm, conditions, laid).
  DERIVED. THE GIVEN ROWS OF THIS SEAT. 9 by the template 'for every input the law returns true; each argument reads behind the call as it read before'; 0 by the template 'total and deterministic' (their statements: YtchoncmalpcebaaTotals.lean).
  GIVEN WITH THE SEED: the statements are not yours to turn. If you find one false, say at which input.
  Laid BY PROGRAM, IN A SANDBOX (cutbox-rows.mjs): the forced cells as the released guide's own fill.sh prints them over the translation 441ba50b38c0b4ac… (all of the seat's roots in one cut). By AI agents, Wed Nov 11 2026. No macro, syntax, notation, axiom, sorry.
-/
import Derived.Test.YtchoncmalpcebaaChecked
import GoSem.Claim
import GoSem.ClaimJoined
import GoSem.ClaimMapViews
import Derived.JoinedTies
import Derived.KernelRfl
namespace Go.Proofs.Ytchoncmalpcebaa
/- THE CELL 'sum', in the pinned program and in every row, IS THE sha256 OF THE DUMP (.gsa) THAT YtchoncmalpcebaaProg.lean LOADS. Nothing in Lean hashes anything: it is a label: what it is worth is what the hold of that sum in a sandbox is worth. -/
noncomputable def Try.pinned : Pinned := { name := "ytchoncmalpcebaa", sum := "441ba50b38c0b4ac4db685be41939278bb03505905e448be113e4d625acb8233", checked := Try.checked }
namespace Rows
def none {H : Type} : Left H := { results := [], args := [] }

/-- 'laws.FnExactTwoTerms': WHATEVER THE INPUT: true; the input reads as it did. -/
def fnExactTwoTermsSpec : ChangeSpec := { name := "fnExactTwoTerms", fn := fun _ => fun
  | [d] => { results := [.lit (.bool true)], args := [d] }
  | _ => none }
def fnExactTwoTermsRow : OpenClaim := { program := "ytchoncmalpcebaa", sum := "441ba50b38c0b4ac4db685be41939278bb03505905e448be113e4d625acb8233", func := "loop.example/g01107/laws.FnExactTwoTerms", spec := "fnExactTwoTerms", unfollowed := true, recurses := true, leaving := true, apart := false }
def FnExactTwoTermsSaid : Prop := fnExactTwoTermsRow.holds Try.pinned (OpenSpec.ofChange fnExactTwoTermsSpec)

/-- ITS FALSE NEIGHBOUR: 'it returns false'. Refute it at one input. -/
def fnExactTwoTermsWrong : ChangeSpec := { name := "fnExactTwoTerms", fn := fun _ => fun
  | [d] => { results := [.lit (.bool false)], args := [d] }
  | _ => none }
def FnExactTwoTermsWrongFalsely : Prop := fnExactTwoTermsRow.holds Try.pinned (OpenSpec.ofChange fnExactTwoTermsWrong)

/-- 'laws.FnExactTwoWitness': WHATEVER THE INPUT: true; the input reads as it did. -/
def fnExactTwoWitnessSpec : ChangeSpec := { name := "fnExactTwoWitness", fn := fun _ => fun
  | [d] => { results := [.lit (.bool true)], args := [d] }
  | _ => none }
def fnExactTwoWitnessRow : OpenClaim := { program := "ytchoncmalpcebaa", sum := "441ba50b38c0b4ac4db685be41939278bb03505905e448be113e4d625acb8233", func := "loop.example/g01107/laws.FnExactTwoWitness", spec := "fnExactTwoWitness", unfollowed := true, recurses := true, leaving := true, apart := false }
def FnExactTwoWitnessSaid : Prop := fnExactTwoWitnessRow.holds Try.pinned (OpenSpec.ofChange fnExactTwoWitnessSpec)

/-- ITS FALSE NEIGHBOUR: 'it returns false'. Refute it at one input. -/
def fnExactTwoWitnessWrong : ChangeSpec := { name := "fnExactTwoWitness", fn := fun _ => fun
  | [d] => { results := [.lit (.bool false)], args := [d] }
  | _ => none }
def FnExactTwoWitnessWrongFalsely : Prop := fnExactTwoWitnessRow.holds Try.pinned (OpenSpec.ofChange fnExactTwoWitnessWrong)

/-- 'laws.FnExactIsTwoWitness': WHATEVER THE INPUT: true; the input reads as it did. -/
def fnExactIsTwoWitnessSpec : ChangeSpec := { name := "fnExactIsTwoWitness", fn := fun _ => fun
  | [d1, d2] => { results := [.lit (.bool true)], args := [d1, d2] }
  | _ => none }
def fnExactIsTwoWitnessRow : OpenClaim := { program := "ytchoncmalpcebaa", sum := "441ba50b38c0b4ac4db685be41939278bb03505905e448be113e4d625acb8233", func := "loop.example/g01107/laws.FnExactIsTwoWitness", spec := "fnExactIsTwoWitness", apart := false }
def FnExactIsTwoWitnessSaid : Prop := fnExactIsTwoWitnessRow.holds Try.pinned (OpenSpec.ofChange fnExactIsTwoWitnessSpec)

/-- ITS FALSE NEIGHBOUR: 'it returns false'. Refute it at one input. -/
def fnExactIsTwoWitnessWrong : ChangeSpec := { name := "fnExactIsTwoWitness", fn := fun _ => fun
  | [d1, d2] => { results := [.lit (.bool false)], args := [d1, d2] }
  | _ => none }
def FnExactIsTwoWitnessWrongFalsely : Prop := fnExactIsTwoWitnessRow.holds Try.pinned (OpenSpec.ofChange fnExactIsTwoWitnessWrong)

/-- 'laws.FnExactCountTwo': WHATEVER THE INPUT: true; the input reads as it did. -/
def fnExactCountTwoSpec : ChangeSpec := { name := "fnExactCountTwo", fn := fun _ => fun
  | [d] => { results := [.lit (.bool true)], args := [d] }
  | _ => none }
def fnExactCountTwoRow : OpenClaim := { program := "ytchoncmalpcebaa", sum := "441ba50b38c0b4ac4db685be41939278bb03505905e448be113e4d625acb8233", func := "loop.example/g01107/laws.FnExactCountTwo", spec := "fnExactCountTwo", unfollowed := true, recurses := true, leaving := true, apart := false }
def FnExactCountTwoSaid : Prop := fnExactCountTwoRow.holds Try.pinned (OpenSpec.ofChange fnExactCountTwoSpec)

/-- ITS FALSE NEIGHBOUR: 'it returns false'. Refute it at one input. -/
def fnExactCountTwoWrong : ChangeSpec := { name := "fnExactCountTwo", fn := fun _ => fun
  | [d] => { results := [.lit (.bool false)], args := [d] }
  | _ => none }
def FnExactCountTwoWrongFalsely : Prop := fnExactCountTwoRow.holds Try.pinned (OpenSpec.ofChange fnExactCountTwoWrong)

/-- 'laws.FnExactThreeTerms': WHATEVER THE INPUT: true; the input reads as it did. -/
def fnExactThreeTermsSpec : ChangeSpec := { name := "fnExactThreeTerms", fn := fun _ => fun
  | [d] => { results := [.lit (.bool true)], args := [d] }
  | _ => none }
def fnExactThreeTermsRow : OpenClaim := { program := "ytchoncmalpcebaa", sum := "441ba50b38c0b4ac4db685be41939278bb03505905e448be113e4d625acb8233", func := "loop.example/g01107/laws.FnExactThreeTerms", spec := "fnExactThreeTerms", inPlace := ["slices.overlaps[int]"], unfollowed := true, recurses := true, leaving := true, apart := false }
def FnExactThreeTermsSaid : Prop := fnExactThreeTermsRow.holds Try.pinned (OpenSpec.ofChange fnExactThreeTermsSpec)

/-- ITS FALSE NEIGHBOUR: 'it returns false'. Refute it at one input. -/
def fnExactThreeTermsWrong : ChangeSpec := { name := "fnExactThreeTerms", fn := fun _ => fun
  | [d] => { results := [.lit (.bool false)], args := [d] }
  | _ => none }
def FnExactThreeTermsWrongFalsely : Prop := fnExactThreeTermsRow.holds Try.pinned (OpenSpec.ofChange fnExactThreeTermsWrong)

/-- 'laws.FnExactFirstThree': WHATEVER THE INPUT: true; the input reads as it did. -/
def fnExactFirstThreeSpec : ChangeSpec := { name := "fnExactFirstThree", fn := fun _ => fun
  | [d] => { results := [.lit (.bool true)], args := [d] }
  | _ => none }
def fnExactFirstThreeRow : OpenClaim := { program := "ytchoncmalpcebaa", sum := "441ba50b38c0b4ac4db685be41939278bb03505905e448be113e4d625acb8233", func := "loop.example/g01107/laws.FnExactFirstThree", spec := "fnExactFirstThree", inPlace := ["slices.overlaps[int]"], unfollowed := true, recurses := true, leaving := true, apart := false }
def FnExactFirstThreeSaid : Prop := fnExactFirstThreeRow.holds Try.pinned (OpenSpec.ofChange fnExactFirstThreeSpec)

/-- ITS FALSE NEIGHBOUR: 'it returns false'. Refute it at one input. -/
def fnExactFirstThreeWrong : ChangeSpec := { name := "fnExactFirstThree", fn := fun _ => fun
  | [d] => { results := [.lit (.bool false)], args := [d] }
  | _ => none }
def FnExactFirstThreeWrongFalsely : Prop := fnExactFirstThreeRow.holds Try.pinned (OpenSpec.ofChange fnExactFirstThreeWrong)

/-- 'laws.FnExactFourOver': WHATEVER THE INPUT: true; the input reads as it did. -/
def fnExactFourOverSpec : ChangeSpec := { name := "fnExactFourOver", fn := fun _ => fun
  | [d] => { results := [.lit (.bool true)], args := [d] }
  | _ => none }
def fnExactFourOverRow : OpenClaim := { program := "ytchoncmalpcebaa", sum := "441ba50b38c0b4ac4db685be41939278bb03505905e448be113e4d625acb8233", func := "loop.example/g01107/laws.FnExactFourOver", spec := "fnExactFourOver", inPlace := ["slices.overlaps[int]"], unfollowed := true, recurses := true, leaving := true, apart := false }
def FnExactFourOverSaid : Prop := fnExactFourOverRow.holds Try.pinned (OpenSpec.ofChange fnExactFourOverSpec)

/-- ITS FALSE NEIGHBOUR: 'it returns false'. Refute it at one input. -/
def fnExactFourOverWrong : ChangeSpec := { name := "fnExactFourOver", fn := fun _ => fun
  | [d] => { results := [.lit (.bool false)], args := [d] }
  | _ => none }
def FnExactFourOverWrongFalsely : Prop := fnExactFourOverRow.holds Try.pinned (OpenSpec.ofChange fnExactFourOverWrong)

/-- 'laws.FnExactFewTerms': WHATEVER THE INPUT: true; the input reads as it did. -/
def fnExactFewTermsSpec : ChangeSpec := { name := "fnExactFewTerms", fn := fun _ => fun
  | [d1, d2, d3] => { results := [.lit (.bool true)], args := [d1, d2, d3] }
  | _ => none }
def fnExactFewTermsRow : OpenClaim := { program := "ytchoncmalpcebaa", sum := "441ba50b38c0b4ac4db685be41939278bb03505905e448be113e4d625acb8233", func := "loop.example/g01107/laws.FnExactFewTerms", spec := "fnExactFewTerms", unfollowed := true, recurses := true, leaving := true, apart := false }
def FnExactFewTermsSaid : Prop := fnExactFewTermsRow.holds Try.pinned (OpenSpec.ofChange fnExactFewTermsSpec)

/-- ITS FALSE NEIGHBOUR: 'it returns false'. Refute it at one input. -/
def fnExactFewTermsWrong : ChangeSpec := { name := "fnExactFewTerms", fn := fun _ => fun
  | [d1, d2, d3] => { results := [.lit (.bool false)], args := [d1, d2, d3] }
  | _ => none }
def FnExactFewTermsWrongFalsely : Prop := fnExactFewTermsRow.holds Try.pinned (OpenSpec.ofChange fnExactFewTermsWrong)

/-- 'laws.FnExactFirstFew': WHATEVER THE INPUT: true; the input reads as it did. -/
def fnExactFirstFewSpec : ChangeSpec := { name := "fnExactFirstFew", fn := fun _ => fun
  | [d1, d2, d3] => { results := [.lit (.bool true)], args := [d1, d2, d3] }
  | _ => none }
def fnExactFirstFewRow : OpenClaim := { program := "ytchoncmalpcebaa", sum := "441ba50b38c0b4ac4db685be41939278bb03505905e448be113e4d625acb8233", func := "loop.example/g01107/laws.FnExactFirstFew", spec := "fnExactFirstFew", unfollowed := true, recurses := true, leaving := true, apart := false }
def FnExactFirstFewSaid : Prop := fnExactFirstFewRow.holds Try.pinned (OpenSpec.ofChange fnExactFirstFewSpec)

/-- ITS FALSE NEIGHBOUR: 'it returns false'. Refute it at one input. -/
def fnExactFirstFewWrong : ChangeSpec := { name := "fnExactFirstFew", fn := fun _ => fun
  | [d1, d2, d3] => { results := [.lit (.bool false)], args := [d1, d2, d3] }
  | _ => none }
def FnExactFirstFewWrongFalsely : Prop := fnExactFirstFewRow.holds Try.pinned (OpenSpec.ofChange fnExactFirstFewWrong)

/- THE SECOND FORM. 'bulk': how many values and letters a reading holds, each counted each time it is reached (what is shared counts as often as it is met; a slice's spare places count too). A statement '..UptoSaid' is the law's where the arguments, and the package variables that the reading takes, are together of bulk at most 1048576: NARROWER than '..Said'. Prove '..Said' where nothing that the law and all that it calls make is longer than what came in: it says more and counts as full. Else prove '..UptoSaid'. A law counts once. -/
mutual
def uptoBulk {H : Type} : DataW H → Nat
  | .lit (.string bytes) => bytes.length + 1
  | .lit _ => 1
  | .nil => 1
  | .ptr d => uptoBulk d + 1
  | .slice elems spare => uptoBulkAll elems + uptoBulkAll spare + 1
  | .agg parts => uptoBulkAll parts + 1
  | .iface _ d => uptoBulk d + 1
  | .map entries => uptoBulkEntries entries + 1
  | .held _ => 1
def uptoBulkAll {H : Type} : List (DataW H) → Nat
  | [] => 0
  | d :: r => uptoBulk d + uptoBulkAll r
def uptoBulkEntries {H : Type} : List (Lit × DataW H) → Nat
  | [] => 0
  | x :: r => uptoBulkEntry x + uptoBulkEntries r
def uptoBulkEntry {H : Type} : Lit × DataW H → Nat
  | (.string bytes, d) => bytes.length + uptoBulk d + 1
  | (_, d) => uptoBulk d + 1
 end
def uptoSmall : (H : Type) → List (DataW H) → Bool := fun _ ds => decide (uptoBulkAll ds ≤ 1048576)
def OpenSpec.upto (s : _root_.Go.ChangeSpec) : _root_.Go.OpenSpec := { _root_.Go.OpenSpec.ofChange s with cond := some uptoSmall }

/-- 'laws.FnExactTwoTerms', WHERE WHAT IT READS IS OF BULK AT MOST 1048576: true; the input reads as it did. -/
def fnExactTwoTermsUptoRow : OpenClaim := { program := "ytchoncmalpcebaa", sum := "441ba50b38c0b4ac4db685be41939278bb03505905e448be113e4d625acb8233", func := "loop.example/g01107/laws.FnExactTwoTerms", spec := "fnExactTwoTerms", unfollowed := true, recurses := true, leaving := true, apart := false, narrowed := true }
def FnExactTwoTermsUptoSaid : Prop := fnExactTwoTermsUptoRow.holds Try.pinned (OpenSpec.upto fnExactTwoTermsSpec)

/-- 'laws.FnExactTwoWitness', WHERE WHAT IT READS IS OF BULK AT MOST 1048576: true; the input reads as it did. -/
def fnExactTwoWitnessUptoRow : OpenClaim := { program := "ytchoncmalpcebaa", sum := "441ba50b38c0b4ac4db685be41939278bb03505905e448be113e4d625acb8233", func := "loop.example/g01107/laws.FnExactTwoWitness", spec := "fnExactTwoWitness", unfollowed := true, recurses := true, leaving := true, apart := false, narrowed := true }
def FnExactTwoWitnessUptoSaid : Prop := fnExactTwoWitnessUptoRow.holds Try.pinned (OpenSpec.upto fnExactTwoWitnessSpec)

/-- 'laws.FnExactIsTwoWitness', WHERE WHAT IT READS IS OF BULK AT MOST 1048576: true; the input reads as it did. -/
def fnExactIsTwoWitnessUptoRow : OpenClaim := { program := "ytchoncmalpcebaa", sum := "441ba50b38c0b4ac4db685be41939278bb03505905e448be113e4d625acb8233", func := "loop.example/g01107/laws.FnExactIsTwoWitness", spec := "fnExactIsTwoWitness", apart := false, narrowed := true }
def FnExactIsTwoWitnessUptoSaid : Prop := fnExactIsTwoWitnessUptoRow.holds Try.pinned (OpenSpec.upto fnExactIsTwoWitnessSpec)

/-- 'laws.FnExactCountTwo', WHERE WHAT IT READS IS OF BULK AT MOST 1048576: true; the input reads as it did. -/
def fnExactCountTwoUptoRow : OpenClaim := { program := "ytchoncmalpcebaa", sum := "441ba50b38c0b4ac4db685be41939278bb03505905e448be113e4d625acb8233", func := "loop.example/g01107/laws.FnExactCountTwo", spec := "fnExactCountTwo", unfollowed := true, recurses := true, leaving := true, apart := false, narrowed := true }
def FnExactCountTwoUptoSaid : Prop := fnExactCountTwoUptoRow.holds Try.pinned (OpenSpec.upto fnExactCountTwoSpec)

/-- 'laws.FnExactThreeTerms', WHERE WHAT IT READS IS OF BULK AT MOST 1048576: true; the input reads as it did. -/
def fnExactThreeTermsUptoRow : OpenClaim := { program := "ytchoncmalpcebaa", sum := "441ba50b38c0b4ac4db685be41939278bb03505905e448be113e4d625acb8233", func := "loop.example/g01107/laws.FnExactThreeTerms", spec := "fnExactThreeTerms", inPlace := ["slices.overlaps[int]"], unfollowed := true, recurses := true, leaving := true, apart := false, narrowed := true }
def FnExactThreeTermsUptoSaid : Prop := fnExactThreeTermsUptoRow.holds Try.pinned (OpenSpec.upto fnExactThreeTermsSpec)

/-- 'laws.FnExactFirstThree', WHERE WHAT IT READS IS OF BULK AT MOST 1048576: true; the input reads as it did. -/
def fnExactFirstThreeUptoRow : OpenClaim := { program := "ytchoncmalpcebaa", sum := "441ba50b38c0b4ac4db685be41939278bb03505905e448be113e4d625acb8233", func := "loop.example/g01107/laws.FnExactFirstThree", spec := "fnExactFirstThree", inPlace := ["slices.overlaps[int]"], unfollowed := true, recurses := true, leaving := true, apart := false, narrowed := true }
def FnExactFirstThreeUptoSaid : Prop := fnExactFirstThreeUptoRow.holds Try.pinned (OpenSpec.upto fnExactFirstThreeSpec)

/-- 'laws.FnExactFourOver', WHERE WHAT IT READS IS OF BULK AT MOST 1048576: true; the input reads as it did. -/
def fnExactFourOverUptoRow : OpenClaim := { program := "ytchoncmalpcebaa", sum := "441ba50b38c0b4ac4db685be41939278bb03505905e448be113e4d625acb8233", func := "loop.example/g01107/laws.FnExactFourOver", spec := "fnExactFourOver", inPlace := ["slices.overlaps[int]"], unfollowed := true, recurses := true, leaving := true, apart := false, narrowed := true }
def FnExactFourOverUptoSaid : Prop := fnExactFourOverUptoRow.holds Try.pinned (OpenSpec.upto fnExactFourOverSpec)

/-- 'laws.FnExactFewTerms', WHERE WHAT IT READS IS OF BULK AT MOST 1048576: true; the input reads as it did. -/
def fnExactFewTermsUptoRow : OpenClaim := { program := "ytchoncmalpcebaa", sum := "441ba50b38c0b4ac4db685be41939278bb03505905e448be113e4d625acb8233", func := "loop.example/g01107/laws.FnExactFewTerms", spec := "fnExactFewTerms", unfollowed := true, recurses := true, leaving := true, apart := false, narrowed := true }
def FnExactFewTermsUptoSaid : Prop := fnExactFewTermsUptoRow.holds Try.pinned (OpenSpec.upto fnExactFewTermsSpec)

/-- 'laws.FnExactFirstFew', WHERE WHAT IT READS IS OF BULK AT MOST 1048576: true; the input reads as it did. -/
def fnExactFirstFewUptoRow : OpenClaim := { program := "ytchoncmalpcebaa", sum := "441ba50b38c0b4ac4db685be41939278bb03505905e448be113e4d625acb8233", func := "loop.example/g01107/laws.FnExactFirstFew", spec := "fnExactFirstFew", unfollowed := true, recurses := true, leaving := true, apart := false, narrowed := true }
def FnExactFirstFewUptoSaid : Prop := fnExactFirstFewUptoRow.holds Try.pinned (OpenSpec.upto fnExactFirstFewSpec)

end Rows
end Go.Proofs.Ytchoncmalpcebaa
