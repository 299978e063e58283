/-
  No cell of these rows narrows 'for every input' (looked for: loops, veiled, ifaces, maps, wideKeys, modest, calm, conditions, laid).
  DERIVED. THE GIVEN ROWS OF THIS SEAT. 8 by the template 'for every input the law returns true; each argument reads behind the call as it read before'; 0 by the template 'total and deterministic' (their statements: YtocnjfbcblbjeaaTotals.lean).
  GIVEN WITH THE SEED: the statements are not yours to turn. If you find one false, say at which input.
  Laid BY PROGRAM, IN A SANDBOX (cutbox-rows.mjs): the forced cells as the released guide's own fill.sh prints them over the translation 71c1ecae3722aa32… (all of the seat's roots in one cut). By AI agents, Wed Nov 11 2026. No macro, syntax, notation, axiom, sorry.
-/
import Derived.Test.YtocnjfbcblbjeaaChecked
import GoSem.Claim
import GoSem.ClaimJoined
import GoSem.ClaimMapViews
import Derived.JoinedTies
import Derived.KernelRfl
namespace Go.Proofs.Ytocnjfbcblbjeaa
/- THE CELL 'sum', in the pinned program and in every row, IS THE sha256 OF THE DUMP (.gsa) THAT YtocnjfbcblbjeaaProg.lean LOADS. Nothing in Lean hashes anything: it is a label: what it is worth is what the hold of that sum in a sandbox is worth. -/
noncomputable def Try.pinned : Pinned := { name := "ytocnjfbcblbjeaa", sum := "71c1ecae3722aa3249b7f50bd3f3401efd6825b6d801cb30545c133b2559bf9e", checked := Try.checked }
namespace Rows
def none {H : Type} : Left H := { results := [], args := [] }

/-- 'laws.FnExactInverseOf': WHATEVER THE INPUT: true; the input reads as it did. -/
def fnExactInverseOfSpec : ChangeSpec := { name := "fnExactInverseOf", fn := fun _ => fun
  | [d1, d2] => { results := [.lit (.bool true)], args := [d1, d2] }
  | _ => none }
def fnExactInverseOfRow : OpenClaim := { program := "ytocnjfbcblbjeaa", sum := "71c1ecae3722aa3249b7f50bd3f3401efd6825b6d801cb30545c133b2559bf9e", func := "loop.example/g01107/laws.FnExactInverseOf", spec := "fnExactInverseOf", apart := false }
def FnExactInverseOfSaid : Prop := fnExactInverseOfRow.holds Try.pinned (OpenSpec.ofChange fnExactInverseOfSpec)

/-- ITS FALSE NEIGHBOUR: 'it returns false'. Refute it at one input. -/
def fnExactInverseOfWrong : ChangeSpec := { name := "fnExactInverseOf", fn := fun _ => fun
  | [d1, d2] => { results := [.lit (.bool false)], args := [d1, d2] }
  | _ => none }
def FnExactInverseOfWrongFalsely : Prop := fnExactInverseOfRow.holds Try.pinned (OpenSpec.ofChange fnExactInverseOfWrong)

/-- 'laws.FnExactGolombStep': WHATEVER THE INPUT: true; the input reads as it did. -/
def fnExactGolombStepSpec : ChangeSpec := { name := "fnExactGolombStep", fn := fun _ => fun
  | [d] => { results := [.lit (.bool true)], args := [d] }
  | _ => none }
def fnExactGolombStepRow : OpenClaim := { program := "ytocnjfbcblbjeaa", sum := "71c1ecae3722aa3249b7f50bd3f3401efd6825b6d801cb30545c133b2559bf9e", func := "loop.example/g01107/laws.FnExactGolombStep", spec := "fnExactGolombStep", apart := false }
def FnExactGolombStepSaid : Prop := fnExactGolombStepRow.holds Try.pinned (OpenSpec.ofChange fnExactGolombStepSpec)

/-- ITS FALSE NEIGHBOUR: 'it returns false'. Refute it at one input. -/
def fnExactGolombStepWrong : ChangeSpec := { name := "fnExactGolombStep", fn := fun _ => fun
  | [d] => { results := [.lit (.bool false)], args := [d] }
  | _ => none }
def FnExactGolombStepWrongFalsely : Prop := fnExactGolombStepRow.holds Try.pinned (OpenSpec.ofChange fnExactGolombStepWrong)

/-- 'laws.FnExactGolombRests': WHATEVER THE INPUT: true; the input reads as it did. -/
def fnExactGolombRestsSpec : ChangeSpec := { name := "fnExactGolombRests", fn := fun _ => fun
  | [d] => { results := [.lit (.bool true)], args := [d] }
  | _ => none }
def fnExactGolombRestsRow : OpenClaim := { program := "ytocnjfbcblbjeaa", sum := "71c1ecae3722aa3249b7f50bd3f3401efd6825b6d801cb30545c133b2559bf9e", func := "loop.example/g01107/laws.FnExactGolombRests", spec := "fnExactGolombRests", unfollowed := true, recurses := true, apart := false }
def FnExactGolombRestsSaid : Prop := fnExactGolombRestsRow.holds Try.pinned (OpenSpec.ofChange fnExactGolombRestsSpec)

/-- ITS FALSE NEIGHBOUR: 'it returns false'. Refute it at one input. -/
def fnExactGolombRestsWrong : ChangeSpec := { name := "fnExactGolombRests", fn := fun _ => fun
  | [d] => { results := [.lit (.bool false)], args := [d] }
  | _ => none }
def FnExactGolombRestsWrongFalsely : Prop := fnExactGolombRestsRow.holds Try.pinned (OpenSpec.ofChange fnExactGolombRestsWrong)

/-- 'laws.FnExactBinaryParts': WHATEVER THE INPUT: true; the input reads as it did. -/
def fnExactBinaryPartsSpec : ChangeSpec := { name := "fnExactBinaryParts", fn := fun _ => fun
  | [d] => { results := [.lit (.bool true)], args := [d] }
  | _ => none }
def fnExactBinaryPartsRow : OpenClaim := { program := "ytocnjfbcblbjeaa", sum := "71c1ecae3722aa3249b7f50bd3f3401efd6825b6d801cb30545c133b2559bf9e", func := "loop.example/g01107/laws.FnExactBinaryParts", spec := "fnExactBinaryParts", apart := false }
def FnExactBinaryPartsSaid : Prop := fnExactBinaryPartsRow.holds Try.pinned (OpenSpec.ofChange fnExactBinaryPartsSpec)

/-- ITS FALSE NEIGHBOUR: 'it returns false'. Refute it at one input. -/
def fnExactBinaryPartsWrong : ChangeSpec := { name := "fnExactBinaryParts", fn := fun _ => fun
  | [d] => { results := [.lit (.bool false)], args := [d] }
  | _ => none }
def FnExactBinaryPartsWrongFalsely : Prop := fnExactBinaryPartsRow.holds Try.pinned (OpenSpec.ofChange fnExactBinaryPartsWrong)

/-- 'laws.FnExactLeastFactorial': WHATEVER THE INPUT: true; the input reads as it did. -/
def fnExactLeastFactorialSpec : ChangeSpec := { name := "fnExactLeastFactorial", fn := fun _ => fun
  | [d] => { results := [.lit (.bool true)], args := [d] }
  | _ => none }
def fnExactLeastFactorialRow : OpenClaim := { program := "ytocnjfbcblbjeaa", sum := "71c1ecae3722aa3249b7f50bd3f3401efd6825b6d801cb30545c133b2559bf9e", func := "loop.example/g01107/laws.FnExactLeastFactorial", spec := "fnExactLeastFactorial", apart := false }
def FnExactLeastFactorialSaid : Prop := fnExactLeastFactorialRow.holds Try.pinned (OpenSpec.ofChange fnExactLeastFactorialSpec)

/-- ITS FALSE NEIGHBOUR: 'it returns false'. Refute it at one input. -/
def fnExactLeastFactorialWrong : ChangeSpec := { name := "fnExactLeastFactorial", fn := fun _ => fun
  | [d] => { results := [.lit (.bool false)], args := [d] }
  | _ => none }
def FnExactLeastFactorialWrongFalsely : Prop := fnExactLeastFactorialRow.holds Try.pinned (OpenSpec.ofChange fnExactLeastFactorialWrong)

/-- 'laws.FnExactFactorialDigits': WHATEVER THE INPUT: true; the input reads as it did. -/
def fnExactFactorialDigitsSpec : ChangeSpec := { name := "fnExactFactorialDigits", fn := fun _ => fun
  | [d] => { results := [.lit (.bool true)], args := [d] }
  | _ => none }
def fnExactFactorialDigitsRow : OpenClaim := { program := "ytocnjfbcblbjeaa", sum := "71c1ecae3722aa3249b7f50bd3f3401efd6825b6d801cb30545c133b2559bf9e", func := "loop.example/g01107/laws.FnExactFactorialDigits", spec := "fnExactFactorialDigits", apart := false }
def FnExactFactorialDigitsSaid : Prop := fnExactFactorialDigitsRow.holds Try.pinned (OpenSpec.ofChange fnExactFactorialDigitsSpec)

/-- ITS FALSE NEIGHBOUR: 'it returns false'. Refute it at one input. -/
def fnExactFactorialDigitsWrong : ChangeSpec := { name := "fnExactFactorialDigits", fn := fun _ => fun
  | [d] => { results := [.lit (.bool false)], args := [d] }
  | _ => none }
def FnExactFactorialDigitsWrongFalsely : Prop := fnExactFactorialDigitsRow.holds Try.pinned (OpenSpec.ofChange fnExactFactorialDigitsWrong)

/-- 'laws.FnExactFromFactorial': WHATEVER THE INPUT: true; the input reads as it did. -/
def fnExactFromFactorialSpec : ChangeSpec := { name := "fnExactFromFactorial", fn := fun _ => fun
  | [d] => { results := [.lit (.bool true)], args := [d] }
  | _ => none }
def fnExactFromFactorialRow : OpenClaim := { program := "ytocnjfbcblbjeaa", sum := "71c1ecae3722aa3249b7f50bd3f3401efd6825b6d801cb30545c133b2559bf9e", func := "loop.example/g01107/laws.FnExactFromFactorial", spec := "fnExactFromFactorial", apart := false }
def FnExactFromFactorialSaid : Prop := fnExactFromFactorialRow.holds Try.pinned (OpenSpec.ofChange fnExactFromFactorialSpec)

/-- ITS FALSE NEIGHBOUR: 'it returns false'. Refute it at one input. -/
def fnExactFromFactorialWrong : ChangeSpec := { name := "fnExactFromFactorial", fn := fun _ => fun
  | [d] => { results := [.lit (.bool false)], args := [d] }
  | _ => none }
def FnExactFromFactorialWrongFalsely : Prop := fnExactFromFactorialRow.holds Try.pinned (OpenSpec.ofChange fnExactFromFactorialWrong)

/-- 'laws.FnInverses': WHATEVER THE INPUT: true; the input reads as it did. -/
def fnInversesSpec : ChangeSpec := { name := "fnInverses", fn := fun _ => fun
  | [d1, d2] => { results := [.lit (.bool true)], args := [d1, d2] }
  | _ => none }
def fnInversesRow : OpenClaim := { program := "ytocnjfbcblbjeaa", sum := "71c1ecae3722aa3249b7f50bd3f3401efd6825b6d801cb30545c133b2559bf9e", func := "loop.example/g01107/laws.FnInverses", spec := "fnInverses", apart := false }
def FnInversesSaid : Prop := fnInversesRow.holds Try.pinned (OpenSpec.ofChange fnInversesSpec)

/-- ITS FALSE NEIGHBOUR: 'it returns false'. Refute it at one input. -/
def fnInversesWrong : ChangeSpec := { name := "fnInverses", fn := fun _ => fun
  | [d1, d2] => { results := [.lit (.bool false)], args := [d1, d2] }
  | _ => none }
def FnInversesWrongFalsely : Prop := fnInversesRow.holds Try.pinned (OpenSpec.ofChange fnInversesWrong)

/- THE SECOND FORM. 'bulk': how many values and letters a reading holds, each counted each time it is reached (what is shared counts as often as it is met; a slice's spare places count too). A statement '..UptoSaid' is the law's where the arguments, and the package variables that the reading takes, are together of bulk at most 1048576: NARROWER than '..Said'. Prove '..Said' where nothing that the law and all that it calls make is longer than what came in: it says more and counts as full. Else prove '..UptoSaid'. A law counts once. -/
mutual
def uptoBulk {H : Type} : DataW H → Nat
  | .lit (.string bytes) => bytes.length + 1
  | .lit _ => 1
  | .nil => 1
  | .ptr d => uptoBulk d + 1
  | .slice elems spare => uptoBulkAll elems + uptoBulkAll spare + 1
  | .agg parts => uptoBulkAll parts + 1
  | .iface _ d => uptoBulk d + 1
  | .map entries => uptoBulkEntries entries + 1
  | .held _ => 1
def uptoBulkAll {H : Type} : List (DataW H) → Nat
  | [] => 0
  | d :: r => uptoBulk d + uptoBulkAll r
def uptoBulkEntries {H : Type} : List (Lit × DataW H) → Nat
  | [] => 0
  | x :: r => uptoBulkEntry x + uptoBulkEntries r
def uptoBulkEntry {H : Type} : Lit × DataW H → Nat
  | (.string bytes, d) => bytes.length + uptoBulk d + 1
  | (_, d) => uptoBulk d + 1
 end
def uptoSmall : (H : Type) → List (DataW H) → Bool := fun _ ds => decide (uptoBulkAll ds ≤ 1048576)
def OpenSpec.upto (s : _root_.Go.ChangeSpec) : _root_.Go.OpenSpec := { _root_.Go.OpenSpec.ofChange s with cond := some uptoSmall }

/-- 'laws.FnExactInverseOf', WHERE WHAT IT READS IS OF BULK AT MOST 1048576: true; the input reads as it did. -/
def fnExactInverseOfUptoRow : OpenClaim := { program := "ytocnjfbcblbjeaa", sum := "71c1ecae3722aa3249b7f50bd3f3401efd6825b6d801cb30545c133b2559bf9e", func := "loop.example/g01107/laws.FnExactInverseOf", spec := "fnExactInverseOf", apart := false, narrowed := true }
def FnExactInverseOfUptoSaid : Prop := fnExactInverseOfUptoRow.holds Try.pinned (OpenSpec.upto fnExactInverseOfSpec)

/-- 'laws.FnExactGolombStep', WHERE WHAT IT READS IS OF BULK AT MOST 1048576: true; the input reads as it did. -/
def fnExactGolombStepUptoRow : OpenClaim := { program := "ytocnjfbcblbjeaa", sum := "71c1ecae3722aa3249b7f50bd3f3401efd6825b6d801cb30545c133b2559bf9e", func := "loop.example/g01107/laws.FnExactGolombStep", spec := "fnExactGolombStep", apart := false, narrowed := true }
def FnExactGolombStepUptoSaid : Prop := fnExactGolombStepUptoRow.holds Try.pinned (OpenSpec.upto fnExactGolombStepSpec)

/-- 'laws.FnExactGolombRests', WHERE WHAT IT READS IS OF BULK AT MOST 1048576: true; the input reads as it did. -/
def fnExactGolombRestsUptoRow : OpenClaim := { program := "ytocnjfbcblbjeaa", sum := "71c1ecae3722aa3249b7f50bd3f3401efd6825b6d801cb30545c133b2559bf9e", func := "loop.example/g01107/laws.FnExactGolombRests", spec := "fnExactGolombRests", unfollowed := true, recurses := true, apart := false, narrowed := true }
def FnExactGolombRestsUptoSaid : Prop := fnExactGolombRestsUptoRow.holds Try.pinned (OpenSpec.upto fnExactGolombRestsSpec)

/-- 'laws.FnExactBinaryParts', WHERE WHAT IT READS IS OF BULK AT MOST 1048576: true; the input reads as it did. -/
def fnExactBinaryPartsUptoRow : OpenClaim := { program := "ytocnjfbcblbjeaa", sum := "71c1ecae3722aa3249b7f50bd3f3401efd6825b6d801cb30545c133b2559bf9e", func := "loop.example/g01107/laws.FnExactBinaryParts", spec := "fnExactBinaryParts", apart := false, narrowed := true }
def FnExactBinaryPartsUptoSaid : Prop := fnExactBinaryPartsUptoRow.holds Try.pinned (OpenSpec.upto fnExactBinaryPartsSpec)

/-- 'laws.FnExactLeastFactorial', WHERE WHAT IT READS IS OF BULK AT MOST 1048576: true; the input reads as it did. -/
def fnExactLeastFactorialUptoRow : OpenClaim := { program := "ytocnjfbcblbjeaa", sum := "71c1ecae3722aa3249b7f50bd3f3401efd6825b6d801cb30545c133b2559bf9e", func := "loop.example/g01107/laws.FnExactLeastFactorial", spec := "fnExactLeastFactorial", apart := false, narrowed := true }
def FnExactLeastFactorialUptoSaid : Prop := fnExactLeastFactorialUptoRow.holds Try.pinned (OpenSpec.upto fnExactLeastFactorialSpec)

/-- 'laws.FnExactFactorialDigits', WHERE WHAT IT READS IS OF BULK AT MOST 1048576: true; the input reads as it did. -/
def fnExactFactorialDigitsUptoRow : OpenClaim := { program := "ytocnjfbcblbjeaa", sum := "71c1ecae3722aa3249b7f50bd3f3401efd6825b6d801cb30545c133b2559bf9e", func := "loop.example/g01107/laws.FnExactFactorialDigits", spec := "fnExactFactorialDigits", apart := false, narrowed := true }
def FnExactFactorialDigitsUptoSaid : Prop := fnExactFactorialDigitsUptoRow.holds Try.pinned (OpenSpec.upto fnExactFactorialDigitsSpec)

/-- 'laws.FnExactFromFactorial', WHERE WHAT IT READS IS OF BULK AT MOST 1048576: true; the input reads as it did. -/
def fnExactFromFactorialUptoRow : OpenClaim := { program := "ytocnjfbcblbjeaa", sum := "71c1ecae3722aa3249b7f50bd3f3401efd6825b6d801cb30545c133b2559bf9e", func := "loop.example/g01107/laws.FnExactFromFactorial", spec := "fnExactFromFactorial", apart := false, narrowed := true }
def FnExactFromFactorialUptoSaid : Prop := fnExactFromFactorialUptoRow.holds Try.pinned (OpenSpec.upto fnExactFromFactorialSpec)

/-- 'laws.FnInverses', WHERE WHAT IT READS IS OF BULK AT MOST 1048576: true; the input reads as it did. -/
def fnInversesUptoRow : OpenClaim := { program := "ytocnjfbcblbjeaa", sum := "71c1ecae3722aa3249b7f50bd3f3401efd6825b6d801cb30545c133b2559bf9e", func := "loop.example/g01107/laws.FnInverses", spec := "fnInverses", apart := false, narrowed := true }
def FnInversesUptoSaid : Prop := fnInversesUptoRow.holds Try.pinned (OpenSpec.upto fnInversesSpec)

end Rows
end Go.Proofs.Ytocnjfbcblbjeaa
