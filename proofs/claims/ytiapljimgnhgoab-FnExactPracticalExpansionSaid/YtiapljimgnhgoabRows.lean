/-
  No cell of these rows narrows 'for every input' (looked for: loops, veiled, ifaces, maps, wideKeys, modest, calm, conditions, laid).
  DERIVED. THE GIVEN ROWS OF THIS SEAT. 8 by the template 'for every input the law returns true; each argument reads behind the call as it read before'; 0 by the template 'total and deterministic' (their statements: YtiapljimgnhgoabTotals.lean).
  GIVEN WITH THE SEED: the statements are not yours to turn. If you find one false, say at which input.
  Laid BY PROGRAM, IN A SANDBOX (cutbox-rows.mjs): the forced cells as the released guide's own fill.sh prints them over the translation 6cea581dbeb399a7… (all of the seat's roots in one cut). By AI agents, Wed Nov 11 2026. No macro, syntax, notation, axiom, sorry.
-/
import Derived.Test.YtiapljimgnhgoabChecked
import GoSem.Claim
import GoSem.ClaimJoined
import GoSem.ClaimMapViews
import Derived.JoinedTies
import Derived.KernelRfl
namespace Go.Proofs.Ytiapljimgnhgoab
/- THE CELL 'sum', in the pinned program and in every row, IS THE sha256 OF THE DUMP (.gsa) THAT YtiapljimgnhgoabProg.lean LOADS. Nothing in Lean hashes anything: it is a label: what it is worth is what the hold of that sum in a sandbox is worth. -/
noncomputable def Try.pinned : Pinned := { name := "ytiapljimgnhgoab", sum := "6cea581dbeb399a74764d056a414579774e17e7f24d1740b65a560cb213e462d", checked := Try.checked }
namespace Rows
def none {H : Type} : Left H := { results := [], args := [] }

/-- 'laws.FnExactIsPractical': WHATEVER THE INPUT: true; the input reads as it did. -/
def fnExactIsPracticalSpec : ChangeSpec := { name := "fnExactIsPractical", fn := fun _ => fun
  | [d] => { results := [.lit (.bool true)], args := [d] }
  | _ => none }
def fnExactIsPracticalRow : OpenClaim := { program := "ytiapljimgnhgoab", sum := "6cea581dbeb399a74764d056a414579774e17e7f24d1740b65a560cb213e462d", func := "loop.example/g01107/laws.FnExactIsPractical", spec := "fnExactIsPractical", apart := false }
def FnExactIsPracticalSaid : Prop := fnExactIsPracticalRow.holds Try.pinned (OpenSpec.ofChange fnExactIsPracticalSpec)

/-- ITS FALSE NEIGHBOUR: 'it returns false'. Refute it at one input. -/
def fnExactIsPracticalWrong : ChangeSpec := { name := "fnExactIsPractical", fn := fun _ => fun
  | [d] => { results := [.lit (.bool false)], args := [d] }
  | _ => none }
def FnExactIsPracticalWrongFalsely : Prop := fnExactIsPracticalRow.holds Try.pinned (OpenSpec.ofChange fnExactIsPracticalWrong)

/-- 'laws.FnExactUnreachedOf': WHATEVER THE INPUT: true; the input reads as it did. -/
def fnExactUnreachedOfSpec : ChangeSpec := { name := "fnExactUnreachedOf", fn := fun _ => fun
  | [d] => { results := [.lit (.bool true)], args := [d] }
  | _ => none }
def fnExactUnreachedOfRow : OpenClaim := { program := "ytiapljimgnhgoab", sum := "6cea581dbeb399a74764d056a414579774e17e7f24d1740b65a560cb213e462d", func := "loop.example/g01107/laws.FnExactUnreachedOf", spec := "fnExactUnreachedOf", apart := false }
def FnExactUnreachedOfSaid : Prop := fnExactUnreachedOfRow.holds Try.pinned (OpenSpec.ofChange fnExactUnreachedOfSpec)

/-- ITS FALSE NEIGHBOUR: 'it returns false'. Refute it at one input. -/
def fnExactUnreachedOfWrong : ChangeSpec := { name := "fnExactUnreachedOf", fn := fun _ => fun
  | [d] => { results := [.lit (.bool false)], args := [d] }
  | _ => none }
def FnExactUnreachedOfWrongFalsely : Prop := fnExactUnreachedOfRow.holds Try.pinned (OpenSpec.ofChange fnExactUnreachedOfWrong)

/-- 'laws.FnExactDivisorsFor': WHATEVER THE INPUT: true; the input reads as it did. -/
def fnExactDivisorsForSpec : ChangeSpec := { name := "fnExactDivisorsFor", fn := fun _ => fun
  | [d1, d2] => { results := [.lit (.bool true)], args := [d1, d2] }
  | _ => none }
def fnExactDivisorsForRow : OpenClaim := { program := "ytiapljimgnhgoab", sum := "6cea581dbeb399a74764d056a414579774e17e7f24d1740b65a560cb213e462d", func := "loop.example/g01107/laws.FnExactDivisorsFor", spec := "fnExactDivisorsFor", inPlace := ["maps.clone"], unfollowed := true, recurses := true, apart := false }
def FnExactDivisorsForSaid : Prop := fnExactDivisorsForRow.holds Try.pinned (OpenSpec.ofChange fnExactDivisorsForSpec)

/-- ITS FALSE NEIGHBOUR: 'it returns false'. Refute it at one input. -/
def fnExactDivisorsForWrong : ChangeSpec := { name := "fnExactDivisorsFor", fn := fun _ => fun
  | [d1, d2] => { results := [.lit (.bool false)], args := [d1, d2] }
  | _ => none }
def FnExactDivisorsForWrongFalsely : Prop := fnExactDivisorsForRow.holds Try.pinned (OpenSpec.ofChange fnExactDivisorsForWrong)

/-- 'laws.FnExactCountSums': WHATEVER THE INPUT: true; the input reads as it did. -/
def fnExactCountSumsSpec : ChangeSpec := { name := "fnExactCountSums", fn := fun _ => fun
  | [d1, d2] => { results := [.lit (.bool true)], args := [d1, d2] }
  | _ => none }
def fnExactCountSumsRow : OpenClaim := { program := "ytiapljimgnhgoab", sum := "6cea581dbeb399a74764d056a414579774e17e7f24d1740b65a560cb213e462d", func := "loop.example/g01107/laws.FnExactCountSums", spec := "fnExactCountSums", inPlace := ["maps.clone"], unfollowed := true, recurses := true, apart := false }
def FnExactCountSumsSaid : Prop := fnExactCountSumsRow.holds Try.pinned (OpenSpec.ofChange fnExactCountSumsSpec)

/-- ITS FALSE NEIGHBOUR: 'it returns false'. Refute it at one input. -/
def fnExactCountSumsWrong : ChangeSpec := { name := "fnExactCountSums", fn := fun _ => fun
  | [d1, d2] => { results := [.lit (.bool false)], args := [d1, d2] }
  | _ => none }
def FnExactCountSumsWrongFalsely : Prop := fnExactCountSumsRow.holds Try.pinned (OpenSpec.ofChange fnExactCountSumsWrong)

/-- 'laws.FnExactExpandOver': WHATEVER THE INPUT: true; the input reads as it did. -/
def fnExactExpandOverSpec : ChangeSpec := { name := "fnExactExpandOver", fn := fun _ => fun
  | [d1, d2] => { results := [.lit (.bool true)], args := [d1, d2] }
  | _ => none }
def fnExactExpandOverRow : OpenClaim := { program := "ytiapljimgnhgoab", sum := "6cea581dbeb399a74764d056a414579774e17e7f24d1740b65a560cb213e462d", func := "loop.example/g01107/laws.FnExactExpandOver", spec := "fnExactExpandOver", inPlace := ["maps.clone"], unfollowed := true, recurses := true, apart := false }
def FnExactExpandOverSaid : Prop := fnExactExpandOverRow.holds Try.pinned (OpenSpec.ofChange fnExactExpandOverSpec)

/-- ITS FALSE NEIGHBOUR: 'it returns false'. Refute it at one input. -/
def fnExactExpandOverWrong : ChangeSpec := { name := "fnExactExpandOver", fn := fun _ => fun
  | [d1, d2] => { results := [.lit (.bool false)], args := [d1, d2] }
  | _ => none }
def FnExactExpandOverWrongFalsely : Prop := fnExactExpandOverRow.holds Try.pinned (OpenSpec.ofChange fnExactExpandOverWrong)

/-- 'laws.FnExactLeastOver': WHATEVER THE INPUT: true; the input reads as it did. -/
def fnExactLeastOverSpec : ChangeSpec := { name := "fnExactLeastOver", fn := fun _ => fun
  | [d] => { results := [.lit (.bool true)], args := [d] }
  | _ => none }
def fnExactLeastOverRow : OpenClaim := { program := "ytiapljimgnhgoab", sum := "6cea581dbeb399a74764d056a414579774e17e7f24d1740b65a560cb213e462d", func := "loop.example/g01107/laws.FnExactLeastOver", spec := "fnExactLeastOver", inPlace := ["maps.clone"], unfollowed := true, recurses := true, apart := false }
def FnExactLeastOverSaid : Prop := fnExactLeastOverRow.holds Try.pinned (OpenSpec.ofChange fnExactLeastOverSpec)

/-- ITS FALSE NEIGHBOUR: 'it returns false'. Refute it at one input. -/
def fnExactLeastOverWrong : ChangeSpec := { name := "fnExactLeastOver", fn := fun _ => fun
  | [d] => { results := [.lit (.bool false)], args := [d] }
  | _ => none }
def FnExactLeastOverWrongFalsely : Prop := fnExactLeastOverRow.holds Try.pinned (OpenSpec.ofChange fnExactLeastOverWrong)

/-- 'laws.FnExactPracticalExpansion': WHATEVER THE INPUT: true; the input reads as it did. -/
def fnExactPracticalExpansionSpec : ChangeSpec := { name := "fnExactPracticalExpansion", fn := fun _ => fun
  | [d] => { results := [.lit (.bool true)], args := [d] }
  | _ => none }
def fnExactPracticalExpansionRow : OpenClaim := { program := "ytiapljimgnhgoab", sum := "6cea581dbeb399a74764d056a414579774e17e7f24d1740b65a560cb213e462d", func := "loop.example/g01107/laws.FnExactPracticalExpansion", spec := "fnExactPracticalExpansion", inPlace := ["maps.clone"], unfollowed := true, recurses := true, apart := false }
def FnExactPracticalExpansionSaid : Prop := fnExactPracticalExpansionRow.holds Try.pinned (OpenSpec.ofChange fnExactPracticalExpansionSpec)

/-- ITS FALSE NEIGHBOUR: 'it returns false'. Refute it at one input. -/
def fnExactPracticalExpansionWrong : ChangeSpec := { name := "fnExactPracticalExpansion", fn := fun _ => fun
  | [d] => { results := [.lit (.bool false)], args := [d] }
  | _ => none }
def FnExactPracticalExpansionWrongFalsely : Prop := fnExactPracticalExpansionRow.holds Try.pinned (OpenSpec.ofChange fnExactPracticalExpansionWrong)

/-- 'laws.FnPracticalNumbers': WHATEVER THE INPUT: true; the input reads as it did. -/
def fnPracticalNumbersSpec : ChangeSpec := { name := "fnPracticalNumbers", fn := fun _ => fun
  | [d1, d2] => { results := [.lit (.bool true)], args := [d1, d2] }
  | _ => none }
def fnPracticalNumbersRow : OpenClaim := { program := "ytiapljimgnhgoab", sum := "6cea581dbeb399a74764d056a414579774e17e7f24d1740b65a560cb213e462d", func := "loop.example/g01107/laws.FnPracticalNumbers", spec := "fnPracticalNumbers", inPlace := ["maps.clone"], unfollowed := true, recurses := true, apart := false }
def FnPracticalNumbersSaid : Prop := fnPracticalNumbersRow.holds Try.pinned (OpenSpec.ofChange fnPracticalNumbersSpec)

/-- ITS FALSE NEIGHBOUR: 'it returns false'. Refute it at one input. -/
def fnPracticalNumbersWrong : ChangeSpec := { name := "fnPracticalNumbers", fn := fun _ => fun
  | [d1, d2] => { results := [.lit (.bool false)], args := [d1, d2] }
  | _ => none }
def FnPracticalNumbersWrongFalsely : Prop := fnPracticalNumbersRow.holds Try.pinned (OpenSpec.ofChange fnPracticalNumbersWrong)

/- THE SECOND FORM. 'bulk': how many values and letters a reading holds, each counted each time it is reached (what is shared counts as often as it is met; a slice's spare places count too). A statement '..UptoSaid' is the law's where the arguments, and the package variables that the reading takes, are together of bulk at most 1048576: NARROWER than '..Said'. Prove '..Said' where nothing that the law and all that it calls make is longer than what came in: it says more and counts as full. Else prove '..UptoSaid'. A law counts once. -/
mutual
def uptoBulk {H : Type} : DataW H → Nat
  | .lit (.string bytes) => bytes.length + 1
  | .lit _ => 1
  | .nil => 1
  | .ptr d => uptoBulk d + 1
  | .slice elems spare => uptoBulkAll elems + uptoBulkAll spare + 1
  | .agg parts => uptoBulkAll parts + 1
  | .iface _ d => uptoBulk d + 1
  | .map entries => uptoBulkEntries entries + 1
  | .held _ => 1
def uptoBulkAll {H : Type} : List (DataW H) → Nat
  | [] => 0
  | d :: r => uptoBulk d + uptoBulkAll r
def uptoBulkEntries {H : Type} : List (Lit × DataW H) → Nat
  | [] => 0
  | x :: r => uptoBulkEntry x + uptoBulkEntries r
def uptoBulkEntry {H : Type} : Lit × DataW H → Nat
  | (.string bytes, d) => bytes.length + uptoBulk d + 1
  | (_, d) => uptoBulk d + 1
 end
def uptoSmall : (H : Type) → List (DataW H) → Bool := fun _ ds => decide (uptoBulkAll ds ≤ 1048576)
def OpenSpec.upto (s : _root_.Go.ChangeSpec) : _root_.Go.OpenSpec := { _root_.Go.OpenSpec.ofChange s with cond := some uptoSmall }

/-- 'laws.FnExactIsPractical', WHERE WHAT IT READS IS OF BULK AT MOST 1048576: true; the input reads as it did. -/
def fnExactIsPracticalUptoRow : OpenClaim := { program := "ytiapljimgnhgoab", sum := "6cea581dbeb399a74764d056a414579774e17e7f24d1740b65a560cb213e462d", func := "loop.example/g01107/laws.FnExactIsPractical", spec := "fnExactIsPractical", apart := false, narrowed := true }
def FnExactIsPracticalUptoSaid : Prop := fnExactIsPracticalUptoRow.holds Try.pinned (OpenSpec.upto fnExactIsPracticalSpec)

/-- 'laws.FnExactUnreachedOf', WHERE WHAT IT READS IS OF BULK AT MOST 1048576: true; the input reads as it did. -/
def fnExactUnreachedOfUptoRow : OpenClaim := { program := "ytiapljimgnhgoab", sum := "6cea581dbeb399a74764d056a414579774e17e7f24d1740b65a560cb213e462d", func := "loop.example/g01107/laws.FnExactUnreachedOf", spec := "fnExactUnreachedOf", apart := false, narrowed := true }
def FnExactUnreachedOfUptoSaid : Prop := fnExactUnreachedOfUptoRow.holds Try.pinned (OpenSpec.upto fnExactUnreachedOfSpec)

/-- 'laws.FnExactDivisorsFor', WHERE WHAT IT READS IS OF BULK AT MOST 1048576: true; the input reads as it did. -/
def fnExactDivisorsForUptoRow : OpenClaim := { program := "ytiapljimgnhgoab", sum := "6cea581dbeb399a74764d056a414579774e17e7f24d1740b65a560cb213e462d", func := "loop.example/g01107/laws.FnExactDivisorsFor", spec := "fnExactDivisorsFor", inPlace := ["maps.clone"], unfollowed := true, recurses := true, apart := false, narrowed := true }
def FnExactDivisorsForUptoSaid : Prop := fnExactDivisorsForUptoRow.holds Try.pinned (OpenSpec.upto fnExactDivisorsForSpec)

/-- 'laws.FnExactCountSums', WHERE WHAT IT READS IS OF BULK AT MOST 1048576: true; the input reads as it did. -/
def fnExactCountSumsUptoRow : OpenClaim := { program := "ytiapljimgnhgoab", sum := "6cea581dbeb399a74764d056a414579774e17e7f24d1740b65a560cb213e462d", func := "loop.example/g01107/laws.FnExactCountSums", spec := "fnExactCountSums", inPlace := ["maps.clone"], unfollowed := true, recurses := true, apart := false, narrowed := true }
def FnExactCountSumsUptoSaid : Prop := fnExactCountSumsUptoRow.holds Try.pinned (OpenSpec.upto fnExactCountSumsSpec)

/-- 'laws.FnExactExpandOver', WHERE WHAT IT READS IS OF BULK AT MOST 1048576: true; the input reads as it did. -/
def fnExactExpandOverUptoRow : OpenClaim := { program := "ytiapljimgnhgoab", sum := "6cea581dbeb399a74764d056a414579774e17e7f24d1740b65a560cb213e462d", func := "loop.example/g01107/laws.FnExactExpandOver", spec := "fnExactExpandOver", inPlace := ["maps.clone"], unfollowed := true, recurses := true, apart := false, narrowed := true }
def FnExactExpandOverUptoSaid : Prop := fnExactExpandOverUptoRow.holds Try.pinned (OpenSpec.upto fnExactExpandOverSpec)

/-- 'laws.FnExactLeastOver', WHERE WHAT IT READS IS OF BULK AT MOST 1048576: true; the input reads as it did. -/
def fnExactLeastOverUptoRow : OpenClaim := { program := "ytiapljimgnhgoab", sum := "6cea581dbeb399a74764d056a414579774e17e7f24d1740b65a560cb213e462d", func := "loop.example/g01107/laws.FnExactLeastOver", spec := "fnExactLeastOver", inPlace := ["maps.clone"], unfollowed := true, recurses := true, apart := false, narrowed := true }
def FnExactLeastOverUptoSaid : Prop := fnExactLeastOverUptoRow.holds Try.pinned (OpenSpec.upto fnExactLeastOverSpec)

/-- 'laws.FnExactPracticalExpansion', WHERE WHAT IT READS IS OF BULK AT MOST 1048576: true; the input reads as it did. -/
def fnExactPracticalExpansionUptoRow : OpenClaim := { program := "ytiapljimgnhgoab", sum := "6cea581dbeb399a74764d056a414579774e17e7f24d1740b65a560cb213e462d", func := "loop.example/g01107/laws.FnExactPracticalExpansion", spec := "fnExactPracticalExpansion", inPlace := ["maps.clone"], unfollowed := true, recurses := true, apart := false, narrowed := true }
def FnExactPracticalExpansionUptoSaid : Prop := fnExactPracticalExpansionUptoRow.holds Try.pinned (OpenSpec.upto fnExactPracticalExpansionSpec)

/-- 'laws.FnPracticalNumbers', WHERE WHAT IT READS IS OF BULK AT MOST 1048576: true; the input reads as it did. -/
def fnPracticalNumbersUptoRow : OpenClaim := { program := "ytiapljimgnhgoab", sum := "6cea581dbeb399a74764d056a414579774e17e7f24d1740b65a560cb213e462d", func := "loop.example/g01107/laws.FnPracticalNumbers", spec := "fnPracticalNumbers", inPlace := ["maps.clone"], unfollowed := true, recurses := true, apart := false, narrowed := true }
def FnPracticalNumbersUptoSaid : Prop := fnPracticalNumbersUptoRow.holds Try.pinned (OpenSpec.upto fnPracticalNumbersSpec)

end Rows
end Go.Proofs.Ytiapljimgnhgoab
