/-
  No cell of these rows narrows 'for every input' (looked for: loops, veiled, ifaces, maps, wideKeys, modest, calm, conditions, laid).
  DERIVED. THE GIVEN ROWS OF THIS SEAT. 6 by the template 'for every input the law returns true; each argument reads behind the call as it read before'; 0 by the template 'total and deterministic' (their statements: YtbjblkfibinenadTotals.lean).
  GIVEN WITH THE SEED: the statements are not yours to turn. If you find one false, say at which input.
  Laid BY PROGRAM, IN A SANDBOX (cutbox-rows.mjs): the forced cells as the released guide's own fill.sh prints them over the translation 33a28f45ef274e65… (all of the seat's roots in one cut). By AI agents, Wed Nov 11 2026. No macro, syntax, notation, axiom, sorry.
-/
import Derived.Test.YtbjblkfibinenadChecked
import GoSem.Claim
import GoSem.ClaimJoined
import GoSem.ClaimMapViews
import Derived.JoinedTies
import Derived.KernelRfl
namespace Go.Proofs.Ytbjblkfibinenad
/- THE CELL 'sum', in the pinned program and in every row, IS THE sha256 OF THE DUMP (.gsa) THAT YtbjblkfibinenadProg.lean LOADS. Nothing in Lean hashes anything: it is a label: what it is worth is what the hold of that sum in a sandbox is worth. -/
noncomputable def Try.pinned : Pinned := { name := "ytbjblkfibinenad", sum := "33a28f45ef274e650fd1bbfd8d5cf0d1c193448c794add4afb869bce8641810e", checked := Try.checked }
namespace Rows
def none {H : Type} : Left H := { results := [], args := [] }

/-- 'laws.FnExactExpandOver': WHATEVER THE INPUT: true; the input reads as it did. -/
def fnExactExpandOverSpec : ChangeSpec := { name := "fnExactExpandOver", fn := fun _ => fun
  | [d1, d2] => { results := [.lit (.bool true)], args := [d1, d2] }
  | _ => none }
def fnExactExpandOverRow : OpenClaim := { program := "ytbjblkfibinenad", sum := "33a28f45ef274e650fd1bbfd8d5cf0d1c193448c794add4afb869bce8641810e", func := "loop.example/g01107/laws.FnExactExpandOver", spec := "fnExactExpandOver", inPlace := ["maps.clone"], unfollowed := true, recurses := true, apart := false }
def FnExactExpandOverSaid : Prop := fnExactExpandOverRow.holds Try.pinned (OpenSpec.ofChange fnExactExpandOverSpec)

/-- ITS FALSE NEIGHBOUR: 'it returns false'. Refute it at one input. -/
def fnExactExpandOverWrong : ChangeSpec := { name := "fnExactExpandOver", fn := fun _ => fun
  | [d1, d2] => { results := [.lit (.bool false)], args := [d1, d2] }
  | _ => none }
def FnExactExpandOverWrongFalsely : Prop := fnExactExpandOverRow.holds Try.pinned (OpenSpec.ofChange fnExactExpandOverWrong)

/-- 'laws.FnExactLeastOver': WHATEVER THE INPUT: true; the input reads as it did. -/
def fnExactLeastOverSpec : ChangeSpec := { name := "fnExactLeastOver", fn := fun _ => fun
  | [d] => { results := [.lit (.bool true)], args := [d] }
  | _ => none }
def fnExactLeastOverRow : OpenClaim := { program := "ytbjblkfibinenad", sum := "33a28f45ef274e650fd1bbfd8d5cf0d1c193448c794add4afb869bce8641810e", func := "loop.example/g01107/laws.FnExactLeastOver", spec := "fnExactLeastOver", inPlace := ["maps.clone"], unfollowed := true, recurses := true, apart := false }
def FnExactLeastOverSaid : Prop := fnExactLeastOverRow.holds Try.pinned (OpenSpec.ofChange fnExactLeastOverSpec)

/-- ITS FALSE NEIGHBOUR: 'it returns false'. Refute it at one input. -/
def fnExactLeastOverWrong : ChangeSpec := { name := "fnExactLeastOver", fn := fun _ => fun
  | [d] => { results := [.lit (.bool false)], args := [d] }
  | _ => none }
def FnExactLeastOverWrongFalsely : Prop := fnExactLeastOverRow.holds Try.pinned (OpenSpec.ofChange fnExactLeastOverWrong)

/-- 'laws.FnExactPracticalExpansion': WHATEVER THE INPUT: true; the input reads as it did. -/
def fnExactPracticalExpansionSpec : ChangeSpec := { name := "fnExactPracticalExpansion", fn := fun _ => fun
  | [d] => { results := [.lit (.bool true)], args := [d] }
  | _ => none }
def fnExactPracticalExpansionRow : OpenClaim := { program := "ytbjblkfibinenad", sum := "33a28f45ef274e650fd1bbfd8d5cf0d1c193448c794add4afb869bce8641810e", func := "loop.example/g01107/laws.FnExactPracticalExpansion", spec := "fnExactPracticalExpansion", inPlace := ["maps.clone"], unfollowed := true, recurses := true, apart := false }
def FnExactPracticalExpansionSaid : Prop := fnExactPracticalExpansionRow.holds Try.pinned (OpenSpec.ofChange fnExactPracticalExpansionSpec)

/-- ITS FALSE NEIGHBOUR: 'it returns false'. Refute it at one input. -/
def fnExactPracticalExpansionWrong : ChangeSpec := { name := "fnExactPracticalExpansion", fn := fun _ => fun
  | [d] => { results := [.lit (.bool false)], args := [d] }
  | _ => none }
def FnExactPracticalExpansionWrongFalsely : Prop := fnExactPracticalExpansionRow.holds Try.pinned (OpenSpec.ofChange fnExactPracticalExpansionWrong)

/-- 'laws.FnExpansionsOverNumbers': WHATEVER THE INPUT: true; the input reads as it did. -/
def fnExpansionsOverNumbersSpec : ChangeSpec := { name := "fnExpansionsOverNumbers", fn := fun _ => fun
  | [d1, d2] => { results := [.lit (.bool true)], args := [d1, d2] }
  | _ => none }
def fnExpansionsOverNumbersRow : OpenClaim := { program := "ytbjblkfibinenad", sum := "33a28f45ef274e650fd1bbfd8d5cf0d1c193448c794add4afb869bce8641810e", func := "loop.example/g01107/laws.FnExpansionsOverNumbers", spec := "fnExpansionsOverNumbers", inPlace := ["maps.clone"], unfollowed := true, recurses := true, apart := false }
def FnExpansionsOverNumbersSaid : Prop := fnExpansionsOverNumbersRow.holds Try.pinned (OpenSpec.ofChange fnExpansionsOverNumbersSpec)

/-- ITS FALSE NEIGHBOUR: 'it returns false'. Refute it at one input. -/
def fnExpansionsOverNumbersWrong : ChangeSpec := { name := "fnExpansionsOverNumbers", fn := fun _ => fun
  | [d1, d2] => { results := [.lit (.bool false)], args := [d1, d2] }
  | _ => none }
def FnExpansionsOverNumbersWrongFalsely : Prop := fnExpansionsOverNumbersRow.holds Try.pinned (OpenSpec.ofChange fnExpansionsOverNumbersWrong)

/-- 'laws.FnExactPairExpansion': WHATEVER THE INPUT: true; the input reads as it did. -/
def fnExactPairExpansionSpec : ChangeSpec := { name := "fnExactPairExpansion", fn := fun _ => fun
  | [d] => { results := [.lit (.bool true)], args := [d] }
  | _ => none }
def fnExactPairExpansionRow : OpenClaim := { program := "ytbjblkfibinenad", sum := "33a28f45ef274e650fd1bbfd8d5cf0d1c193448c794add4afb869bce8641810e", func := "loop.example/g01107/laws.FnExactPairExpansion", spec := "fnExactPairExpansion", unfollowed := true, recurses := true, apart := false }
def FnExactPairExpansionSaid : Prop := fnExactPairExpansionRow.holds Try.pinned (OpenSpec.ofChange fnExactPairExpansionSpec)

/-- ITS FALSE NEIGHBOUR: 'it returns false'. Refute it at one input. -/
def fnExactPairExpansionWrong : ChangeSpec := { name := "fnExactPairExpansion", fn := fun _ => fun
  | [d] => { results := [.lit (.bool false)], args := [d] }
  | _ => none }
def FnExactPairExpansionWrongFalsely : Prop := fnExactPairExpansionRow.holds Try.pinned (OpenSpec.ofChange fnExactPairExpansionWrong)

/-- 'laws.FnExactSplitExpansion': WHATEVER THE INPUT: true; the input reads as it did. -/
def fnExactSplitExpansionSpec : ChangeSpec := { name := "fnExactSplitExpansion", fn := fun _ => fun
  | [d] => { results := [.lit (.bool true)], args := [d] }
  | _ => none }
def fnExactSplitExpansionRow : OpenClaim := { program := "ytbjblkfibinenad", sum := "33a28f45ef274e650fd1bbfd8d5cf0d1c193448c794add4afb869bce8641810e", func := "loop.example/g01107/laws.FnExactSplitExpansion", spec := "fnExactSplitExpansion", unfollowed := true, recurses := true, apart := false }
def FnExactSplitExpansionSaid : Prop := fnExactSplitExpansionRow.holds Try.pinned (OpenSpec.ofChange fnExactSplitExpansionSpec)

/-- ITS FALSE NEIGHBOUR: 'it returns false'. Refute it at one input. -/
def fnExactSplitExpansionWrong : ChangeSpec := { name := "fnExactSplitExpansion", fn := fun _ => fun
  | [d] => { results := [.lit (.bool false)], args := [d] }
  | _ => none }
def FnExactSplitExpansionWrongFalsely : Prop := fnExactSplitExpansionRow.holds Try.pinned (OpenSpec.ofChange fnExactSplitExpansionWrong)

/- THE SECOND FORM. 'bulk': how many values and letters a reading holds, each counted each time it is reached (what is shared counts as often as it is met; a slice's spare places count too). A statement '..UptoSaid' is the law's where the arguments, and the package variables that the reading takes, are together of bulk at most 1048576: NARROWER than '..Said'. Prove '..Said' where nothing that the law and all that it calls make is longer than what came in: it says more and counts as full. Else prove '..UptoSaid'. A law counts once. -/
mutual
def uptoBulk {H : Type} : DataW H → Nat
  | .lit (.string bytes) => bytes.length + 1
  | .lit _ => 1
  | .nil => 1
  | .ptr d => uptoBulk d + 1
  | .slice elems spare => uptoBulkAll elems + uptoBulkAll spare + 1
  | .agg parts => uptoBulkAll parts + 1
  | .iface _ d => uptoBulk d + 1
  | .map entries => uptoBulkEntries entries + 1
  | .held _ => 1
def uptoBulkAll {H : Type} : List (DataW H) → Nat
  | [] => 0
  | d :: r => uptoBulk d + uptoBulkAll r
def uptoBulkEntries {H : Type} : List (Lit × DataW H) → Nat
  | [] => 0
  | x :: r => uptoBulkEntry x + uptoBulkEntries r
def uptoBulkEntry {H : Type} : Lit × DataW H → Nat
  | (.string bytes, d) => bytes.length + uptoBulk d + 1
  | (_, d) => uptoBulk d + 1
 end
def uptoSmall : (H : Type) → List (DataW H) → Bool := fun _ ds => decide (uptoBulkAll ds ≤ 1048576)
def OpenSpec.upto (s : _root_.Go.ChangeSpec) : _root_.Go.OpenSpec := { _root_.Go.OpenSpec.ofChange s with cond := some uptoSmall }

/-- 'laws.FnExactExpandOver', WHERE WHAT IT READS IS OF BULK AT MOST 1048576: true; the input reads as it did. -/
def fnExactExpandOverUptoRow : OpenClaim := { program := "ytbjblkfibinenad", sum := "33a28f45ef274e650fd1bbfd8d5cf0d1c193448c794add4afb869bce8641810e", func := "loop.example/g01107/laws.FnExactExpandOver", spec := "fnExactExpandOver", inPlace := ["maps.clone"], unfollowed := true, recurses := true, apart := false, narrowed := true }
def FnExactExpandOverUptoSaid : Prop := fnExactExpandOverUptoRow.holds Try.pinned (OpenSpec.upto fnExactExpandOverSpec)

/-- 'laws.FnExactLeastOver', WHERE WHAT IT READS IS OF BULK AT MOST 1048576: true; the input reads as it did. -/
def fnExactLeastOverUptoRow : OpenClaim := { program := "ytbjblkfibinenad", sum := "33a28f45ef274e650fd1bbfd8d5cf0d1c193448c794add4afb869bce8641810e", func := "loop.example/g01107/laws.FnExactLeastOver", spec := "fnExactLeastOver", inPlace := ["maps.clone"], unfollowed := true, recurses := true, apart := false, narrowed := true }
def FnExactLeastOverUptoSaid : Prop := fnExactLeastOverUptoRow.holds Try.pinned (OpenSpec.upto fnExactLeastOverSpec)

/-- 'laws.FnExactPracticalExpansion', WHERE WHAT IT READS IS OF BULK AT MOST 1048576: true; the input reads as it did. -/
def fnExactPracticalExpansionUptoRow : OpenClaim := { program := "ytbjblkfibinenad", sum := "33a28f45ef274e650fd1bbfd8d5cf0d1c193448c794add4afb869bce8641810e", func := "loop.example/g01107/laws.FnExactPracticalExpansion", spec := "fnExactPracticalExpansion", inPlace := ["maps.clone"], unfollowed := true, recurses := true, apart := false, narrowed := true }
def FnExactPracticalExpansionUptoSaid : Prop := fnExactPracticalExpansionUptoRow.holds Try.pinned (OpenSpec.upto fnExactPracticalExpansionSpec)

/-- 'laws.FnExpansionsOverNumbers', WHERE WHAT IT READS IS OF BULK AT MOST 1048576: true; the input reads as it did. -/
def fnExpansionsOverNumbersUptoRow : OpenClaim := { program := "ytbjblkfibinenad", sum := "33a28f45ef274e650fd1bbfd8d5cf0d1c193448c794add4afb869bce8641810e", func := "loop.example/g01107/laws.FnExpansionsOverNumbers", spec := "fnExpansionsOverNumbers", inPlace := ["maps.clone"], unfollowed := true, recurses := true, apart := false, narrowed := true }
def FnExpansionsOverNumbersUptoSaid : Prop := fnExpansionsOverNumbersUptoRow.holds Try.pinned (OpenSpec.upto fnExpansionsOverNumbersSpec)

/-- 'laws.FnExactPairExpansion', WHERE WHAT IT READS IS OF BULK AT MOST 1048576: true; the input reads as it did. -/
def fnExactPairExpansionUptoRow : OpenClaim := { program := "ytbjblkfibinenad", sum := "33a28f45ef274e650fd1bbfd8d5cf0d1c193448c794add4afb869bce8641810e", func := "loop.example/g01107/laws.FnExactPairExpansion", spec := "fnExactPairExpansion", unfollowed := true, recurses := true, apart := false, narrowed := true }
def FnExactPairExpansionUptoSaid : Prop := fnExactPairExpansionUptoRow.holds Try.pinned (OpenSpec.upto fnExactPairExpansionSpec)

/-- 'laws.FnExactSplitExpansion', WHERE WHAT IT READS IS OF BULK AT MOST 1048576: true; the input reads as it did. -/
def fnExactSplitExpansionUptoRow : OpenClaim := { program := "ytbjblkfibinenad", sum := "33a28f45ef274e650fd1bbfd8d5cf0d1c193448c794add4afb869bce8641810e", func := "loop.example/g01107/laws.FnExactSplitExpansion", spec := "fnExactSplitExpansion", unfollowed := true, recurses := true, apart := false, narrowed := true }
def FnExactSplitExpansionUptoSaid : Prop := fnExactSplitExpansionUptoRow.holds Try.pinned (OpenSpec.upto fnExactSplitExpansionSpec)

end Rows
end Go.Proofs.Ytbjblkfibinenad
