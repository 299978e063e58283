
/-
  Contracts of the numerators of greedy steps, in the program and in the model.
-/
import Derived.Test.YtbjblkfibinenacGrX
import Derived.Test.YtbjblkfibinenacNumP
namespace Go.Proofs.Ytbjblkfibinenac
open Go.RowKit
def numsOf (n : Int) (es : List (Int × Int × Int)) : List Int := n :: es.map (·.2.1)
def nmO (n d : Int) : Option (List Int) := if belowB n d = true then (walkR (stG pick0) 24 0 n d).map (numsOf n) else none
theorem nmO_len (n d : Int) : ((nmO n d).getD []).length ≤ 25 := by
  unfold nmO
  split
  · cases h : walkR (stG pick0) 24 0 n d with
    | none => simp
    | some es =>
      have := (walkR_more h).2
      simp [numsOf]
      omega
  · simp
theorem OwnI.oneLit (w : World) (base : Nat) (x : Int) (hb : base ≤ w.heap.size) : OwnI (w.alloc (.cells #[.int .i64 x] 3)) base (.slice (some ⟨w.heap.size, 0, none⟩) 1 1) [x] :=
  World.ownsRow_lit w #[.int .i64 x] 1 hb (by unfold maxLen; omega) rfl
def numAt (g : Nat) (w : World) : Nat := match w.cell? ⟨g, 0, none⟩ with | some (.int _ n) => n.toNat | _ => 0
end Go.Proofs.Ytbjblkfibinenac
