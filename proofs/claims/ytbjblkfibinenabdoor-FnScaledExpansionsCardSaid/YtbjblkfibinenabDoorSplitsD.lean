
/-
  Contracts of the draws for splits.
-/
import Derived.Test.YtbjblkfibinenabDoorDraw
import Derived.Test.YtbjblkfibinenabDoorSplitP
import Derived.Test.YtbjblkfibinenabDoorLawK
namespace Go.Proofs.YtbjblkfibinenabDoor
open Go.RowKit
theorem Cur.start (w : World) (A : Option Addr) (n c : Nat) (T : TypeId) (hr : ReadsB w A n) (hn : n ≤ 1048576) : Cur w (w.alloc (.cells #[.slice A n c, .int .i64 0, .int .u64 0] T)) w.heap.size 0 :=
  ⟨Nat.le_refl _, by simp, (Below.refl _ _).alloc (Nat.le_refl _) _, A, n, c, 0, 0, cellNew rfl rfl, hn, hr, cellNew rfl rfl, by omega, by omega, cellNew rfl rfl, by simp [go_sem], by simp [go_sem]⟩
def DrawLi (w : World) (e : Ending) (w' : World) : Prop := ∃ (v : Value) (xs : List Int) (i : Int), e = .returned (.tuple #[v, .int .i64 i]) ∧ OwnI w' w.heap.size v xs ∧ xs.length ≤ 40 ∧ In64 xs ∧ (-100 ≤ i ∧ i ≤ 100) ∧ Below w.heap.size w w'
def DrawLipq (w : World) (e : Ending) (w' : World) : Prop := ∃ (v : Value) (xs : List Int) (i p q : Int), e = .returned (.tuple #[v, .int .i64 i, .int .i64 p, .int .i64 q]) ∧ OwnI w' w.heap.size v xs ∧ xs.length ≤ 40 ∧ In64 xs ∧ (-100 ≤ i ∧ i ≤ 100) ∧ (-10000 ≤ p ∧ p ≤ 10000) ∧ (-10000 ≤ q ∧ q ≤ 10000) ∧ Below w.heap.size w w'
end Go.Proofs.YtbjblkfibinenabDoor
