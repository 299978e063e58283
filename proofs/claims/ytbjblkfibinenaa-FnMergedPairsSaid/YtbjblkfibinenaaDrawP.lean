
/-
  Contracts of what draws fractions up to 1, yes or no, and lists of numbers: whatever the bytes are, numbers that fit are handed out, and only the cursor has changed.
-/
import Derived.Test.YtbjblkfibinenaaDraw
import Derived.Deep.OwnRows
namespace Go.Proofs.Ytbjblkfibinenaa
open Go.RowKit
theorem beginP (w : World) (A : Option Addr) (n c : Nat) (T : TypeId) (hr : ReadsB w A n) (hn : n ≤ 1048576) : Cur w (w.alloc (.cells #[.slice A n c, .int .i64 0, .int .u64 0] T)) w.heap.size 0 :=
  ⟨Nat.le_refl _, by simp, (Below.refl _ _).alloc (Nat.le_refl _) _, A, n, c, 0, 0, (by simp), hn, hr, (by simp), by omega, by omega, (by simp), by simp [go_sem], by simp [go_sem]⟩
theorem oneP_any (w0 w : World) (g n : Nat) (hn : n ≤ 1000000) (m : Int) (hm : m ≤ 1000000000) (h : Cur w0 w g n) : Calls Try.prog 82 #[.pointer (some ⟨g, 0, none⟩), .int .i64 m] w (fun e w' => ∃ b : Bool, e = .returned (.bool b) ∧ Cur w0 w' g (n + 2) ∧ w.grownBy w' (some g)) := by
  have HC := Lib.hid h
  clear h
  go_enter Try.func82, Try.ntmps82
  go_wp2_with fail
  refine (pick_any w0 _ _ n hn _ hm HC.out).mono ?_; rintro e w1 ⟨x, rfl, x0, x1, hc1, hg1⟩
  have HC1 := Lib.hid hc1
  have Hg1 := Lib.hid hg1
  clear hc1 hg1
  go_wp2
  go_ret
  exact ⟨_, rfl, HC1.out, Hg1.out⟩
theorem OwnI.atRow {w : World} {base g k : Nat} (hb : base ≤ g) (hk : k ≤ 1000) (h : w.heap[g]? = some (.cells (madeCells #[.int .i64 0] k) 3)) : OwnI w base (.slice (some ⟨g, 0, none⟩) k k) (List.replicate k 0) := by
  unfold OwnI
  rw [List.length_replicate]
  refine ⟨by simp, .inr ⟨g, k, _, rfl, hb, h, Nat.le_refl _, by unfold maxLen; omega, by simp [madeCells], ?_⟩⟩
  rw [toList_madeCells_one, Nat.mul_one, List.map_replicate]
  exact List.take_of_length_le (by simp)
/-- a list of the call's own has been drawn -/
def DrawnL (w : World) (e : Ending) (w' : World) : Prop := ∃ v zs, e = .returned v ∧ OwnI w' w.heap.size v zs ∧ zs.length ≤ 40 ∧ (∀ z ∈ zs, -9223372036854775808 ≤ z ∧ z ≤ 9223372036854775807) ∧ Below w.heap.size w w'
end Go.Proofs.Ytbjblkfibinenaa
