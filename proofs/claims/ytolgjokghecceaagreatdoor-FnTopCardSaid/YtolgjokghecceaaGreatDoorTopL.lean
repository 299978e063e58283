import Derived.Test.YtolgjokghecceaaGreatDoorPt5
import Derived.Test.YtolgjokghecceaaGreatDoorPt7

/-
  Plain facts for the last law on methods: what is left when the terms are taken away one by one, the numerators, and the merged list.
-/
namespace Go.Proofs.YtolgjokghecceaaGreatDoor
open Go.RowKit
theorem good_unitT {x : Int} (h1 : 1 ≤ x) (h2 : x ≤ 1000000000) : goodB 1 x = true := (goodB_iff 1 x).2 ⟨by omega, by omega, h1, h2, by simp [gcdI]⟩
theorem sub_stepT {n d x : Int} {s : Rat} (hg : goodB n d = true) (h1 : 1 ≤ x) (hq : rq n d = 1 / (x : Rat) + s) (hs : 0 ≤ s) :
    1 * d ≤ n * x ∧ (redB (n * x - 1 * d) (d * x) = true → goodB (redN (n * x - 1 * d) (d * x)) (redD (n * x - 1 * d) (d * x)) = true ∧ rq (redN (n * x - 1 * d) (d * x)) (redD (n * x - 1 * d) (d * x)) = s) := by
  obtain ⟨_, _, d1, _⟩ := good_bounds hg
  have hle : 1 * d ≤ n * x := le_rq h1 d1 (by rw [hq]; unfold rq; simp only [Rat.intCast_one]; grind)
  refine ⟨hle, fun hr => ?_⟩
  have hp := mul_pos1 d1 h1
  refine ⟨good_of_redB (by omega) hp hr, ?_⟩
  rw [redN_q hp hr]
  have a1 := ne0 d1
  have a2 := ne0 h1
  unfold rq at hq ⊢
  simp only [Rat.intCast_sub, Rat.intCast_mul, Rat.intCast_one] at *
  grind
theorem nm_fall {n d : Int} {ns : List Int} (hg : goodB n d = true) (h : nmO n d = some ns) : ∀ (i : Nat) (x y : Int), ns[i]? = some x → ns[i + 1]? = some y → y < x := by
  unfold nmO at h
  split at h
  · cases hw : walkR (stG pick0) 24 0 n d with
    | none => rw [hw] at h; cases h
    | some es =>
      rw [hw] at h
      injection h with h
      rw [← h]
      exact (nums_fall hg hw).1
  · cases h
theorem nm_len {n d : Int} {ns : List Int} (h : nmO n d = some ns) : ns.length ≤ 25 := by have := nmO_len n d; rw [h] at this; exact this
theorem beO_backT {a b : Int} (h : (beO a b).isSome = true) : goodB a b = true ∧ MsB a b ((beO a b).getD []) := by
  cases hp : proB a b with
  | false => rw [beO_no hp] at h; cases h
  | true =>
    by_cases h0 : 0 < (beL a b 6).length
    · rw [beO_some hp h0]
      have M := beL_back hp 6 h0
      refine ⟨?_, M⟩
      have := good_sum M.exp
      have e1 : eN (beL a b 6) = sumN (beL a b 6) := if_pos M.exp
      have e2 : eD (beL a b 6) = sumD (beL a b 6) := if_pos M.exp
      rw [← e1, ← e2, M.sum.1, M.sum.2] at this
      exact this
    · rw [beO_none h0] at h; cases h
theorem ms_q {a b : Int} {xs : List Int} (M : MsB a b xs) : rq a b = sumQ xs := by
  have := sum_q M.exp
  have e1 : eN xs = sumN xs := if_pos M.exp
  have e2 : eD xs = sumD xs := if_pos M.exp
  rw [← e1, ← e2, M.sum.1, M.sum.2] at this
  exact this
theorem ma_told {xs : List Int} (h : expB xs = true) : ∃ ys, maO xs = some ys ∧ MergA xs ys := by
  have : maO xs = some (mall xs.length xs) := by unfold maO; rw [if_pos h]
  exact ⟨_, this, maO_back this⟩
theorem rq_zero {n d : Int} (hg : goodB n d = true) (h : rq n d = 0) : n = 0 := by
  obtain ⟨_, _, d1, _⟩ := good_bounds hg
  have := eq_rq (n := n) (d := d) (m := 0) (e := 1) d1 (by omega) (by rw [h]; unfold rq; simp only [Rat.intCast_zero, Rat.intCast_one]; grind)
  omega
theorem pUnitT_any (d : Int) (w : World) : Calls Tryz.prog 27 #[.int .i64 d] w (Ret (.agg #[.int .i64 1, .int .i64 d]) w) := by
  go_enter Tryz.func27, Tryz.ntmps27
  go_wp2
  go_returns
  exact ⟨rfl, by (repeat' (first | (with_reducible exact Below.refl _ _) | (with_reducible assumption) | (with_reducible refine Below.drew ?_) | (with_reducible refine belowDrewN ?_ _) | (with_reducible refine Below.alloc ?_ ?_ _) | (with_reducible refine Below.setCell ?_ ?_ _) | (with_reducible refine belowStep (by assumption) ?_ ?_) | (with_reducible exact Below.size (by assumption)) | go_size))⟩
end Go.Proofs.YtolgjokghecceaaGreatDoor
