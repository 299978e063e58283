
/-
  Contracts of the test of an expansion and of its sum.
-/
import Derived.Test.YtocnjfbcblbjeaaSum
namespace Go.Proofs.Ytocnjfbcblbjeaa
open Go.RowKit
theorem rise_in {lo hi : Int} : ∀ {xs : List Int} {p : Option Int}, rise lo hi p xs = true → ∀ (i : Nat) (x : Int), xs[i]? = some x → lo ≤ x ∧ x ≤ hi
  | [], _, _, i, x, h => by simp at h
  | t :: ts, p, hr, i, x, h => by
    unfold rise at hr
    simp only [Bool.and_eq_true, decide_eq_true_eq] at hr
    cases i with
    | zero => simp at h; subst h; exact ⟨hr.1.1.1, hr.1.1.2⟩
    | succ i => exact rise_in hr.2 i x (by simpa using h)

theorem sumL_good : ∀ {xs : List Int} {n d n' d' : Int}, goodB n d = true → (∀ (i : Nat) (x : Int), xs[i]? = some x → 1 ≤ x ∧ x ≤ 1000000000) → sumL n d xs = some (n', d') → goodB n' d' = true
  | [], n, d, n', d', hg, _, h => by
    simp only [sumL, Option.some.injEq, Prod.mk.injEq] at h
    rw [← h.1, ← h.2]; exact hg
  | t :: ts, n, d, n', d', hg, hin, h => by
    obtain ⟨n1, n2, d1, d2⟩ := good_bounds hg
    obtain ⟨t1, t2⟩ := hin 0 t rfl
    have p1 := mul_bounds n1 n2 (by omega : 0 ≤ t) t2
    have p2 := mul_pos1 d1 t1
    cases hr : redB (n * t + d) (d * t) with
    | false => rw [sumL_no hr] at h; cases h
    | true =>
      rw [sumL_yes hr] at h
      exact sumL_good (good_of_redB (by omega) p2 hr) (fun i x hx => hin (i + 1) x (by simpa using hx)) h
theorem good_sum {xs : List Int} (h : expB xs = true) : goodB (sumN xs) (sumD xs) = true := by
  have hp := expB_parts h
  exact sumL_good good_zero (rise_in hp.2.1) hp.2.2
def eN (xs : List Int) : Int := if expB xs = true then sumN xs else 0
def eD (xs : List Int) : Int := if expB xs = true then sumD xs else 0
theorem eN_no {xs : List Int} (h : expB xs = false) : eN xs = 0 := by rw [eN, h]; rfl
theorem eD_no {xs : List Int} (h : expB xs = false) : eD xs = 0 := by rw [eD, h]; rfl

end Go.Proofs.Ytocnjfbcblbjeaa
