
/-
  Contracts of the tests of a part, and of the rest of a fraction.
-/
import Derived.Test.YtfcklhppemidhaaDoorHas
import Derived.Test.YtfcklhppemidhaaDoorSum2
import Derived.Test.YtfcklhppemidhaaDoorOrder
namespace Go.Proofs.YtfcklhppemidhaaDoor
open Go.RowKit
def partB : List Int → List Int → Bool
  | [], _ => true
  | x :: xs, ys => hasB ys x && partB xs ys
theorem part_yes {xs ys : List Int} {x : Int} (h : hasB ys x = true) : partB (x :: xs) ys = partB xs ys := by simp [partB, h]
theorem part_no {xs ys : List Int} {x : Int} (h : hasB ys x = false) : partB (x :: xs) ys = false := by simp [partB, h]
theorem ret_bb {a b c d : Bool} (h : a = c) (h2 : b = d) : Ending.returned (.tuple #[.bool a, .bool b]) = .returned (.tuple #[.bool c, .bool d]) := by rw [h, h2]
def bothB (xs ys : List Int) : Bool := expB xs && expB ys
theorem sumL_good : ∀ {xs : List Int} {n d n' d' : Int}, goodB n d = true → (∀ (i : Nat) (x : Int), xs[i]? = some x → 1 ≤ x ∧ x ≤ 1000000000) → sumL n d xs = some (n', d') → goodB n' d' = true
  | [], n, d, n', d', hg, _, h => by
    simp only [sumL, Option.some.injEq, Prod.mk.injEq] at h
    rw [← h.1, ← h.2]; exact hg
  | t :: ts, n, d, n', d', hg, hin, h => by
    obtain ⟨n1, n2, d1, d2⟩ := good_bounds hg
    obtain ⟨t1, t2⟩ := hin 0 t rfl
    have p1 := mul_bounds n1 n2 (by omega : 0 ≤ t) t2
    have p2 := mul_pos1 d1 t1
    cases hr : redB (n * t + d) (d * t) with
    | false => rw [sumL_no hr] at h; cases h
    | true =>
      rw [sumL_yes hr] at h
      exact sumL_good (good_of_redB (by omega) p2 hr) (fun i x hx => hin (i + 1) x (by simpa using hx)) h
theorem good_sum {xs : List Int} (h : expB xs = true) : goodB (sumN xs) (sumD xs) = true := by
  have hp := expB_parts h
  exact sumL_good good_zero (rise_in hp.2.1) hp.2.2
end Go.Proofs.YtfcklhppemidhaaDoor
