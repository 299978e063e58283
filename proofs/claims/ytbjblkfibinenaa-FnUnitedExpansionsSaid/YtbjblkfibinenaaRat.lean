
/-
  Plain facts on sums of unit fractions as rational numbers.
-/
import Derived.Test.YtbjblkfibinenaaRq
import Derived.Test.YtbjblkfibinenaaPart
import Derived.Test.YtbjblkfibinenaaUnite
namespace Go.Proofs.Ytbjblkfibinenaa
open Go.RowKit
theorem sumQ_ins (xs : List Int) (p : Nat) (v : Int) : sumQ (insAt xs p v) = 1 / (v : Rat) + sumQ xs := by
  have h : sumQ xs = sumQ (xs.take p) + sumQ (xs.drop p) := by rw [← sumQ_append, List.take_append_drop]
  rw [h, insAt, sumQ_append]
  simp only [sumQ]
  grind
theorem sumQ_put {xs : List Int} (h : Rising xs) (v : Int) (hv : hasB xs v = false) : sumQ (putL xs v) = 1 / (v : Rat) + sumQ xs := by
  rw [put_no h (by rw [hv]; simp), sumQ_ins]
/-- the numbers of ys that are not in xs -/
def oth (xs ys : List Int) : List Int := ys.filter (fun y => !hasB xs y)
theorem has_put {xs : List Int} (h : Rising xs) (a b : Int) : hasB (putL xs a) b = (decide (b = a) || hasB xs b) := by
  by_cases ha : hasB xs a = true
  · rw [put_yes h ha]
    by_cases hb : b = a
    · subst hb; simp [ha]
    · simp [hb]
  · rw [put_no h ha, has_ins]
theorem oth_put {xs : List Int} (h : Rising xs) (y : Int) (ys : List Int) (hy : ∀ z ∈ ys, z ≠ y) : oth (putL xs y) ys = oth xs ys := by
  unfold oth
  apply List.filter_congr
  intro z hz
  rw [has_put h]
  simp [hy z hz]
theorem putAll_oth : ∀ (ys : List Int) {xs : List Int}, Rising xs → Rising ys → (putAll xs ys).length = xs.length + (oth xs ys).length ∧ sumQ (putAll xs ys) = sumQ xs + sumQ (oth xs ys) ∧ (∀ z, z ∈ putAll xs ys ↔ z ∈ xs ∨ z ∈ ys)
  | [], xs, _, _ => ⟨by simp [putAll, oth], by show sumQ xs = sumQ xs + 0; grind, by simp [putAll]⟩
  | y :: ys, xs, hx, hy => by
    have hne : ∀ z ∈ ys, z ≠ y := fun z hz => by have := List.rel_of_pairwise_cons hy hz; omega
    obtain ⟨a, b, c⟩ := putAll_oth ys (hx.put y) (List.pairwise_cons.1 hy).2
    rw [oth_put hx y ys hne] at a b
    have hm : ∀ z, z ∈ putL xs y ↔ z = y ∨ z ∈ xs := fun z => by
      rw [← hasB_iff, has_put hx, Bool.or_eq_true, decide_eq_true_iff, hasB_iff]
    refine ⟨?_, ?_, fun z => ?_⟩
    · cases h : hasB xs y with
      | true =>
        rw [put_yes hx h] at a
        simpa [putAll, put_yes hx h, oth, h] using a
      | false =>
        rw [put_no hx (by rw [h]; simp), ins_len _ _ _ (pos_le xs y)] at a
        rw [putAll, put_no hx (by rw [h]; simp), a]
        simp [oth, h]
        omega
    · cases h : hasB xs y with
      | true =>
        rw [put_yes hx h] at b
        simpa [putAll, put_yes hx h, oth, h] using b
      | false =>
        rw [putAll, b, sumQ_put hx y h]
        simp only [oth, List.filter_cons, h, Bool.not_false, if_true, sumQ]
        grind
    · rw [putAll, c, hm, List.mem_cons]
      grind
end Go.Proofs.Ytbjblkfibinenaa
