
/-
  Plain facts: a Pierce list is got back from its fraction and the other way round.
-/
import Derived.Test.YtpfpekfpaknlgaaStepL
import Derived.Test.YtpfpekfpaknlgaaEngQ
namespace Go.Proofs.Ytpfpekfpaknlgaa
open Go.RowKit
theorem pieO_again {zs : List Int} (h : pieB zs = true) : pieO (pieN zs) (pieD zs) = some zs ∧ (-9223372036854775808 ≤ pieN zs ∧ pieN zs ≤ 9223372036854775807) ∧ (-9223372036854775808 ≤ pieD zs ∧ pieD zs ≤ 9223372036854775807) := by
  obtain ⟨hle, es, hw, ht⟩ := pie_again h
  have hg := (pie_q h).1
  have hb := good_bounds hg
  refine ⟨?_, by omega, by omega⟩
  have hB : atMostB (pieN zs) (pieD zs) = true := by simp [atMostB, hg, hle]
  unfold pieO
  rw [if_pos hB, lstO_yes hw (by rw [ht]; exact h), ht]
theorem up_rise {s : Int} : ∀ {xs : List Int} {lo : Int}, up s lo xs = true → ∀ (i : Nat) (x y : Int), xs[i]? = some x → xs[i + 1]? = some y → x + s ≤ y
  | [], _, _, i, x, y, h, _ => by simp at h
  | u :: us, lo, hu, 0, x, y, h, h2 => by
    by_cases hc : lo ≤ u ∧ u ≤ 1000000000
    · rw [up_yes hc.1 hc.2] at hu
      simp only [List.getElem?_cons_zero, Option.some.injEq] at h
      simp only [Nat.zero_add, List.getElem?_cons_succ] at h2
      subst h
      cases us with
      | nil => simp at h2
      | cons v vs =>
        simp only [List.getElem?_cons_zero, Option.some.injEq] at h2
        subst h2
        by_cases hc2 : u + s ≤ v ∧ v ≤ 1000000000
        · exact hc2.1
        · rw [up_no hc2] at hu; cases hu
    · rw [up_no hc] at hu; cases hu
  | u :: us, lo, hu, i + 1, x, y, h, h2 => by
    by_cases hc : lo ≤ u ∧ u ≤ 1000000000
    · rw [up_yes hc.1 hc.2] at hu
      simp only [List.getElem?_cons_succ] at h h2
      exact up_rise hu i x y h h2
    · rw [up_no hc] at hu; cases hu
structure PieL (n d : Int) (xs : List Int) : Prop where
  back : pieN xs = n ∧ pieD xs = d ∧ pieB xs = true
  few : (xs.length : Int) ≤ n
  rise : ∀ (i : Nat) (x y : Int), xs[i]? = some x → xs[i + 1]? = some y → x < y
  l24 : xs.length ≤ 24
  x64 : In64 xs
theorem pieO_back {n d : Int} {xs : List Int} (h : pieO n d = some xs) : PieL n d xs := by
  unfold pieO at h
  split at h
  · rename_i hb
    obtain ⟨hg, hnd⟩ := atMostB_yes hb
    obtain ⟨es, hw, hes, hk⟩ := lstO_some h
    subst hes
    obtain ⟨h1, h2, h3, h4⟩ := pieB_parts hk
    obtain ⟨a, b, c⟩ := pie_back hg hnd hw hk
    exact ⟨⟨a, b, hk⟩, by rw [takenOf_len]; exact c, fun i x y hx hy => by have := up_rise h2 i x y hx hy; omega, h1, In64.of_mem fun x hx => by have := up_in (by omega) h2 x hx; omega⟩
  · cases h
end Go.Proofs.Ytpfpekfpaknlgaa
