
/-
  Plain facts on the terms that digits by factorials stand for.
-/
import Derived.Test.YtbjblkfibinenadGreatFacP
import Derived.Test.YtbjblkfibinenadGreatSortP
namespace Go.Proofs.YtbjblkfibinenadGreat
open Go.RowKit
/-- the terms of digits, from the place of k + 2 on -/
def facT : Nat → List Int → List Int
  | _, [] => []
  | k, d :: ds => if 0 < d then (fac (k + 2) / d) :: facT (k + 1) ds else facT (k + 1) ds
theorem facT_snoc : ∀ (k : Nat) (ds : List Int) (x : Int), facT k (ds ++ [x]) = facT k ds ++ (if 0 < x then [fac (k + ds.length + 2) / x] else [])
  | k, [], x => by
    show (if 0 < x then _ else _) = _
    split <;> simp [facT]
  | k, d :: ds, x => by
    rw [List.cons_append, facT, facT, facT_snoc (k + 1) ds x, show k + 1 + ds.length + 2 = k + (d :: ds).length + 2 from by simp; omega]
    split <;> simp
theorem facT_len : ∀ (k : Nat) (ds : List Int), (facT k ds).length ≤ ds.length
  | _, [] => by simp [facT]
  | k, d :: ds => by
    have := facT_len (k + 1) ds
    rw [facT]
    split <;> simp <;> omega
theorem facT_next {ds : List Int} {k : Nat} {x : Int} (hk : k < ds.length) (hx : ds[k]? = some x) : facT 0 (ds.take (k + 1)) = facT 0 (ds.take k) ++ (if 0 < x then [fac (k + 2) / x] else []) := by
  have hl : (ds.take k).length = k := by rw [List.length_take]; omega
  have e : ds.take (k + 1) = ds.take k ++ [x] := by rw [List.take_add_one, hx]; rfl
  rw [e, facT_snoc, hl, Nat.zero_add]
/-- one term: between two factorials -/
theorem term_in {k : Nat} {x : Int} (h0 : 0 < x) (h1 : x ≤ (k : Int) + 1) : fac (k + 1) < fac (k + 2) / x ∧ fac (k + 2) / x ≤ fac (k + 2) := by
  have hf := fac_pos k
  have e1 : fac (k + 1) = fac k * ((k : Int) + 1) := rfl
  have e2 : fac (k + 2) = fac k * ((k : Int) + 1) * ((k : Int) + 2) := by
    show fac (k + 1) * ((k + 1 + 1 : Nat) : Int) = _
    rw [e1]
    congr 1
  have p0 : 0 ≤ fac k * ((k : Int) + 2) := Int.mul_nonneg (by omega) (by omega)
  have p1 : fac k * ((k : Int) + 2) * x ≤ fac k * ((k : Int) + 2) * ((k : Int) + 1) := Int.mul_le_mul_of_nonneg_left h1 p0
  have p2 : fac k * ((k : Int) + 2) * x ≤ fac (k + 2) := by
    rw [e2]
    have : fac k * ((k : Int) + 2) * ((k : Int) + 1) = fac k * ((k : Int) + 1) * ((k : Int) + 2) := by grind
    omega
  have p3 := Int.le_ediv_of_mul_le h0 p2
  have p4 : fac k * ((k : Int) + 2) = fac k * ((k : Int) + 1) + fac k := by grind
  refine ⟨by omega, Int.ediv_le_self _ (by have := fac_pos (k + 2); omega)⟩
theorem facT_rise {ds : List Int} (h : ∀ (i : Nat) (x : Int), ds[i]? = some x → 0 ≤ x ∧ x ≤ (i : Int) + 1) : ∀ k, k ≤ ds.length → Rising (facT 0 (ds.take k)) ∧ ∀ t ∈ facT 0 (ds.take k), 1 ≤ t ∧ t ≤ fac (k + 1)
  | 0, _ => by simp [facT, Rising]
  | k + 1, hk => by
    obtain ⟨i1, i2⟩ := facT_rise h k (by omega)
    obtain ⟨x, hx⟩ : ∃ x, ds[k]? = some x := ⟨_, List.getElem?_eq_getElem (by omega)⟩
    obtain ⟨x0, x1⟩ := h k x hx
    have hu := fac_up (k + 1)
    rw [facT_next (by omega) hx]
    by_cases hp : 0 < x
    · obtain ⟨t1, t2⟩ := term_in hp x1
      rw [if_pos hp]
      refine ⟨List.pairwise_append.2 ⟨i1, by simp, fun a ha b hb => ?_⟩, fun t ht => ?_⟩
      · have := i2 a ha
        simp at hb
        subst hb
        omega
      · have hf := fac_pos (k + 1)
        rcases List.mem_append.1 ht with h1 | h1
        · have := i2 t h1; omega
        · simp at h1
          subst h1
          exact ⟨by omega, t2⟩
    · rw [if_neg hp, List.append_nil]
      exact ⟨i1, fun t ht => by have := i2 t ht; omega⟩
/-- digits lie in their ranges -/
theorem digL_in : ∀ (i : Nat) (L : Int) (j : Nat) (x : Int), (digL i L)[j]? = some x → 0 ≤ x ∧ x ≤ (j : Int) + 1
  | 0, L, j, x, h => by simp [digL] at h
  | 1, L, j, x, h => by simp [digL] at h
  | i + 2, L, j, x, h => by
    rw [digL] at h
    have hl : (digL (i + 1) (L / ((i + 2 : Nat) : Int))).length = i := by rw [digL_len]; rfl
    rcases Nat.lt_or_ge j i with hj | hj
    · rw [List.getElem?_append_left (by omega)] at h
      exact digL_in (i + 1) _ j x h
    · rw [List.getElem?_append_right (by omega), hl] at h
      rcases Nat.eq_zero_or_pos (j - i) with h0 | h0
      · rw [h0] at h
        simp only [List.getElem?_cons_zero, Option.some.injEq] at h
        subst h
        have a := Int.emod_nonneg L (show ((i + 2 : Nat) : Int) ≠ 0 by omega)
        have b := Int.emod_lt_of_pos L (show 0 < ((i + 2 : Nat) : Int) by omega)
        omega
      · obtain ⟨q, hq⟩ : ∃ q, j - i = q + 1 := ⟨j - i - 1, by omega⟩
        rw [hq] at h
        simp at h
/-- only 0 has no terms -/
theorem digL_zero : ∀ (i : Nat) (L : Int), 0 ≤ L → L < fac i → facT 0 (digL i L) = [] → L = 0
  | 0, L, h0, h1, _ => by simp [fac] at h1; omega
  | 1, L, h0, h1, _ => by simp [fac] at h1; omega
  | i + 2, L, h0, h1, h => by
    rw [digL, facT_snoc, List.append_eq_nil_iff] at h
    have hf : fac (i + 2) = fac (i + 1) * ((i + 2 : Nat) : Int) := rfl
    have a := Int.emod_nonneg L (show ((i + 2 : Nat) : Int) ≠ 0 by omega)
    have e := Int.mul_ediv_add_emod L ((i + 2 : Nat) : Int)
    have hd : L / ((i + 2 : Nat) : Int) < fac (i + 1) := Int.ediv_lt_of_lt_mul (by omega) (by rw [← hf]; exact h1)
    have ih := digL_zero (i + 1) _ (Int.ediv_nonneg h0 (by omega)) hd h.1
    rw [ih] at e
    have hm : ¬ 0 < L % ((i + 2 : Nat) : Int) := fun hp => by
      have := h.2
      rw [if_pos hp] at this
      cases this
    omega
/-- the terms of a fraction -/
def faO (n d : Int) : Option (List Int) := (fdO n d).map (facT 0)
theorem faO_facts {n d : Int} {xs : List Int} (h : faO n d = some xs) : xs ≠ [] ∧ xs.length ≤ 1000 ∧ Rising xs ∧ (∀ t ∈ xs, 1 ≤ t ∧ t ≤ 479001600) := by
  unfold faO fdO at h
  split at h
  · rename_i hb
    unfold fdB at hb
    simp only [Bool.and_eq_true, decide_eq_true_eq] at hb
    obtain ⟨m, m2, m12, hm, q1, q2, l0, l1, hL, hdq⟩ := fd_start hb.1 hb.2
    injection h with h
    rw [hL] at h
    have hin := digL_in m (n * (fac m / d))
    have hl := digL_len m (n * (fac m / d))
    have hr := facT_rise hin (digL m (n * (fac m / d))).length (Nat.le_refl _)
    rw [List.take_length] at hr
    have hfl := facT_len 0 (digL m (n * (fac m / d)))
    have n1 := ((proB_iff n d).1 hb.1).2.1
    have hpos := mul_pos1 n1 q1
    subst h
    refine ⟨fun e => ?_, by omega, hr.1, fun t ht => ?_⟩
    · have := digL_zero m _ l0 l1 e
      omega
    · have := hr.2 t ht
      have := fac_le (n := (digL m (n * (fac m / d))).length + 1) (by omega)
      omega
  · cases h
end Go.Proofs.YtbjblkfibinenadGreat
