
/-
  Plain facts on merging: the first pair that can be merged, and what is left when all is merged.
-/
import Derived.Test.YtbjblkfibinenacMergS
namespace Go.Proofs.Ytbjblkfibinenac
open Go.RowKit
def mfJ (xs : List Int) (i : Nat) : Nat → Nat → Option (List Int)
  | 0, _ => none
  | k + 1, j => if mpB xs i j = true then some (mpL xs i j) else mfJ xs i k (j + 1)
def mfI (xs : List Int) : Nat → Nat → Option (List Int)
  | 0, _ => none
  | k + 1, i => match mfJ xs i (xs.length - (i + 1)) (i + 1) with
    | some ys => some ys
    | none => mfI xs k (i + 1)
/-- the first merge that can be -/
def mf (xs : List Int) : Option (List Int) := mfI xs xs.length 0
theorem mfJ_yes {xs : List Int} {i k j : Nat} (h : mpB xs i j = true) : mfJ xs i (k + 1) j = some (mpL xs i j) := if_pos h
theorem mfJ_no {xs : List Int} {i k j : Nat} (h : mpB xs i j = false) : mfJ xs i (k + 1) j = mfJ xs i k (j + 1) := if_neg (by rw [h]; simp)
theorem mfI_some {xs ys : List Int} {i k : Nat} (h : mfJ xs i (xs.length - (i + 1)) (i + 1) = some ys) : mfI xs (k + 1) i = some ys := by rw [mfI, h]
theorem mfI_none {xs : List Int} {i k : Nat} (h : mfJ xs i (xs.length - (i + 1)) (i + 1) = none) : mfI xs (k + 1) i = mfI xs k (i + 1) := by rw [mfI, h]
theorem mfJ_is {xs ys : List Int} {i : Nat} : ∀ (k j : Nat), mfJ xs i k j = some ys → ∃ j', j ≤ j' ∧ mpB xs i (j' : Nat) = true ∧ ys = mpL xs i (j' : Nat)
  | 0, j, h => by cases h
  | k + 1, j, h => by
    cases hb : mpB xs i j with
    | true => rw [mfJ_yes hb] at h; injection h with h; exact ⟨j, Nat.le_refl _, hb, h.symm⟩
    | false =>
      rw [mfJ_no hb] at h
      obtain ⟨j', h1, h2⟩ := mfJ_is k (j + 1) h
      exact ⟨j', by omega, h2⟩
theorem mfI_is {xs ys : List Int} : ∀ (k i : Nat), mfI xs k i = some ys → ∃ i' j' : Nat, i' < j' ∧ mpB xs i' j' = true ∧ ys = mpL xs i' j'
  | 0, i, h => by cases h
  | k + 1, i, h => by
    cases hj : mfJ xs i (xs.length - (i + 1)) (i + 1) with
    | some zs =>
      rw [mfI_some hj] at h
      injection h with h
      subst h
      obtain ⟨j', h1, h2⟩ := mfJ_is _ _ hj
      exact ⟨i, j', by omega, h2⟩
    | none =>
      rw [mfI_none hj] at h
      exact mfI_is k (i + 1) h
theorem keep_two_len {xs : List Int} {i j : Nat} (hij : i < j) : ∀ k, k ≤ xs.length → (keepL [(i : Int), (j : Int)] 0 (xs.take k)).length + ((if i < k then 1 else 0) + (if j < k then 1 else 0)) = k
  | 0, _ => by simp [keepL]
  | k + 1, hk => by
    have ih := keep_two_len (xs := xs) hij k (by omega)
    obtain ⟨x, hx⟩ : ∃ x, xs[k]? = some x := ⟨_, List.getElem?_eq_getElem (by omega)⟩
    rw [keep_take hx, has_two, List.length_append]
    by_cases h1 : k = i
    · have a1 : ¬ i < k := by omega
      have a2 : i < k + 1 := by omega
      have a3 : ¬ j < k := by omega
      have a4 : ¬ j < k + 1 := by omega
      rw [if_neg a1, if_neg a3] at ih
      rw [if_pos a2, if_neg a4]
      simp [h1] at ih ⊢
      omega
    · by_cases h2 : k = j
      · have a1 : i < k := by omega
        have a2 : i < k + 1 := by omega
        have a3 : ¬ j < k := by omega
        have a4 : j < k + 1 := by omega
        rw [if_pos a1, if_neg a3] at ih
        rw [if_pos a2, if_pos a4]
        simp [h2] at ih ⊢
        omega
      · have e1 : (if i < k + 1 then 1 else 0) = (if i < k then 1 else 0) := by
          by_cases h3 : i < k
          · rw [if_pos h3, if_pos (by omega)]
          · rw [if_neg h3, if_neg (by omega)]
        have e2 : (if j < k + 1 then 1 else 0) = (if j < k then 1 else 0) := by
          by_cases h3 : j < k
          · rw [if_pos h3, if_pos (by omega)]
          · rw [if_neg h3, if_neg (by omega)]
        rw [e1, e2]
        simp [h1, h2]
        omega
/-- a merge has one term less, and is an expansion -/
theorem mp_less {xs : List Int} {i j : Nat} (hij : i < j) (h : mpB xs i j = true) : expB (mpL xs i j) = true ∧ (mpL xs i j).length + 1 = xs.length := by
  have h0 := h
  unfold mpB at h0
  simp only [Bool.and_eq_true, decide_eq_true_eq] at h0
  obtain ⟨⟨⟨⟨⟨hx, _⟩, _⟩, hj⟩, _⟩, hi⟩ := h0
  have hjl : j < xs.length := by omega
  have hk := keep_two_len (xs := xs) hij xs.length (Nat.le_refl _)
  rw [List.take_length, if_pos (by omega), if_pos hjl] at hk
  have hr := (expB_rising hx).keep [(i : Int), (j : Int)] 0
  have e := h
  obtain ⟨f1, f2⟩ := into_one hr (termAt xs i * termAt xs j / (termAt xs i + termAt xs j))
  rw [mpL, if_pos h, f2]
  rw [f1] at hi
  rw [if_pos hi]
  simp only [Bool.and_eq_true, Bool.not_eq_true'] at hi
  refine ⟨hi.2, ?_⟩
  rw [put_no hr (by rw [hi.1]; simp), ins_len _ _ _ (pos_le _ _)]
  omega
theorem mf_less {xs ys : List Int} (h : mf xs = some ys) : expB ys = true ∧ ys.length + 1 = xs.length := by
  obtain ⟨i, j, hij, hb, rfl⟩ := mfI_is _ _ h
  exact mp_less hij hb
/-- so many merges at most -/
def mall : Nat → List Int → List Int
  | 0, xs => xs
  | k + 1, xs => match mf xs with
    | some ys => mall k ys
    | none => xs
theorem mall_none {k : Nat} {xs : List Int} (h : mf xs = none) : mall k xs = xs := by
  cases k with
  | zero => rfl
  | succ k => rw [mall, h]
theorem mall_some {k : Nat} {xs ys : List Int} (h : mf xs = some ys) : mall (k + 1) xs = mall k ys := by rw [mall, h]
def maO (xs : List Int) : Option (List Int) := if expB xs = true then some (mall xs.length xs) else none
theorem mall_len : ∀ (k : Nat) (xs : List Int), (mall k xs).length ≤ xs.length
  | 0, xs => Nat.le_refl _
  | k + 1, xs => by
    cases h : mf xs with
    | none => rw [mall_none h]; exact Nat.le_refl _
    | some ys =>
      rw [mall_some h]
      have := mall_len k ys
      have := (mf_less h).2
      omega
theorem maO_len (xs : List Int) : ((maO xs).getD []).length ≤ 24 := by
  unfold maO
  split
  · rename_i h
    have := mall_len xs.length xs
    have := expB_len h
    simp only [Option.getD_some]
    omega
  · simp
end Go.Proofs.Ytbjblkfibinenac
