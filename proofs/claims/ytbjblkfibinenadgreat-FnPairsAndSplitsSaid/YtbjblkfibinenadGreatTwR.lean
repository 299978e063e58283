
/-
  The contract of the model's rounds that replace numbers which stand twice (under way).
-/
import Derived.Test.YtbjblkfibinenadGreatTwS
namespace Go.Proofs.YtbjblkfibinenadGreat
open Go.RowKit
theorem small_last {zs : List Int} (hs : zs.Pairwise (· ≤ ·)) {k : Nat} {m : Int} (hk : zs.length = k + 1) (hm : zs[k]? = some m) : small zs = decide (m ≤ 1000000000) := by
  rw [Bool.eq_iff_iff, decide_eq_true_iff]
  unfold small
  rw [List.all_eq_true]
  constructor
  · intro h
    have := h m (List.mem_of_getElem? hm)
    simpa using this
  · intro h x hx
    obtain ⟨i, hi, rfl⟩ := List.mem_iff_getElem.1 hx
    have hkl : k < zs.length := by omega
    have hmk : zs[k] = m := by rw [List.getElem?_eq_getElem hkl] at hm; injection hm
    have : zs[i] ≤ zs[k] := by
      rcases Nat.lt_or_ge i k with h1 | h1
      · exact List.pairwise_iff_getElem.1 hs i k hi hkl h1
      · have : i = k := by omega
        subst this
        exact Int.le_refl _
    simp
    omega
theorem cut_sorted {xs : List Int} (h : xs.Pairwise (· ≤ ·)) (i j : Nat) (hij : i ≤ j) : (xs.take i ++ xs.drop j).Pairwise (· ≤ ·) := by
  refine List.Pairwise.sublist ?_ h
  have e : xs = xs.take i ++ xs.drop i := (List.take_append_drop i xs).symm
  conv => rhs; rw [e]
  refine List.Sublist.append (List.Sublist.refl _) ?_
  obtain ⟨k, rfl⟩ : ∃ k, j = i + k := ⟨j - i, by omega⟩
  rw [← List.drop_drop]
  exact List.drop_sublist _ _
/-- of the rounds that go on: the numbers stay in range -/
theorem round_in {xs : List Int} {i : Nat} {g : Int → Nat × List Int} (hg : ∀ d, 1 ≤ d → ∀ x ∈ (g d).2, 1 ≤ x) (h1 : ∀ x ∈ xs, 1 ≤ x) (hi : tw xs = some i) (hs : small (roundL g xs i) = true) : ∀ x ∈ roundL g xs i, 1 ≤ x ∧ x ≤ 1000000000 := by
  obtain ⟨d, hd, _⟩ := tw_at hi
  have hd1 := h1 d (List.mem_of_getElem? hd)
  intro x hx
  refine ⟨?_, ?_⟩
  · unfold roundL at hx
    rw [hd, Option.getD_some] at hx
    rcases List.mem_append.1 (srt_mem.1 hx) with h | h
    · rcases List.mem_append.1 h with h | h
      · exact h1 x (List.mem_of_mem_take h)
      · exact h1 x (List.mem_of_mem_drop h)
    · exact hg d hd1 x h
  · unfold small at hs
    have := List.all_eq_true.1 hs x hx
    simpa using this
theorem repP_in (d : Int) (h : 1 ≤ d) : ∀ x ∈ (repP d).2, 1 ≤ x := by
  intro x hx
  unfold repP at hx
  split at hx
  · simp at hx; omega
  · simp at hx
    have hp : 1 * 1 ≤ d * (d + 1) / 2 := by
      have : 2 ≤ d * (d + 1) := by
        have := Int.mul_le_mul h (by omega : 2 ≤ d + 1) (by omega) (by omega : (0 : Int) ≤ d)
        omega
      omega
    rcases hx with rfl | rfl <;> omega
theorem repS_in (d : Int) (h : 1 ≤ d) : ∀ x ∈ (repS d).2, 1 ≤ x := by
  intro x hx
  simp [repS] at hx
  have hp := mul_pos1 h (by omega : 1 ≤ d + 1)
  rcases hx with rfl | rfl <;> omega
theorem round_sorted (g : Int → Nat × List Int) (xs : List Int) (i : Nat) : (roundL g xs i).Pairwise (· ≤ ·) := srt_sorted _
end Go.Proofs.YtbjblkfibinenadGreat
