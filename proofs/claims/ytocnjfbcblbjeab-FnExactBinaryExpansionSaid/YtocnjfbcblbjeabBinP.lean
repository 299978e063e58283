
/-
  Plain facts on binary digits: the numbers whole / 2^i for all digits 1.
-/
import Derived.Test.YtocnjfbcblbjeabFacP
import Derived.Test.YtocnjfbcblbjeabSortP
namespace Go.Proofs.Ytocnjfbcblbjeab
open Go.RowKit
/-- whole / 2^i for all places i of the digits 1 of a number, so many places at most -/
def hvL : Nat → Int → Int → List Int
  | 0, _, _ => []
  | k + 1, m, e => if m ≤ 0 then [] else if m % 2 = 1 then e :: hvL k (m / 2) (e / 2) else hvL k (m / 2) (e / 2)
theorem hvL_end {k : Nat} {m e : Int} (h : m ≤ 0) : hvL k m e = [] := by
  cases k with
  | zero => rfl
  | succ k => exact if_pos h
theorem hvL_odd {k : Nat} {m e : Int} (h : 0 < m) (h2 : m % 2 = 1) : hvL (k + 1) m e = e :: hvL k (m / 2) (e / 2) := by
  have : ¬ m ≤ 0 := by omega
  simp [hvL, this, h2]
theorem hvL_even {k : Nat} {m e : Int} (h : 0 < m) (h2 : ¬ m % 2 = 1) : hvL (k + 1) m e = hvL k (m / 2) (e / 2) := by
  have : ¬ m ≤ 0 := by omega
  simp [hvL, this, h2]
theorem hvL_len : ∀ (k : Nat) (m e : Int), (hvL k m e).length ≤ k
  | 0, m, e => by simp [hvL]
  | k + 1, m, e => by
    have := hvL_len k (m / 2) (e / 2)
    unfold hvL
    split
    · simp
    · split
      · simp only [List.length_cons]; omega
      · omega
/-- they lie between 0 and whole -/
theorem hvL_mem : ∀ (k : Nat) {m e : Int}, 0 ≤ e → ∀ x ∈ hvL k m e, 0 ≤ x ∧ x ≤ e
  | 0, m, e, _, x, hx => by simp [hvL] at hx
  | k + 1, m, e, he, x, hx => by
    have ih := hvL_mem k (m := m / 2) (e := e / 2) (by omega) x
    by_cases h1 : m ≤ 0
    · rw [hvL_end h1] at hx; simp at hx
    · by_cases h2 : m % 2 = 1
      · rw [hvL_odd (by omega) h2] at hx
        rcases List.mem_cons.1 hx with h | h
        · subst h; omega
        · have := ih h; omega
      · rw [hvL_even (by omega) h2] at hx
        have := ih hx; omega
/-- they fall, as long as whole is great enough -/
theorem hvL_fall : ∀ (k : Nat) {m e : Int}, m ≤ e → (hvL k m e).Pairwise (fun a b => b < a)
  | 0, m, e, _ => by simp [hvL]
  | k + 1, m, e, he => by
    have ih := hvL_fall k (m := m / 2) (e := e / 2) (by omega)
    by_cases h1 : m ≤ 0
    · rw [hvL_end h1]; simp
    · by_cases h2 : m % 2 = 1
      · rw [hvL_odd (by omega) h2, List.pairwise_cons]
        refine ⟨fun x hx => ?_, ih⟩
        have := hvL_mem k (m := m / 2) (e := e / 2) (by omega) x hx
        omega
      · rw [hvL_even (by omega) h2]
        exact ih
/-- each is a power of 2 times what whole is a power of 2 times of -/
theorem hvL_pow : ∀ (k : Nat) {m c : Int} {j : Nat}, m < 2 ^ j → 0 < c → ∀ x ∈ hvL k m (c * 2 ^ j), ∃ i, i ≤ j ∧ x = c * 2 ^ i
  | 0, m, c, j, _, _, x, hx => by simp [hvL] at hx
  | k + 1, m, c, j, hm, hc, x, hx => by
    by_cases h1 : m ≤ 0
    · rw [hvL_end h1] at hx; simp at hx
    · cases j with
      | zero =>
        simp at hm
        omega
      | succ j =>
        have he : c * 2 ^ (j + 1) / 2 = c * 2 ^ j := by
          rw [Int.pow_succ, ← Int.mul_assoc]
          exact Int.mul_ediv_cancel _ (by omega)
        have hp : (2 : Int) ^ (j + 1) = 2 ^ j * 2 := Int.pow_succ _ _
        have hm2 : m / 2 < 2 ^ j := by omega
        by_cases h2 : m % 2 = 1
        · rw [hvL_odd (by omega) h2, he] at hx
          rcases List.mem_cons.1 hx with h | h
          · exact ⟨j + 1, Nat.le_refl _, h⟩
          · obtain ⟨i, hi, e⟩ := hvL_pow k hm2 hc x h
            exact ⟨i, by omega, e⟩
        · rw [hvL_even (by omega) h2, he] at hx
          obtain ⟨i, hi, e⟩ := hvL_pow k hm2 hc x hx
          exact ⟨i, by omega, e⟩
end Go.Proofs.Ytocnjfbcblbjeab
