
/-
  Plain facts on the terms of the method by binary digits: they are different.
-/
import Derived.Test.YtbjblkfibinenacGreatFacP
import Derived.Test.YtbjblkfibinenacGreatSortP
import Derived.Test.YtbjblkfibinenacGreatGolR
namespace Go.Proofs.YtbjblkfibinenacGreat
open Go.RowKit
/-- whole / 2^i for all places i of the digits 1 of a number, so many places at most -/
def hvL : Nat → Int → Int → List Int
  | 0, _, _ => []
  | k + 1, m, e => if m ≤ 0 then [] else if m % 2 = 1 then e :: hvL k (m / 2) (e / 2) else hvL k (m / 2) (e / 2)
theorem hvL_end {k : Nat} {m e : Int} (h : m ≤ 0) : hvL k m e = [] := by
  cases k with
  | zero => rfl
  | succ k => exact if_pos h
theorem hvL_odd {k : Nat} {m e : Int} (h : 0 < m) (h2 : m % 2 = 1) : hvL (k + 1) m e = e :: hvL k (m / 2) (e / 2) := by
  have : ¬ m ≤ 0 := by omega
  simp [hvL, this, h2]
theorem hvL_even {k : Nat} {m e : Int} (h : 0 < m) (h2 : ¬ m % 2 = 1) : hvL (k + 1) m e = hvL k (m / 2) (e / 2) := by
  have : ¬ m ≤ 0 := by omega
  simp [hvL, this, h2]
theorem hvL_len : ∀ (k : Nat) (m e : Int), (hvL k m e).length ≤ k
  | 0, m, e => by simp [hvL]
  | k + 1, m, e => by
    have := hvL_len k (m / 2) (e / 2)
    unfold hvL
    split
    · simp
    · split
      · simp only [List.length_cons]; omega
      · omega
/-- they lie between 0 and whole -/
theorem hvL_mem : ∀ (k : Nat) {m e : Int}, 0 ≤ e → ∀ x ∈ hvL k m e, 0 ≤ x ∧ x ≤ e
  | 0, m, e, _, x, hx => by simp [hvL] at hx
  | k + 1, m, e, he, x, hx => by
    have ih := hvL_mem k (m := m / 2) (e := e / 2) (by omega) x
    by_cases h1 : m ≤ 0
    · rw [hvL_end h1] at hx; simp at hx
    · by_cases h2 : m % 2 = 1
      · rw [hvL_odd (by omega) h2] at hx
        rcases List.mem_cons.1 hx with h | h
        · subst h; omega
        · have := ih h; omega
      · rw [hvL_even (by omega) h2] at hx
        have := ih hx; omega
/-- they fall, as long as whole is great enough -/
theorem hvL_fall : ∀ (k : Nat) {m e : Int}, m ≤ e → (hvL k m e).Pairwise (fun a b => b < a)
  | 0, m, e, _ => by simp [hvL]
  | k + 1, m, e, he => by
    have ih := hvL_fall k (m := m / 2) (e := e / 2) (by omega)
    by_cases h1 : m ≤ 0
    · rw [hvL_end h1]; simp
    · by_cases h2 : m % 2 = 1
      · rw [hvL_odd (by omega) h2, List.pairwise_cons]
        refine ⟨fun x hx => ?_, ih⟩
        have := hvL_mem k (m := m / 2) (e := e / 2) (by omega) x hx
        omega
      · rw [hvL_even (by omega) h2]
        exact ih
/-- each is a power of 2 times what whole is a power of 2 times of -/
theorem hvL_pow : ∀ (k : Nat) {m c : Int} {j : Nat}, m < 2 ^ j → 0 < c → ∀ x ∈ hvL k m (c * 2 ^ j), ∃ i, i ≤ j ∧ x = c * 2 ^ i
  | 0, m, c, j, _, _, x, hx => by simp [hvL] at hx
  | k + 1, m, c, j, hm, hc, x, hx => by
    by_cases h1 : m ≤ 0
    · rw [hvL_end h1] at hx; simp at hx
    · cases j with
      | zero =>
        simp at hm
        omega
      | succ j =>
        have he : c * 2 ^ (j + 1) / 2 = c * 2 ^ j := by
          rw [Int.pow_succ, ← Int.mul_assoc]
          exact Int.mul_ediv_cancel _ (by omega)
        have hp : (2 : Int) ^ (j + 1) = 2 ^ j * 2 := Int.pow_succ _ _
        have hm2 : m / 2 < 2 ^ j := by omega
        by_cases h2 : m % 2 = 1
        · rw [hvL_odd (by omega) h2, he] at hx
          rcases List.mem_cons.1 hx with h | h
          · exact ⟨j + 1, Nat.le_refl _, h⟩
          · obtain ⟨i, hi, e⟩ := hvL_pow k hm2 hc x h
            exact ⟨i, by omega, e⟩
        · rw [hvL_even (by omega) h2, he] at hx
          obtain ⟨i, hi, e⟩ := hvL_pow k hm2 hc x hx
          exact ⟨i, by omega, e⟩
theorem hvL_ne : ∀ (k : Nat) {m e : Int}, 0 < m → m < 2 ^ k → hvL k m e ≠ []
  | 0, m, e, h0, h1 => by simp at h1; omega
  | k + 1, m, e, h0, h1 => by
    have hp : (2 : Int) ^ (k + 1) = 2 ^ k * 2 := Int.pow_succ _ _
    by_cases h2 : m % 2 = 1
    · rw [hvL_odd h0 h2]; simp
    · rw [hvL_even h0 h2]
      exact hvL_ne k (by omega) (by omega)
/-- the terms, as they come -/
def bL (n d : Int) : List Int := hvL 31 (n * p2 d / d) (p2 d) ++ hvL 31 (n * p2 d % d) (d * p2 d)
structure BinS (n d : Int) (J : Nat) : Prop where
  J31 : J ≤ 31
  N : p2 d = 2 ^ J
  N1 : 1 ≤ p2 d
  N2 : p2 d < 2 * d
  dN : d ≤ p2 d
  s0 : 0 ≤ n * p2 d / d
  s1 : n * p2 d / d < p2 d
  r0 : 0 ≤ n * p2 d % d
  r1 : n * p2 d % d < d
  e : d * (n * p2 d / d) + n * p2 d % d = n * p2 d
theorem binS {n d : Int} (hp : proB n d = true) : ∃ J, BinS n d J := by
  obtain ⟨hg, hn, hd⟩ := (proB_iff n d).1 hp
  obtain ⟨_, _, d1, d2⟩ := good_bounds hg
  obtain ⟨J, ⟨h1, h2, h3, h4, _⟩, h5⟩ := p2_is d1 d2
  have hpos := mul_pos1 hn h3
  refine ⟨J, h1, h2, h3, h4, h5, Int.ediv_nonneg (by omega) (by omega), ?_, Int.emod_nonneg _ (by omega), Int.emod_lt_of_pos _ (by omega), Int.mul_ediv_add_emod _ _⟩
  refine Int.ediv_lt_of_lt_mul (by omega) ?_
  rw [Int.mul_comm (p2 d)]
  exact Int.mul_lt_mul_of_pos_right hd (by omega)
theorem pow_split {i J : Nat} (h : i ≤ J) : (2 : Int) ^ J = 2 ^ i * 2 ^ (J - i) := by rw [← Int.pow_add]; congr 1; omega
theorem pow_pos' (i : Nat) : 1 ≤ (2 : Int) ^ i := by have := Int.pow_pos (n := (2 : Int)) (m := i) (by omega); omega
theorem bL_facts {n d : Int} (hp : proB n d = true) : bL n d ≠ [] ∧ (bL n d).length ≤ 62 ∧ (∀ x ∈ bL n d, 0 ≤ x ∧ x ≤ 2000000000000000000) ∧ (bL n d).Nodup := by
  obtain ⟨J, B⟩ := binS hp
  obtain ⟨hg, hn, hd⟩ := (proB_iff n d).1 hp
  obtain ⟨_, _, d1, d2⟩ := good_bounds hg
  have hN := B.N
  have N1 := B.N1
  have N2 := B.N2
  have s0 := B.s0
  have s1 := B.s1
  have r0 := B.r0
  have r1 := B.r1
  have dN := B.dN
  have hdN := Int.mul_le_mul d2 (show p2 d ≤ 2000000000 by omega) (by omega) (by omega : (0 : Int) ≤ 1000000000)
  have hdN1 : 1 * p2 d ≤ d * p2 d := Int.mul_le_mul_of_nonneg_right d1 (by omega)
  refine ⟨fun e => ?_, ?_, fun x hx => ?_, ?_⟩
  · obtain ⟨e1, e2⟩ := List.append_eq_nil_iff.1 e
    have h31 : (2 : Int) ^ J ≤ 2 ^ 31 := by
      rw [pow_split B.J31]
      have h1 := pow_pos' (31 - J)
      have h2 := pow_pos' J
      have := Int.mul_le_mul_of_nonneg_left h1 (show 0 ≤ (2 : Int) ^ J by omega)
      omega
    have hs : ¬ 0 < n * p2 d / d := fun h => hvL_ne 31 h (by omega) e1
    have hr : ¬ 0 < n * p2 d % d := fun h => hvL_ne 31 h (by omega) e2
    have he := B.e
    have hpos := mul_pos1 hn N1
    have : n * p2 d / d = 0 := by omega
    rw [this] at he
    omega
  · unfold bL
    rw [List.length_append]
    have := hvL_len 31 (n * p2 d / d) (p2 d)
    have := hvL_len 31 (n * p2 d % d) (d * p2 d)
    omega
  · unfold bL at hx
    rcases List.mem_append.1 hx with h | h
    · have := hvL_mem 31 (m := n * p2 d / d) (e := p2 d) (by omega) x h
      omega
    · have := hvL_mem 31 (m := n * p2 d % d) (e := d * p2 d) (by omega) x h
      omega
  · unfold bL
    refine List.nodup_append.2 ⟨falling_nodup (hvL_fall 31 (by omega)), falling_nodup (hvL_fall 31 (by omega)), fun a ha b hb hab => ?_⟩
    subst hab
    have ha' : a ∈ hvL 31 (n * p2 d / d) (1 * 2 ^ J) := by rw [Int.one_mul, ← hN]; exact ha
    have hb' : a ∈ hvL 31 (n * p2 d % d) (d * 2 ^ J) := by rw [← hN]; exact hb
    obtain ⟨i, hi, e1⟩ := hvL_pow 31 (c := 1) (j := J) (by omega) (by omega) a ha'
    obtain ⟨i', hi', e2⟩ := hvL_pow 31 (c := d) (j := J) (by omega) (by omega) a hb'
    have hdv : d ∣ p2 d := by
      rw [hN, pow_split hi]
      rw [Int.one_mul] at e1
      exact ⟨2 ^ i' * 2 ^ (J - i), by rw [← e1, e2]; grind⟩
    have hz : n * p2 d % d = 0 := Int.emod_eq_zero_of_dvd (Int.dvd_trans hdv ⟨n, Int.mul_comm _ _⟩)
    rw [hz, hvL_end (by omega)] at hb
    cases hb
def biO (n d : Int) : Option (List Int) := some (bL n d)
end Go.Proofs.YtbjblkfibinenacGreat
