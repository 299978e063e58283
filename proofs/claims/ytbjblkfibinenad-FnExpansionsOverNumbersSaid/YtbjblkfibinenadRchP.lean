
/-
  Plain facts: which sums are reached, as a list of truth values. No program.
-/
import Derived.Test.YtbjblkfibinenadDivP
namespace Go.Proofs.Ytbjblkfibinenad
/-- for each number up to the greatest sum whether it is reached -/
def rl (l : List Nat) : List Bool := (List.range (l.sum + 1)).map (fun s => decide (0 < ways l s))
/-- the same on the way, when d has been added to the first j of them -/
def rn (l : List Nat) (d j : Nat) : List Bool := (List.range (l.sum + d + 1)).map (fun s => decide (0 < ways l s) || (decide (d ≤ s) && decide (s - d < j) && decide (0 < ways l (s - d))))
theorem rl_len (l : List Nat) : (rl l).length = l.sum + 1 := by simp [rl]
theorem rn_len (l : List Nat) (d j : Nat) : (rn l d j).length = l.sum + d + 1 := by simp [rn]
theorem rl_at (l : List Nat) {s : Nat} (h : s ≤ l.sum) : (rl l)[s]? = some (decide (0 < ways l s)) := by
  unfold rl
  rw [List.getElem?_map, List.getElem?_range (by omega)]
  rfl
theorem rn_at (l : List Nat) (d j : Nat) {s : Nat} (h : s ≤ l.sum + d) : (rn l d j)[s]? = some (decide (0 < ways l s) || (decide (d ≤ s) && decide (s - d < j) && decide (0 < ways l (s - d)))) := by
  unfold rn
  rw [List.getElem?_map, List.getElem?_range (by omega)]
  rfl
theorem rl_nil : rl [] = [true] := by decide
/-- as the numbers that are not reached yet are added -/
theorem rn_zero (l : List Nat) (d : Nat) : rn l d 0 = rl l ++ List.replicate d false := by
  apply List.ext_getElem?
  intro s
  by_cases h : s ≤ l.sum
  · rw [rn_at l d 0 (by omega), List.getElem?_append_left (by rw [rl_len]; omega), rl_at l h]
    simp
  · by_cases h2 : s ≤ l.sum + d
    · rw [rn_at l d 0 h2, List.getElem?_append_right (by rw [rl_len]; omega), List.getElem?_replicate, if_pos (by rw [rl_len]; omega), ways_none (by omega)]
      simp
    · rw [List.getElem?_eq_none (by rw [rn_len]; omega), List.getElem?_eq_none (by rw [List.length_append, rl_len, List.length_replicate]; omega)]
theorem rn_yes (l : List Nat) (d j : Nat) (h : 0 < ways l j) (hj : j ≤ l.sum) : (rn l d j).set (j + d) true = rn l d (j + 1) := by
  apply List.ext_getElem?
  intro s
  rw [List.getElem?_set]
  by_cases h2 : s ≤ l.sum + d
  · by_cases he : j + d = s
    · subst he
      rw [if_pos rfl, rn_len, if_pos (by omega), rn_at l d (j + 1) h2, show j + d - d = j from by omega]
      simp [h]
    · rw [if_neg he, rn_at l d j h2, rn_at l d (j + 1) h2]
      congr 2
      by_cases h3 : d ≤ s
      · have : decide (s - d < j) = decide (s - d < j + 1) := by
          by_cases h4 : s - d < j
          · rw [decide_eq_true h4, decide_eq_true (by omega)]
          · rw [decide_eq_false h4, decide_eq_false (by omega)]
        rw [this]
      · rw [decide_eq_false h3]; rfl
  · rw [if_neg (by omega), List.getElem?_eq_none (by rw [rn_len]; omega), List.getElem?_eq_none (by rw [rn_len]; omega)]
theorem rn_no (l : List Nat) (d j : Nat) (h : ¬ 0 < ways l j) : rn l d j = rn l d (j + 1) := by
  apply List.ext_getElem?
  intro s
  by_cases h2 : s ≤ l.sum + d
  · rw [rn_at l d j h2, rn_at l d (j + 1) h2]
    congr 2
    by_cases h3 : d ≤ s
    · by_cases h4 : s - d = j
      · rw [h4]; simp [h]
      · have : decide (s - d < j) = decide (s - d < j + 1) := by
          by_cases h4 : s - d < j
          · rw [decide_eq_true h4, decide_eq_true (by omega)]
          · rw [decide_eq_false h4, decide_eq_false (by omega)]
        rw [this]
    · rw [decide_eq_false h3]; rfl
  · rw [List.getElem?_eq_none (by rw [rn_len]; omega), List.getElem?_eq_none (by rw [rn_len]; omega)]
theorem rn_all (l : List Nat) (d : Nat) : rn l d (l.sum + 1) = rl (d :: l) := by
  apply List.ext_getElem?
  intro s
  by_cases h2 : s ≤ l.sum + d
  · rw [rn_at l d _ h2, rl_at (d :: l) (by rw [List.sum_cons]; omega)]
    congr 1
    rw [ways]
    by_cases h3 : d ≤ s
    · rw [if_pos h3]
      by_cases h4 : s - d ≤ l.sum
      · rw [decide_eq_true h3, decide_eq_true (show s - d < l.sum + 1 by omega)]
        by_cases h5 : 0 < ways l s <;> by_cases h6 : 0 < ways l (s - d) <;> simp [h5, h6] <;> omega
      · rw [ways_none (show l.sum < s - d by omega)]
        simp
    · rw [if_neg h3, decide_eq_false h3]
      simp
  · rw [List.getElem?_eq_none (by rw [rn_len]; omega), List.getElem?_eq_none (by rw [rl_len, List.sum_cons]; omega)]
/-- what isn't reached, as the model tells it -/
def unI (n : Nat) : Int := match brkO n with | none => -1 | some (_, k) => (sig k : Int) + 1
theorem unI_is {n : Nat} (h1 : 1 ≤ n) (h2 : n ≤ 2000) {s : Nat} (hs : s ≤ sig n) (h0 : ways (dsc n n) s = 0) (hl : ∀ t, t < s → 0 < ways (dsc n n) t) : unI n = (s : Int) := by
  have hb := brkO_says h1 h2
  unfold unI
  cases hk : brkO n with
  | none =>
    rw [hk] at hb
    have := hb s hs
    omega
  | some x =>
    obtain ⟨q, k⟩ := x
    rw [hk] at hb
    obtain ⟨l, e, hq, hk1, hl1, hr, hql, hsk, hf, hc⟩ := hb
    obtain ⟨a, b, c⟩ := broken_facts hk1 hl1 hr hsk hql hf
    rw [← e] at a b c
    show (sig k : Int) + 1 = (s : Int)
    rcases Nat.lt_or_ge s (sig k + 1) with h | h
    · have := b s (by omega); omega
    · rcases Nat.lt_or_ge (sig k + 1) s with h3 | h3
      · have := hl _ h3; omega
      · omega
theorem unI_none {n : Nat} (h1 : 1 ≤ n) (h2 : n ≤ 2000) (hl : ∀ t, t ≤ sig n → 0 < ways (dsc n n) t) : unI n = -1 := by
  have := (full_iff h1 h2).1 hl
  unfold unI
  rw [this]
theorem unI_neg (n : Nat) : decide (unI n < 0) = (brkO n).isNone := by
  unfold unI
  cases brkO n with
  | none => rfl
  | some x =>
    obtain ⟨q, k⟩ := x
    show decide ((sig k : Int) + 1 < 0) = false
    simp
    omega
theorem unI_small {n : Nat} (h1 : 1 ≤ n) (h2 : n ≤ 2000) : -1 ≤ unI n ∧ (unI n ≤ (sig n : Int)) := by
  have hb := brkO_says h1 h2
  unfold unI
  cases hk : brkO n with
  | none => constructor <;> simp <;> omega
  | some x =>
    obtain ⟨q, k⟩ := x
    rw [hk] at hb
    obtain ⟨l, e, hq, hk1, hl1, hr, hql, hsk, hf, hc⟩ := hb
    obtain ⟨a, b, c⟩ := broken_facts hk1 hl1 hr hsk hql hf
    rw [← e] at c
    show -1 ≤ (sig k : Int) + 1 ∧ (sig k : Int) + 1 ≤ _
    omega
end Go.Proofs.Ytbjblkfibinenad
