
/-
  Plain facts: few divisors, ways, and the greatest list of divisors with a sum. No program.
-/
import Derived.Test.YtbjblkfibinenadDivP
namespace Go.Proofs.Ytbjblkfibinenad
theorem few44 : ∀ n, n < 2001 → (dsc n 44).length ≤ 22 ∨ n = 0 := by decide +kernel
theorem dsc_few {n : Nat} (h1 : 1 ≤ n) (h2 : n ≤ 2000) : (dsc n n).length ≤ 44 := by
  rcases Nat.lt_or_ge n 45 with h3 | h3
  · have := dsc_len n n; omega
  · have hf : (dsc n 44).length ≤ 22 := by
      rcases few44 n (by omega) with h | h
      · exact h
      · omega
    obtain ⟨hi, e, hb⟩ := dsc_split n 44 (n - 44)
    rw [show 44 + (n - 44) = n from by omega] at e
    have hmem : ∀ d ∈ hi, d ∣ n ∧ 45 ≤ d := fun d hd => ⟨(dsc_all h1).1 (by rw [e]; exact List.mem_append_left _ hd), hb d hd⟩
    have hnd : hi.Nodup := by
      have := dsc_nodup n n
      rw [e, List.nodup_append] at this
      exact this.1
    have hl : (hi.map (n / ·)).length ≤ (dsc n 44).length := by
      refine List.Nodup.length_le_of_subset ?_ ?_
      · have h9 : hi.Pairwise (fun a b => n / a ≠ n / b) := by
          have hnd' := hnd
          clear e hb
          induction hi with
          | nil => exact .nil
          | cons x xs ih =>
            have h0 := List.nodup_cons.1 hnd
            refine .cons (fun b hb he => ?_) (ih (fun d hd => hmem d (by simp [hd])) h0.2 h0.2)
            have a1 := Nat.div_mul_cancel (hmem x (by simp)).1
            have a2 := Nat.div_mul_cancel (hmem b (by simp [hb])).1
            rw [he] at a1
            have a3 : 0 < n / b := Nat.div_pos (Nat.le_of_dvd h1 (hmem b (by simp [hb])).1) (by have := (hmem b (by simp [hb])).2; omega)
            have : x = b := Nat.eq_of_mul_eq_mul_left a3 (by rw [a1, a2])
            subst this
            exact h0.1 hb
        unfold List.Nodup
        rw [List.pairwise_map]
        exact h9
      · intro x hx
        obtain ⟨d, hd, rfl⟩ := List.mem_map.1 hx
        obtain ⟨a1, a2⟩ := hmem d hd
        refine (dsc_mem n 44 _).2 ⟨Nat.div_pos (Nat.le_of_dvd h1 a1) (by omega), ?_, Nat.mod_eq_zero_of_dvd (Nat.div_dvd_of_dvd a1)⟩
        have : n / d ≤ n / 45 := Nat.div_le_div_left a2 (by omega)
        omega
    rw [List.length_map] at hl
    rw [e, List.length_append]
    omega
theorem ways_two (l : List Nat) : ∀ s, ways l s ≤ 2 ^ l.length := by
  induction l with
  | nil => intro s; rw [ways]; split <;> simp
  | cons d ds ih =>
    intro s
    rw [ways, List.length_cons, Nat.pow_succ]
    have h1 := ih s
    by_cases hd : d ≤ s
    · rw [if_pos hd]; have := ih (s - d); omega
    · rw [if_neg hd]; omega
theorem pow_le44 {k : Nat} (h : k ≤ 44) : 2 ^ k ≤ 17592186044416 := Nat.le_trans (Nat.pow_le_pow_right (by omega) h) (by decide)
/-- a sum's numbers, the greatest ones first -/
def pick : List Nat → Nat → List Nat
  | [], _ => []
  | d :: ds, s => if d ≤ s ∧ 0 < ways ds (s - d) then d :: pick ds (s - d) else pick ds s
theorem pick_yes {d s : Nat} {ds : List Nat} (h : d ≤ s) (h2 : 0 < ways ds (s - d)) : pick (d :: ds) s = d :: pick ds (s - d) := by rw [pick, if_pos ⟨h, h2⟩]
theorem pick_no {d s : Nat} {ds : List Nat} (h : ¬ (d ≤ s ∧ 0 < ways ds (s - d))) : pick (d :: ds) s = pick ds s := by rw [pick, if_neg h]
theorem pick_sub (l : List Nat) : ∀ s, (pick l s).Sublist l := by
  induction l with
  | nil => intro s; exact .slnil
  | cons d ds ih =>
    intro s
    by_cases h : d ≤ s ∧ 0 < ways ds (s - d)
    · rw [pick_yes h.1 h.2]; exact (ih _).cons_cons d
    · rw [pick_no h]; exact (ih _).cons d
theorem pick_sum (l : List Nat) : ∀ {s}, 0 < ways l s → (pick l s).sum = s := by
  induction l with
  | nil => intro s h; rw [ways] at h; by_cases h0 : s = 0
           · subst h0; rfl
           · rw [if_neg h0] at h; omega
  | cons d ds ih =>
    intro s hw
    by_cases h : d ≤ s ∧ 0 < ways ds (s - d)
    · rw [pick_yes h.1 h.2, List.sum_cons, ih h.2]; omega
    · rw [pick_no h, ih]
      rw [ways] at hw
      by_cases hd : d ≤ s
      · rw [if_pos hd] at hw
        rcases Nat.eq_zero_or_pos (ways ds (s - d)) with h0 | h0
        · omega
        · exact absurd ⟨hd, h0⟩ h
      · rw [if_neg hd] at hw; omega
theorem pick_none (l : List Nat) : ∀ {s}, ways l s = 0 → pick l s = [] := by
  induction l with
  | nil => intro s _; rfl
  | cons d ds ih =>
    intro s hw
    rw [ways] at hw
    have h1 : ways ds s = 0 := by omega
    rw [pick_no, ih h1]
    rintro ⟨h2, h3⟩
    rw [if_pos h2] at hw
    omega
/-- each falling list of the numbers is a way -/
theorem ways_sub {xs l : List Nat} (h : xs.Sublist l) : 0 < ways l xs.sum := by
  induction h with
  | slnil => decide
  | cons d _ ih => rw [ways]; omega
  | @cons_cons xs ds d _ ih =>
    rw [List.sum_cons, ways, if_pos (by omega), show d + xs.sum - d = xs.sum from by omega]
    omega
end Go.Proofs.Ytbjblkfibinenad
