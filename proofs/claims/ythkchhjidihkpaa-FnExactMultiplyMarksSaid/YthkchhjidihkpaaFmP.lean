
/-
  Plain facts on lists of marks and rows of doublings.
-/
import Derived.Test.YthkchhjidihkpaaMkS
namespace Go.Proofs.Ythkchhjidihkpaa
open Go.RowKit
theorem natL_ints (l : List Nat) : natL (ints l) = l := by
  unfold natL ints
  rw [List.map_map]
  have : (Int.toNat ∘ fun x : Nat => (x : Int)) = id := by funext x; simp
  rw [this, List.map_id]
theorem ints_natL {xs : List Int} (h : ∀ x ∈ xs, 0 ≤ x) : ints (natL xs) = xs := by
  unfold natL ints
  rw [List.map_map]
  conv => rhs; rw [← List.map_id xs]
  exact List.map_congr_left fun x hx => by have := h x hx; simp; omega
theorem rise_mem0 {lo hi : Int} : ∀ {xs : List Int} {p : Option Int}, rise lo hi p xs = true → ∀ x ∈ xs, lo ≤ x ∧ x ≤ hi
  | [], _, _, x, hx => by simp at hx
  | t :: ts, p, h, x, hx => by
    unfold rise at h
    simp only [Bool.and_eq_true, decide_eq_true_eq] at h
    rcases List.mem_cons.1 hx with rfl | hx
    · exact ⟨h.1.1.1, h.1.1.2⟩
    · exact rise_mem0 h.2 x hx
theorem rise_of : ∀ {ls : List Nat} {p : Option Int}, ls.Pairwise (· < ·) → (∀ x ∈ ls, x < 20) → (∀ q, p = some q → ∀ x ∈ ls, q < (x : Int)) → rise 0 19 p (ints ls) = true
  | [], p, _, _, _ => by simp [ints, rise_nil]
  | l :: ls, p, hp, h, hq => by
    rw [List.pairwise_cons] at hp
    have hl := h l (by simp)
    have ih := rise_of (ls := ls) (p := some (l : Int)) hp.2 (fun x hx => h x (by simp [hx])) (fun q e x hx => by injection e with e; subst e; have := hp.1 x hx; omega)
    show rise 0 19 p ((l : Int) :: ints ls) = true
    cases p with
    | none => rw [rise_first (by omega) (by omega)]; exact ih
    | some q => rw [rise_next (by omega) (by omega) (hq q rfl l (by simp))]; exact ih
/-- what a list of marks is -/
theorem rise_nat {xs : List Int} (h : rise 0 19 none xs = true) : (natL xs).Pairwise (· < ·) ∧ (∀ x ∈ natL xs, x < 20) ∧ ints (natL xs) = xs ∧ atB xs = true := by
  have hin := rise_mem0 h
  have hr : Rising xs := (rise_rising h).1
  have hp : (natL xs).Pairwise (· < ·) := by
    unfold natL
    rw [List.pairwise_map]
    exact List.Pairwise.imp_of_mem (fun {a b} ha hb hab => by have := hin a ha; have := hin b hb; omega) hr
  have hm : ∀ x ∈ natL xs, x < 20 := fun x hx => by
    obtain ⟨y, hy, rfl⟩ := List.mem_map.1 hx
    have := hin y hy
    omega
  refine ⟨hp, hm, ints_natL fun x hx => (hin x hx).1, ?_⟩
  have hl : xs.length ≤ 20 := by
    have := (pw_mk hp hm).2
    have h2 := mk_len (pw (natL xs))
    rw [this, natL_len] at h2
    exact h2
  unfold atB
  rw [decide_eq_true hl, Bool.true_and]
  exact List.all_eq_true.2 fun x hx => by have := hin x hx; simp; omega
def fmB (xs : List Int) : Bool := rise 0 19 none xs && decide (pw (natL xs) ≤ 1000000)
def fmZ (xs : List Int) : Int := if fmB xs = true then ((pw (natL xs) : Nat) : Int) else 0
theorem fm_no {xs : List Int} (h : fmB xs = false) : fmZ xs = 0 := by unfold fmZ; rw [h]; rfl
theorem fm_yes {xs : List Int} (h : fmB xs = true) : fmZ xs = ((pw (natL xs) : Nat) : Int) := by unfold fmZ; rw [if_pos h]
theorem fm_rise {xs : List Int} (h : rise 0 19 none xs = false) : fmB xs = false := by unfold fmB; rw [h]; rfl
theorem fm_big {xs : List Int} (h : ¬ pw (natL xs) ≤ 1000000) : fmB xs = false := by unfold fmB; rw [decide_eq_false h, Bool.and_false]
theorem fm_in {xs : List Int} (h : pw (natL xs) ≤ 1000000) : fmB xs = rise 0 19 none xs := by unfold fmB; rw [decide_eq_true h, Bool.and_true]
theorem at_in {xs : List Int} (h : atB xs = true) : xs.length ≤ 20 ∧ (∀ x ∈ xs, 0 ≤ x ∧ x < 20) ∧ (∀ x ∈ natL xs, x < 20) ∧ ints (natL xs) = xs := by
  unfold atB ixB at h
  simp only [Bool.and_eq_true, decide_eq_true_eq] at h
  have hin : ∀ x ∈ xs, 0 ≤ x ∧ x < 20 := fun x hx => by have := List.all_eq_true.1 h.2 x hx; simpa using this
  refine ⟨h.1, hin, fun x hx => ?_, ints_natL fun x hx => (hin x hx).1⟩
  obtain ⟨y, hy, rfl⟩ := List.mem_map.1 hx
  have := hin y hy
  omega
/-- the numbers of a row of doublings -/
theorem atL_dbl {a : Nat} {ls : List Nat} (h : ∀ x ∈ ls, x < 20) : atL (dblR a 20) ls = ls.map (fun i => ((a * 2 ^ i : Nat) : Int)) := by
  unfold atL
  exact List.map_congr_left fun x hx => by rw [List.getD, dblR_at (h x hx)]; rfl
theorem sumI_map (a : Nat) : ∀ ls : List Nat, sumI (ls.map (fun i => ((a * 2 ^ i : Nat) : Int))) = ((a * pw ls : Nat) : Int)
  | [] => by simp [sumI, pw]
  | l :: ls => by
    rw [List.map_cons, sumI, sumI_map a ls, pw_cons, Nat.mul_add]
    omega
theorem sumI_at {a : Nat} {ls : List Nat} (h : ∀ x ∈ ls, x < 20) : sumI (atR (dblR a 20) ls) = ((a * pw ls : Nat) : Int) := by
  unfold atR
  rw [sumI_append, sumI_zero, atL_dbl h, sumI_map]
  omega
theorem atR_in {a : Nat} {ls : List Nat} (ha : a ≤ 1000000) (h : ∀ x ∈ ls, x < 20) : ∀ x ∈ atR (dblR a 20) ls, 0 ≤ x ∧ x ≤ 1000000000000 := fun x hx => by
  unfold atR at hx
  rw [atL_dbl h] at hx
  rcases List.mem_append.1 hx with hx | hx
  · obtain ⟨i, hi, rfl⟩ := List.mem_map.1 hx
    have := shl_nat (h i hi) ha
    omega
  · have := List.eq_of_mem_replicate hx
    omega
/-- rows with the same numbers are of the same marks -/
theorem row_inj {ls ms : List Nat} (h1 : ∀ x ∈ ls, x < 20) (h2 : ∀ x ∈ ms, x < 20) (h : atR (dblR 1 20) ls = atR (dblR 1 20) ms) : ls = ms := by
  have key : ∀ {l : List Nat}, (∀ x ∈ l, x < 20) → (atR (dblR 1 20) l).filter (fun x => decide (x ≠ 0)) = l.map (fun i => ((1 * 2 ^ i : Nat) : Int)) := by
    intro l hl
    unfold atR
    rw [atL_dbl hl, List.filter_append]
    have e1 : (l.map (fun i => ((1 * 2 ^ i : Nat) : Int))).filter (fun x => decide (x ≠ 0)) = l.map (fun i => ((1 * 2 ^ i : Nat) : Int)) := by
      rw [List.filter_eq_self]
      intro x hx
      obtain ⟨i, _, rfl⟩ := List.mem_map.1 hx
      have := Nat.two_pow_pos i
      have h0 : ((1 * 2 ^ i : Nat) : Int) ≠ 0 := by rw [Nat.one_mul]; omega
      exact decide_eq_true h0
    have e2 : (List.replicate (20 - l.length) (0 : Int)).filter (fun x => decide (x ≠ 0)) = [] := by
      rw [List.filter_eq_nil_iff]
      intro x hx
      have := List.eq_of_mem_replicate hx
      simp [this]
    rw [e1, e2, List.append_nil]
  have h3 := key h1
  rw [h, key h2] at h3
  refine (List.map_inj_right (f := fun i : Nat => ((1 * 2 ^ i : Nat) : Int)) (fun x y e => ?_)).1 h3.symm
  have : (2 : Nat) ^ x = 2 ^ y := by omega
  exact (Nat.pow_right_inj (by omega)).1 this
theorem mk_at (n : Nat) : atB (ints (mk n)) = true := by
  unfold atB ixB
  rw [decide_eq_true (by rw [ints_len]; exact mk_len n), Bool.true_and]
  exact List.all_eq_true.2 fun x hx => by
    obtain ⟨i, hi, rfl⟩ := List.mem_map.1 hx
    have := mk_mem hi
    simp; omega
/-- marks are those of their number -/
theorem fm_iff {xs : List Int} (h : atB xs = true) (hs : pw (natL xs) ≤ 1000000) : fmB xs = decide (atR (dblR 1 20) (natL xs) = atR (dblR 1 20) (mk (pw (natL xs)))) := by
  obtain ⟨_, _, h3, h4⟩ := at_in h
  rw [fm_in hs]
  cases hr : rise 0 19 none xs with
  | true =>
    obtain ⟨a, b, _, _⟩ := rise_nat hr
    rw [(pw_mk a b).2]
    simp
  | false =>
    rw [eq_comm, decide_eq_false_iff_not]
    intro e
    have e2 := row_inj h3 (fun x hx => mk_mem hx) e
    have : rise 0 19 none (ints (mk (pw (natL xs)))) = true := rise_of (mk_rise _) (fun x hx => mk_mem hx) (fun q e => by cases e)
    rw [← e2, h4, hr] at this
    cases this
end Go.Proofs.Ythkchhjidihkpaa
