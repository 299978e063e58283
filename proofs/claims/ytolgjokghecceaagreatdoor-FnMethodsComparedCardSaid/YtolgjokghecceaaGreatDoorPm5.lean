import Derived.Test.YtolgjokghecceaaGreatDoorPk40
import Derived.Test.YtolgjokghecceaaGreatDoorPk9
import Derived.Test.YtolgjokghecceaaGreatDoorPm2
import Derived.Test.YtolgjokghecceaaGreatDoorPm3
import Derived.Test.YtolgjokghecceaaGreatDoorPm4

/-
  Plain facts: the rounds that replace numbers keep the sum; pairs never make more numbers, splits never fewer.
-/
namespace Go.Proofs.YtolgjokghecceaaGreatDoor
open Go.RowKit
theorem sumQ_permT {xs ys : List Int} (h : xs.Perm ys) : sumQ xs = sumQ ys := by
  induction h with
  | nil => rfl
  | cons x _ ih => simp only [sumQ, ih]
  | swap x y l => simp only [sumQ]; grind
  | trans _ _ ih1 ih2 => exact ih1.trans ih2
/-- what comes has the sum of what goes -/
def KeepQ (g : Int → Nat × List Int) : Prop := ∀ d, 1 ≤ d → ((g d).1 : Rat) * (1 / (d : Rat)) = sumQ (g d).2
theorem repS_q : KeepQ repS := fun d hd => by
  have h1 := ne0 hd
  have h2 := ne0 (show 1 ≤ d + 1 by omega)
  simp only [repS, sumQ, Rat.intCast_mul, Rat.intCast_add] at h2 ⊢
  grind
theorem repP_q : KeepQ repP := fun d hd => by
  by_cases he : d % 2 = 0
  · obtain ⟨k, rfl⟩ : ∃ k, d = 2 * k := ⟨d / 2, by omega⟩
    have e : repP (2 * k) = (2, [k]) := by unfold repP; rw [if_pos he]; congr 2; omega
    have h1 := ne0 (show 1 ≤ k by omega)
    rw [e]
    simp only [sumQ, Rat.intCast_mul]
    grind
  · obtain ⟨k, rfl⟩ : ∃ k, d = 2 * k + 1 := ⟨d / 2, by omega⟩
    have hp : (2 * k + 1) * (2 * k + 1 + 1) / 2 = (2 * k + 1) * (k + 1) := by
      rw [show (2 * k + 1) * (2 * k + 1 + 1) = 2 * ((2 * k + 1) * (k + 1)) by grind]
      exact Int.mul_ediv_cancel_left _ (by decide)
    have e : repP (2 * k + 1) = (2, [k + 1, (2 * k + 1) * (k + 1)]) := by unfold repP; rw [if_neg he, hp, show (2 * k + 1 + 1) / 2 = k + 1 by omega]
    have h1 := ne0 (show 1 ≤ k + 1 by omega)
    have h2 := ne0 (show 1 ≤ 2 * k + 1 by omega)
    rw [e]
    simp only [sumQ, Rat.intCast_mul, Rat.intCast_add] at h1 h2 ⊢
    grind
theorem round_sum {g : Int → Nat × List Int} (hg : GoodG g) (hq : KeepQ g) {xs : List Int} {i : Nat} (hx : ∀ x ∈ xs, 1 ≤ x) (ht : tw xs = some i) : sumQ (roundL g xs i) = sumQ xs := by
  obtain ⟨d, hd, hd2⟩ := tw_at ht
  have h1 := hx d (List.mem_of_getElem? hd)
  have hk := hq d h1
  have a1 := hg.one d
  have a2 := hg.two d
  have e0 : sumQ xs = sumQ (xs.take i) + sumQ (xs.drop i) := by rw [← sumQ_append, List.take_append_drop]
  rw [round_at hd, sumQ_permT (srt_perm _), sumQ_append, sumQ_append, e0, ← hk]
  generalize hm : (g d).1 = m at *
  rcases (by omega : m = 1 ∨ m = 2) with rfl | rfl
  · rw [drop_at hd]
    simp only [sumQ]
    grind
  · rw [drop_at hd, drop_at hd2]
    simp only [sumQ]
    grind
theorem round_len {g : Int → Nat × List Int} (hg : GoodG g) {xs : List Int} {i : Nat} {d : Int} (hd : xs[i]? = some d) (hi : i + 1 < xs.length) : (roundL g xs i).length + (g d).1 = xs.length + (g d).2.length := by
  have a1 := hg.one d
  have a2 := hg.two d
  rw [round_at hd, srt_len, List.length_append, List.length_append, List.length_take, List.length_drop]
  omega
theorem rounds_sum {g : Int → Nat × List Int} (hg : GoodG g) (hq : KeepQ g) : ∀ {k : Nat} {xs ys : List Int}, (∀ x ∈ xs, 1 ≤ x ∧ x ≤ 1000000000) → rounds g k xs = some ys → sumQ ys = sumQ xs ∧ ((∀ d, (g d).2.length ≤ (g d).1) → ys.length ≤ xs.length) ∧ ((∀ d, (g d).1 ≤ (g d).2.length) → xs.length ≤ ys.length)
  | k, xs, ys, hx, hr => by
    cases ht : tw xs with
    | none =>
      rw [rounds_done ht] at hr
      injection hr with hr
      subst hr
      exact ⟨rfl, fun _ => Nat.le_refl _, fun _ => Nat.le_refl _⟩
    | some i =>
      obtain ⟨d, hd, hd2⟩ := tw_at ht
      have hi : i + 1 < xs.length := (List.getElem?_eq_some_iff.1 hd2).1
      cases k with
      | zero => rw [rounds_out ht] at hr; cases hr
      | succ k =>
        cases hs : small (roundL g xs i) with
        | false => rw [rounds_big ht hs] at hr; cases hr
        | true =>
          rw [rounds_on ht hs] at hr
          have hl := round_len hg hd hi
          obtain ⟨b1, b2, b3⟩ := rounds_sum hg hq (k := k) (round_in hg.lo (fun x h => (hx x h).1) ht hs) hr
          exact ⟨b1.trans (round_sum hg hq (fun x h => (hx x h).1) ht), fun h => by have := b2 h; have := h d; omega, fun h => by have := b3 h; have := h d; omega⟩
theorem repL_sum {n d : Int} (hn : 0 ≤ n) (hd : 1 ≤ d) : sumQ (repL n d) = rq n d := by
  obtain ⟨k, rfl⟩ := Int.eq_ofNat_of_zero_le hn
  have h1 := ne0 hd
  unfold repL rq
  rw [Int.toNat_natCast]
  induction k with
  | zero => simp [sumQ]; grind
  | succ k ih =>
    rw [List.replicate_succ]
    simp only [sumQ]
    rw [ih (by omega)]
    simp only [Int.natCast_add, Rat.intCast_add]
    grind
/-- of each expansion by rounds -/
structure TwB (n d : Int) (xs : List Int) : Prop where
  pro : proB n d = true
  exp : expB xs = true
  sum : eN xs = n ∧ eD xs = d
  l24 : xs.length ≤ 24
  x64 : In64 xs
theorem twE_back {g : Int → Nat × List Int} (hg : GoodG g) (hq : KeepQ g) {n d : Int} {xs : List Int} (h : twE g n d = some xs) : TwB n d xs ∧ ((∀ d, (g d).2.length ≤ (g d).1) → (xs.length : Int) ≤ n) ∧ ((∀ d, (g d).1 ≤ (g d).2.length) → n ≤ (xs.length : Int)) := by
  cases hp : proB n d with
  | false => rw [twE_not hp] at h; cases h
  | true =>
    by_cases hn : n ≤ 24
    · obtain ⟨n1, n2, d1, d2, hnd, hgd, _, _⟩ := proB_bounds hp
      rw [twE_on hp hn] at h
      cases hr : rounds g 300 (repL n d) with
      | none => rw [hr] at h; cases h
      | some ys =>
        rw [hr] at h
        have hl : (repL n d).length = n.toNat := by unfold repL; rw [List.length_replicate]
        obtain ⟨b1, b2, b3⟩ := rounds_sum hg hq (fun x hx => by have := List.eq_of_mem_replicate hx; omega) hr
        cases hx : expB (srt ys) with
        | false => rw [exO_no hx] at h; cases h
        | true =>
          rw [exO_yes hx] at h
          injection h with h
          subst h
          have hs := sum_q hx
          rw [sumQ_permT (srt_perm _), b1, repL_sum (by omega) (by omega)] at hs
          obtain ⟨a, b⟩ := good_same (good_sum hx) hgd hs
          refine ⟨⟨hp, hx, ⟨by rw [eN, if_pos hx, a], by rw [eD, if_pos hx, b]⟩, expB_len hx, In64.of_mem fun x h => by have := expB_small hx x h; omega⟩, fun h => ?_, fun h => ?_⟩
          · have := b2 h; rw [srt_len]; omega
          · have := b3 h; rw [srt_len]; omega
    · rw [twE_many hn] at h; cases h
theorem repP_few : ∀ d, (repP d).2.length ≤ (repP d).1 := fun d => by unfold repP; split <;> simp
theorem repS_more : ∀ d, (repS d).1 ≤ (repS d).2.length := fun d => by unfold repS; simp
end Go.Proofs.YtolgjokghecceaaGreatDoor


/-
  Every expansion by a method that is compared has the fraction as its sum; the best one is one of them, with the fewest terms.
-/
namespace Go.Proofs.YtolgjokghecceaaGreatDoor
open Go.RowKit
structure MsB (n d : Int) (xs : List Int) : Prop where
  exp : expB xs = true
  sum : eN xs = n ∧ eD xs = d
  l24 : xs.length ≤ 24
  x64 : In64 xs
theorem MsB.mk' {n d : Int} {xs : List Int} (h : expB xs = true) (s : eN xs = n ∧ eD xs = d) : MsB n d xs :=
  ⟨h, s, expB_len h, In64.of_mem fun x hx => by have := expB_small h x hx; omega⟩
theorem msO_back {k : Nat} {n d : Int} {xs : List Int} (hp : proB n d = true) (h : msO k n d = some xs) : MsB n d xs := by
  unfold msO at h
  split at h
  · have := gexO_back h; exact .mk' this.exp this.sum
  · have := gxO_back h; exact .mk' this.exp this.sum
  · obtain ⟨zs, h1, rfl, hx⟩ := pexO_exp (o := biO n d) h
    injection h1 with h1
    subst h1
    exact .mk' hx (bL_exp hp hx)
  · obtain ⟨zs, h1, rfl, hx⟩ := pexO_exp (o := faO n d) h
    unfold faO at h1
    cases hf : fdO n d with
    | none => rw [hf] at h1; cases h1
    | some ds =>
      have F := fdO_back hf
      rw [F.told] at h
      injection h with h
      rw [← h]
      exact .mk' F.exp F.sum
  · have := (twE_back repP_good repP_q h).1; exact .mk' this.exp this.sum
  · unfold etO at h
    cases he : engO n d with
    | none => rw [he] at h; cases h
    | some es =>
      obtain ⟨ps, E⟩ := engO_back he
      have e := E.terms
      unfold etO at e
      rw [e] at h
      injection h with h
      rw [← h]
      exact .mk' E.exp E.sum
theorem msL_back {k : Nat} {n d : Int} (hp : proB n d = true) (h : 0 < (msL k n d).length) : MsB n d (msL k n d) := by
  unfold msL at h ⊢
  cases ho : msO k n d with
  | none => rw [ho] at h; simp at h
  | some xs => exact msO_back hp ho
theorem beL_back {n d : Int} (hp : proB n d = true) : ∀ k, 0 < (beL n d k).length → MsB n d (beL n d k)
  | 0, h => by simp [beL] at h
  | k + 1, h => by
    rw [beL] at h ⊢
    split
    · rename_i hc; exact msL_back hp hc.1
    · rename_i hc; rw [if_neg hc] at h; exact beL_back hp k h
theorem beL_least {n d : Int} : ∀ k j, j < k → 0 < (msL j n d).length → 0 < (beL n d k).length ∧ (beL n d k).length ≤ (msL j n d).length
  | 0, j, hj, _ => by omega
  | k + 1, j, hj, h => by
    rw [beL]
    split
    · rename_i hc
      refine ⟨hc.1, ?_⟩
      rcases Nat.lt_succ_iff_lt_or_eq.1 hj with hj | rfl
      · have := beL_least k j hj h
        rcases hc.2 with h0 | h0 <;> omega
      · exact Nat.le_refl _
    · rename_i hc
      rcases Nat.lt_succ_iff_lt_or_eq.1 hj with hj | rfl
      · exact beL_least k j hj h
      · constructor <;> omega
theorem beL_some {n d : Int} : ∀ k, 0 < (beL n d k).length → ∃ j, j < k ∧ 0 < (msL j n d).length
  | 0, h => by simp [beL] at h
  | k + 1, h => by
    rw [beL] at h
    split at h
    · rename_i hc; exact ⟨k, by omega, hc.1⟩
    · obtain ⟨j, h1, h2⟩ := beL_some k h; exact ⟨j, by omega, h2⟩
end Go.Proofs.YtolgjokghecceaaGreatDoor
