import Derived.Test.YtbjblkfibinenadGreatDoorPk25
import Derived.Test.YtbjblkfibinenadGreatDoorPk9
import Derived.Test.YtbjblkfibinenadGreatDoorPk26
import Derived.Test.YtbjblkfibinenadGreatDoorPk31

/-
  Plain facts: what Engel and Pierce lists stand for as rational numbers, and that each such number has one list.
-/
namespace Go.Proofs.YtbjblkfibinenadGreatDoor
open Go.RowKit
theorem div_lt' {a b u : Rat} (hu : 0 < u) (h : a < b) : a / u < b / u := by
  have : 0 < u⁻¹ := Rat.inv_pos.2 hu
  rw [Rat.div_def, Rat.div_def]
  exact Rat.mul_lt_mul_of_pos_right h this
theorem div_le' {a b u : Rat} (hu : 0 < u) (h : a ≤ b) : a / u ≤ b / u := by
  have : 0 < u⁻¹ := Rat.inv_pos.2 hu
  rw [Rat.div_def, Rat.div_def]
  exact Rat.mul_le_mul_of_nonneg_right h (by grind)
theorem cast_pos {u : Int} (h : 1 ≤ u) : (0 : Rat) < (u : Rat) := by exact_mod_cast (by omega : (0 : Int) < u)
theorem cast_le {u v : Int} (h : u ≤ v) : (u : Rat) ≤ (v : Rat) := by exact_mod_cast h
/-- what an Engel list stands for -/
def engQ : List Int → Rat
  | [] => 0
  | u :: us => (1 + engQ us) / (u : Rat)
theorem engQ_nonneg : ∀ {us : List Int}, (∀ x ∈ us, 1 ≤ x) → 0 ≤ engQ us
  | [], _ => by simp [engQ]
  | u :: us, h => by
    have h1 := cast_pos (h u (by simp))
    have h2 := engQ_nonneg (us := us) (fun x hx => h x (by simp [hx]))
    have h3 := div_le' h1 (by grind : (0 : Rat) ≤ 1 + engQ us)
    rw [Rat.div_def, Rat.zero_mul] at h3
    exact h3
theorem engQ_prod : ∀ {xs ps : List Int} {p : Int}, 1 ≤ p → (∀ x ∈ xs, 1 ≤ x) → prodL p xs = some ps → sumQ ps = engQ xs / (p : Rat)
  | [], ps, p, hp, _, h => by
    simp [prodL] at h
    subst h
    have := ne0 hp
    simp only [sumQ, engQ]
    grind
  | x :: xs, ps, p, hp, hx, h => by
    have h1 := hx x (by simp)
    by_cases hle : p * x ≤ 1000000000
    · rw [prodL_yes hle] at h
      cases hr : prodL (p * x) xs with
      | none => rw [hr] at h; cases h
      | some qs =>
        rw [hr] at h
        injection h with h
        subst h
        have ih := engQ_prod (mul_pos1 hp h1) (fun x hx' => hx x (by simp [hx'])) hr
        have n1 := ne0 hp
        have n2 := ne0 h1
        simp only [sumQ, engQ, ih, Rat.intCast_mul]
        grind
    · rw [prodL_no hle] at h; cases h
/-- an Engel list: its fraction is what it stands for -/
theorem eng_q {xs : List Int} (h : engB xs = true) : goodB (engN xs) (engD xs) = true ∧ rq (engN xs) (engD xs) = engQ xs := by
  obtain ⟨h1, h2, h3⟩ := engB_parts h
  have hx : ∀ x ∈ xs, 1 ≤ x := fun x hx => by have := (up_in (by omega) h2 x hx).1; omega
  unfold engS at h3
  cases hp : prodL 1 xs with
  | none => rw [hp] at h3; cases h3
  | some ps =>
    rw [hp] at h3
    have h4 : sumL 0 1 ps = some (engN xs, engD xs) := h3
    have h5 := prodL_in (by omega) hx hp
    have h6 := sumL_q (by omega : (1 : Int) ≤ 1) (fun x hx => (h5 x hx).1) h4
    have h7 := engQ_prod (by omega) hx hp
    refine ⟨sumL_good good_zero (fun i x hx => h5 x (List.mem_of_getElem? hx)) h4, ?_⟩
    rw [h6.1, h7]
    unfold rq
    simp only [Rat.intCast_zero, Rat.intCast_one]
    grind
theorem engQ_less : ∀ {u : Int} {us : List Int}, 2 ≤ u → up 0 u us = true → engQ us < engQ (u :: us)
  | u, [], hu, _ => by
    have h1 := cast_pos (by omega : 1 ≤ u)
    have := div_lt' h1 (by grind : (0 : Rat) < 1 + 0)
    rw [Rat.div_def, Rat.zero_mul] at this
    simpa [engQ] using this
  | u, v :: vs, hu, h => by
    by_cases hv : u ≤ v ∧ v ≤ 1000000000
    · rw [up_yes hv.1 hv.2, Int.add_zero] at h
      have ih := engQ_less (by omega : 2 ≤ v) h
      have hn := engQ_nonneg (us := vs) (fun x hx => by have := (up_in (by omega) h x hx).1; omega)
      have h1 := cast_pos (by omega : 1 ≤ u)
      have h2 := cast_pos (by omega : 1 ≤ v)
      have h3 := cast_le hv.1
      have a1 : (1 + engQ vs) / (v : Rat) ≤ (1 + engQ vs) / (u : Rat) := by
        have e1 : (1 + engQ vs) / (v : Rat) * (v : Rat) = 1 + engQ vs := by grind
        have hq : 0 ≤ (1 + engQ vs) / (v : Rat) := engQ_nonneg (us := v :: vs) (fun x hx => by
          rcases List.mem_cons.1 hx with rfl | hx
          · omega
          · have := (up_in (by omega) h x hx).1; omega)
        have e2 := Rat.mul_le_mul_of_nonneg_left h3 hq
        rw [e1] at e2
        have e3 := div_le' h1 e2
        have e4 : (1 + engQ vs) / (v : Rat) * (u : Rat) / (u : Rat) = (1 + engQ vs) / (v : Rat) := by grind
        rw [e4] at e3
        exact e3
      have a2 := div_lt' h1 (by grind : 1 + engQ vs < 1 + engQ (v :: vs))
      show engQ (v :: vs) < (1 + engQ (v :: vs)) / (u : Rat)
      have a3 : engQ (v :: vs) = (1 + engQ vs) / (v : Rat) := rfl
      grind
    · rw [up_no hv] at h; cases h
theorem rq01 : rq 0 1 = 0 := by unfold rq; simp only [Rat.intCast_zero, Rat.intCast_one]; grind
theorem engQ_one : ∀ {us : List Int}, (∀ x ∈ us, 2 ≤ x) → engQ us < 1
  | [], _ => by simp only [engQ]; grind
  | u :: us, h => by
    have hu := h u (by simp)
    have ih := engQ_one (us := us) (fun x hx => h x (by simp [hx]))
    have h1 := cast_pos (by omega : 1 ≤ u)
    have h2 := cast_le hu
    have a := div_lt' h1 (by grind : 1 + engQ us < (u : Rat))
    have e : (u : Rat) / (u : Rat) = 1 := by grind
    rw [e] at a
    exact a
theorem lt_rq {n d m e : Int} (hd : 1 ≤ d) (he : 1 ≤ e) (h : rq n d < rq m e) : n * e < m * d := by
  refine Int.not_le.1 fun hle => ?_
  have h1 := ne0 hd
  have h2 := ne0 he
  have p1 := cast_pos hd
  have p2 := cast_pos he
  have h3 : (m : Rat) * d ≤ (n : Rat) * e := by exact_mod_cast hle
  have h4 := div_le' p1 h3
  have h5 := div_le' p2 h4
  unfold rq at h
  have e1 : (m : Rat) * d / d / e = m / e := by grind
  have e2 : (n : Rat) * e / d / e = n / d := by grind
  grind
/-- what an Engel step leaves -/
theorem stE_q {n d : Int} (hg : goodB n d = true) (hn : 1 ≤ n) : rq (redN (n * ucd n d - d) d) (redD (n * ucd n d - d) d) = rq n d * (ucd n d : Rat) - 1 := by
  obtain ⟨_, _, d1, _⟩ := good_bounds hg
  obtain ⟨_, _, hb, _, _⟩ := stE_facts hg hn
  rw [redN_q d1 hb]
  have h1 := ne0 d1
  unfold rq
  simp only [Rat.intCast_sub, Rat.intCast_mul]
  grind
/-- an Engel walk gives back what it began with -/
theorem eng_walk : ∀ {k : Nat} {l n d : Int} {es : List (Int × Int × Int)}, goodB n d = true → walkR stE k l n d = some es → engQ (takenOf es) = rq n d ∧ (es.length : Int) ≤ n
  | 0, l, n, d, es, hg, h => by
    by_cases h0 : n ≤ 0
    · rw [walkR_end h0] at h
      injection h with h
      subst h
      have := good_bounds hg
      obtain rfl : n = 0 := by omega
      exact ⟨by simp [takenOf, engQ, rq]; grind, by simp⟩
    · rw [walkR_out (by omega)] at h; cases h
  | k + 1, l, n, d, es, hg, h => by
    by_cases h0 : n ≤ 0
    · rw [walkR_end h0] at h
      injection h with h
      subst h
      have := good_bounds hg
      obtain rfl : n = 0 := by omega
      exact ⟨by simp [takenOf, engQ, rq]; grind, by simp⟩
    · have hn : 0 < n := by omega
      obtain ⟨⟨u1, _⟩, _, _, hg', hl⟩ := stE_facts hg (by omega)
      rw [walkR_some hn (rfl : stE l n d = some (ucd n d, redN (n * ucd n d - d) d, redD (n * ucd n d - d) d))] at h
      cases hr : walkR stE k (ucd n d + 1) (redN (n * ucd n d - d) d) (redD (n * ucd n d - d) d) with
      | none => rw [hr] at h; cases h
      | some es' =>
        rw [hr] at h
        injection h with h
        subst h
        obtain ⟨a, b⟩ := eng_walk hg' hr
        have n1 := ne0 u1
        refine ⟨?_, by simp; omega⟩
        show (1 + engQ (takenOf es')) / (ucd n d : Rat) = rq n d
        rw [a, stE_q hg (by omega)]
        grind
/-- the walk from what an Engel list stands for takes that list -/
theorem eng_once : ∀ {xs : List Int} {k : Nat} {lo l n d : Int}, goodB n d = true → 2 ≤ lo → up 0 lo xs = true → rq n d = engQ xs → xs.length ≤ k → ∃ es, walkR stE k l n d = some es ∧ takenOf es = xs
  | [], k, lo, l, n, d, hg, _, _, hq, _ => by
    obtain ⟨_, _, d1, _⟩ := good_bounds hg
    have h1 : rq n d = rq 0 1 := by rw [hq]; simp [engQ, rq]; grind
    have := eq_rq d1 (by omega) h1
    exact ⟨[], walkR_end (by omega), rfl⟩
  | u :: us, 0, lo, l, n, d, _, _, _, _, hk => by simp at hk
  | u :: us, k + 1, lo, l, n, d, hg, hlo, hup, hq, hk => by
    by_cases hu : lo ≤ u ∧ u ≤ 1000000000
    · rw [up_yes hu.1 hu.2, Int.add_zero] at hup
      obtain ⟨n0, _, d1, _⟩ := good_bounds hg
      have hx : ∀ x ∈ us, 1 ≤ x := fun x hx => by have := (up_in (by omega) hup x hx).1; omega
      have hnn := engQ_nonneg hx
      have hless := engQ_less (by omega : 2 ≤ u) hup
      have nu := ne0 (by omega : 1 ≤ u)
      have nd := ne0 d1
      have hq2 : rq (n * u - d) d = engQ us := by
        have : rq n d * (u : Rat) = 1 + engQ us := by rw [hq]; simp only [engQ]; grind
        unfold rq at this ⊢
        simp only [Rat.intCast_sub, Rat.intCast_mul]
        grind
      have a1 : d ≤ n * u := by
        have : rq 0 1 ≤ rq (n * u - d) d := by rw [hq2, rq01]; exact hnn
        have := le_rq (by omega) d1 this
        omega
      have a2 : n * u - d < n := by
        have : rq (n * u - d) d < rq n d := by rw [hq2, hq]; exact hless
        have := lt_rq d1 d1 this
        exact Int.lt_of_mul_lt_mul_right this (by omega)
      have hn : 1 ≤ n := by omega
      have hu' := ucd_of hn d1 a1 (by omega)
      obtain ⟨_, _, _, hg', _⟩ := stE_facts hg hn
      have hq3 := stE_q hg hn
      rw [hu'] at hg' hq3
      have hs : stE l n d = some (u, redN (n * u - d) d, redD (n * u - d) d) := by unfold stE; rw [hu']
      obtain ⟨es, h1, h2⟩ := eng_once (k := k) (l := u + 1) hg' (by omega : 2 ≤ u) hup (by rw [hq3, hq]; simp only [engQ]; grind) (by simpa using hk)
      refine ⟨_, by rw [walkR_some (by omega) hs, h1]; rfl, ?_⟩
      show u :: takenOf es = u :: us
      rw [h2]
    · rw [up_no hu] at hup; cases hup
/-- the fraction of an Engel list is below 1, and its list is told again -/
theorem eng_again {xs : List Int} (h : engB xs = true) : engN xs < engD xs ∧ ∃ es, walkR stE 24 0 (engN xs) (engD xs) = some es ∧ takenOf es = xs := by
  obtain ⟨hg, hq⟩ := eng_q h
  obtain ⟨h1, h2, _⟩ := engB_parts h
  obtain ⟨_, _, d1, _⟩ := good_bounds hg
  refine ⟨?_, eng_once hg (by omega) h2 hq h1⟩
  have := engQ_one (us := xs) (fun x hx => (up_in (by omega) h2 x hx).1)
  rw [← hq] at this
  have h3 : rq (engN xs) (engD xs) < rq 1 1 := by
    have e : rq 1 1 = 1 := by unfold rq; simp only [Rat.intCast_one]; grind
    rw [e]; exact this
  have := lt_rq d1 (by omega) h3
  omega
/-- an Engel walk's list stands for where it began -/
theorem eng_back {k : Nat} {l n d : Int} {es : List (Int × Int × Int)} (hg : goodB n d = true) (hw : walkR stE k l n d = some es) (h : engB (takenOf es) = true) : engN (takenOf es) = n ∧ engD (takenOf es) = d ∧ (es.length : Int) ≤ n := by
  obtain ⟨a, b⟩ := eng_walk hg hw
  obtain ⟨hg2, hq⟩ := eng_q h
  obtain ⟨c, e⟩ := good_same hg2 hg (by rw [hq, a])
  exact ⟨c, e, b⟩

/- Pierce lists -/
def pieQ : List Int → Rat
  | [] => 0
  | u :: us => (1 - pieQ us) / (u : Rat)
def altQ : Bool → List Int → Rat
  | _, [] => 0
  | true, t :: ts => 1 / (t : Rat) + altQ false ts
  | false, t :: ts => - (1 / (t : Rat)) + altQ true ts
theorem altL_q : ∀ {ts : List Int} {s : Bool} {n d n' d' : Int}, goodB n d = true → (∀ x ∈ ts, 1 ≤ x ∧ x ≤ 1000000000) → altL s n d ts = some (n', d') → goodB n' d' = true ∧ rq n' d' = rq n d + altQ s ts
  | [], s, n, d, n', d', hg, _, h => by
    simp only [altL, Option.some.injEq, Prod.mk.injEq] at h
    obtain ⟨rfl, rfl⟩ := h
    refine ⟨hg, ?_⟩
    cases s <;> simp only [altQ] <;> grind
  | t :: ts, true, n, d, n', d', hg, ht, h => by
    obtain ⟨n0, n1, d1, d2⟩ := good_bounds hg
    have h1 := ht t (by simp)
    have p1 := mul_pos1 d1 h1.1
    have p2 : 0 ≤ n * t := Int.mul_nonneg n0 (by omega)
    cases hb : redB (n * t + d) (d * t) with
    | false => rw [altL_add_no hb] at h; cases h
    | true =>
      rw [altL_add hb] at h
      obtain ⟨a, b⟩ := altL_q (good_of_redB (by omega) p1 hb) (fun x hx => ht x (by simp [hx])) h
      refine ⟨a, ?_⟩
      rw [b, redN_q p1 hb]
      have e1 := ne0 d1
      have e2 := ne0 h1.1
      unfold rq
      simp only [altQ, Rat.intCast_add, Rat.intCast_mul]
      grind
  | t :: ts, false, n, d, n', d', hg, ht, h => by
    obtain ⟨n0, n1, d1, d2⟩ := good_bounds hg
    have h1 := ht t (by simp)
    have p1 := mul_pos1 d1 h1.1
    by_cases hc : d ≤ n * t ∧ redB (n * t - d) (d * t) = true
    · rw [altL_sub hc.1 hc.2] at h
      obtain ⟨a, b⟩ := altL_q (good_of_redB (by omega) p1 hc.2) (fun x hx => ht x (by simp [hx])) h
      refine ⟨a, ?_⟩
      rw [b, redN_q p1 hc.2]
      have e1 := ne0 d1
      have e2 := ne0 h1.1
      unfold rq
      simp only [altQ, Rat.intCast_sub, Rat.intCast_mul]
      grind
    · rw [altL_sub_no (fun h2 => by
        cases hb : redB (n * t - d) (d * t) with
        | false => rfl
        | true => exact absurd ⟨h2, hb⟩ hc)] at h
      cases h
theorem pieQ_prod : ∀ {xs ps : List Int} {p : Int}, 1 ≤ p → (∀ x ∈ xs, 1 ≤ x) → prodL p xs = some ps → altQ true ps = pieQ xs / (p : Rat) ∧ altQ false ps = - (pieQ xs / (p : Rat))
  | [], ps, p, hp, _, h => by
    simp [prodL] at h
    subst h
    have := ne0 hp
    simp only [altQ, pieQ]
    constructor <;> grind
  | x :: xs, ps, p, hp, hx, h => by
    have h1 := hx x (by simp)
    by_cases hle : p * x ≤ 1000000000
    · rw [prodL_yes hle] at h
      cases hr : prodL (p * x) xs with
      | none => rw [hr] at h; cases h
      | some qs =>
        rw [hr] at h
        injection h with h
        subst h
        obtain ⟨i1, i2⟩ := pieQ_prod (mul_pos1 hp h1) (fun x hx' => hx x (by simp [hx'])) hr
        have n1 := ne0 hp
        have n2 := ne0 h1
        simp only [altQ, pieQ, i1, i2, Rat.intCast_mul]
        constructor <;> grind
    · rw [prodL_no hle] at h; cases h
theorem pie_q {xs : List Int} (h : pieB xs = true) : goodB (pieN xs) (pieD xs) = true ∧ rq (pieN xs) (pieD xs) = pieQ xs := by
  obtain ⟨h1, h2, _, h3⟩ := pieB_parts h
  have hx : ∀ x ∈ xs, 1 ≤ x := fun x hx => (up_in (by omega) h2 x hx).1
  unfold pieS at h3
  cases hp : prodL 1 xs with
  | none => rw [hp] at h3; cases h3
  | some ps =>
    rw [hp] at h3
    have h4 : altL true 0 1 ps = some (pieN xs, pieD xs) := h3
    obtain ⟨a, b⟩ := altL_q good_zero (prodL_in (by omega) hx hp) h4
    refine ⟨a, ?_⟩
    rw [b, (pieQ_prod (by omega) hx hp).1]
    unfold rq
    simp only [Rat.intCast_zero, Rat.intCast_one]
    grind
/-- bounds of what rising numbers stand for -/
theorem pieQ_in : ∀ {us : List Int} {lo : Int}, 1 ≤ lo → up 1 lo us = true → 0 ≤ pieQ us ∧ pieQ us * (lo : Rat) ≤ 1 ∧ (us ≠ [] → 0 < pieQ us ∨ lo = 1)
  | [], lo, _, _ => ⟨by simp [pieQ], by simp only [pieQ]; grind, fun h => absurd rfl h⟩
  | u :: us, lo, hlo, h => by
    by_cases hu : lo ≤ u ∧ u ≤ 1000000000
    · rw [up_yes hu.1 hu.2] at h
      obtain ⟨a, b, _⟩ := pieQ_in (by omega : 1 ≤ u + 1) h
      have pu := cast_pos (by omega : 1 ≤ u)
      have hl := cast_le hu.1
      have hl1 := cast_pos hlo
      have b2 : pieQ us ≤ 1 := by
        have hge := cast_le (by omega : 1 ≤ u + 1)
        have := Rat.mul_le_mul_of_nonneg_left hge a
        simp only [Rat.intCast_one] at this
        grind
      have b3 : pieQ us < 1 := by
        have hge := cast_le (by omega : 2 ≤ u + 1)
        have := Rat.mul_le_mul_of_nonneg_left hge a
        have e2 : ((2 : Int) : Rat) = 2 := rfl
        rw [e2] at this
        grind
      have c1 : 0 < pieQ (u :: us) := by
        have := div_lt' pu (by grind : (0 : Rat) < 1 - pieQ us)
        rw [Rat.div_def, Rat.zero_mul] at this
        exact this
      refine ⟨by grind, ?_, fun _ => .inl c1⟩
      have c2 : pieQ (u :: us) * (u : Rat) = 1 - pieQ us := by
        have := ne0 (by omega : 1 ≤ u)
        simp only [pieQ]
        grind
      have c3 := Rat.mul_le_mul_of_nonneg_left hl (by grind : 0 ≤ pieQ (u :: us))
      grind
    · rw [up_no hu] at h; cases h
theorem pieQ_less {u : Int} {us : List Int} (hu : 1 ≤ u) (h : up 1 (u + 1) us = true) (hx : nextB (u :: us) = false) : pieQ us < pieQ (u :: us) := by
  have pu := cast_pos hu
  have nu := ne0 hu
  have key : pieQ us * ((u : Rat) + 1) < 1 := by
    cases us with
    | nil => simp only [pieQ]; grind
    | cons v vs =>
      by_cases hv : u + 1 ≤ v ∧ v ≤ 1000000000
      · rw [up_yes hv.1 hv.2] at h
        obtain ⟨a, _, c⟩ := pieQ_in (by omega : 1 ≤ v + 1) h
        have pv := cast_pos (by omega : 1 ≤ v)
        have nv := ne0 (by omega : 1 ≤ v)
        have e : pieQ (v :: vs) * (v : Rat) = 1 - pieQ vs := by simp only [pieQ]; grind
        have h0 : 0 ≤ pieQ (v :: vs) := (pieQ_in (by omega : 1 ≤ v) (by rw [up_yes (by omega) hv.2]; exact h)).1
        cases vs with
        | nil =>
          have hne : v ≠ u + 1 := by
            intro e
            simp only [nextB, e, decide_true] at hx
            cases hx
          have hlt : u + 2 ≤ v := by omega
          have h1 := Rat.mul_le_mul_of_nonneg_left (cast_le hlt) h0
          have e' : pieQ [v] * (v : Rat) = 1 := by simp only [pieQ]; grind
          rw [e'] at h1
          have hpos : 0 < pieQ [v] := by
            have := div_lt' pv (by grind : (0 : Rat) < 1 - 0)
            rw [Rat.div_def, Rat.zero_mul] at this
            exact this
          rw [Rat.intCast_add] at h1
          have e2 : ((2 : Int) : Rat) = 2 := rfl
          rw [e2] at h1
          grind
        | cons x xs =>
          have hp : 0 < pieQ (x :: xs) := by
            rcases c (by simp) with h | h
            · exact h
            · omega
          have h1 := Rat.mul_le_mul_of_nonneg_left (cast_le hv.1) h0
          rw [e, Rat.intCast_add, Rat.intCast_one] at h1
          grind
      · rw [up_no hv] at h; cases h
  show pieQ us < (1 - pieQ us) / (u : Rat)
  have h2 : pieQ us * (u : Rat) < 1 - pieQ us := by grind
  have h3 := div_lt' pu h2
  have e : pieQ us * (u : Rat) / (u : Rat) = pieQ us := by grind
  rw [e] at h3
  exact h3
theorem nextB_tail {u : Int} {us : List Int} (h : nextB (u :: us) = false) : nextB us = false := by
  match us, h with
  | [], _ => rfl
  | [_], _ => rfl
  | v :: x :: xs, h => exact h
theorem stP_q {n d : Int} (hg : goodB n d = true) (hn : 1 ≤ n) : rq (redN (d - n * (d / n)) d) (redD (d - n * (d / n)) d) = 1 - rq n d * ((d / n : Int) : Rat) := by
  obtain ⟨_, _, d1, _⟩ := good_bounds hg
  obtain ⟨_, _, hb, _, _⟩ := stP_facts hg hn
  rw [redN_q d1 hb]
  have h1 := ne0 d1
  unfold rq
  simp only [Rat.intCast_sub, Rat.intCast_mul]
  grind
theorem stP_pos {n d : Int} (hn : 1 ≤ n) (hnd : n ≤ d) : 1 ≤ d / n := by
  have := Int.ediv_le_ediv (a := n) (b := d) (c := n) (by omega) hnd
  rw [Int.ediv_self (by omega)] at this
  exact this
theorem pie_walk : ∀ {k : Nat} {l n d : Int} {es : List (Int × Int × Int)}, goodB n d = true → n ≤ d → walkR stP k l n d = some es → pieQ (takenOf es) = rq n d ∧ (es.length : Int) ≤ n
  | 0, l, n, d, es, hg, _, h => by
    by_cases h0 : n ≤ 0
    · rw [walkR_end h0] at h
      injection h with h
      subst h
      have := good_bounds hg
      obtain rfl : n = 0 := by omega
      exact ⟨by simp [takenOf, pieQ, rq]; grind, by simp⟩
    · rw [walkR_out (by omega)] at h; cases h
  | k + 1, l, n, d, es, hg, hnd, h => by
    by_cases h0 : n ≤ 0
    · rw [walkR_end h0] at h
      injection h with h
      subst h
      have := good_bounds hg
      obtain rfl : n = 0 := by omega
      exact ⟨by simp [takenOf, pieQ, rq]; grind, by simp⟩
    · have hn : 0 < n := by omega
      obtain ⟨_, ⟨hr0, hr1⟩, hb, hg', hl⟩ := stP_facts hg (by omega)
      have hgb := good_bounds hg
      have u1 := stP_pos (by omega : 1 ≤ n) hnd
      rw [walkR_some hn (rfl : stP l n d = some (d / n, redN (d - n * (d / n)) d, redD (d - n * (d / n)) d))] at h
      cases hr : walkR stP k (d / n + 1) (redN (d - n * (d / n)) d) (redD (d - n * (d / n)) d) with
      | none => rw [hr] at h; cases h
      | some es' =>
        rw [hr] at h
        injection h with h
        subst h
        have hle : redN (d - n * (d / n)) d ≤ redD (d - n * (d / n)) d := by
          obtain ⟨hc, hd'⟩ := red_cross hgb.2.2.1 hb
          have h1 : (d - n * (d / n)) * redD (d - n * (d / n)) d ≤ d * redD (d - n * (d / n)) d := Int.mul_le_mul_of_nonneg_right (by omega) (by omega)
          rw [← hc, Int.mul_comm d] at h1
          exact Int.le_of_mul_le_mul_right h1 (by omega)
        obtain ⟨a, b⟩ := pie_walk hg' hle hr
        have n1 := ne0 u1
        refine ⟨?_, by simp; omega⟩
        show (1 - pieQ (takenOf es')) / ((d / n : Int) : Rat) = rq n d
        rw [a, stP_q hg (by omega)]
        grind
theorem pie_once : ∀ {xs : List Int} {k : Nat} {lo l n d : Int}, goodB n d = true → 1 ≤ lo → up 1 lo xs = true → nextB xs = false → rq n d = pieQ xs → xs.length ≤ k → ∃ es, walkR stP k l n d = some es ∧ takenOf es = xs
  | [], k, lo, l, n, d, hg, _, _, _, hq, _ => by
    obtain ⟨_, _, d1, _⟩ := good_bounds hg
    have h1 : rq n d = rq 0 1 := by rw [hq]; simp [pieQ, rq]; grind
    have := eq_rq d1 (by omega) h1
    exact ⟨[], walkR_end (by omega), rfl⟩
  | u :: us, 0, lo, l, n, d, _, _, _, _, _, hk => by simp at hk
  | u :: us, k + 1, lo, l, n, d, hg, hlo, hup, hnx, hq, hk => by
    by_cases hu : lo ≤ u ∧ u ≤ 1000000000
    · rw [up_yes hu.1 hu.2] at hup
      obtain ⟨n0, _, d1, _⟩ := good_bounds hg
      have hnn := (pieQ_in (by omega : 1 ≤ u + 1) hup).1
      have hless := pieQ_less (by omega : 1 ≤ u) hup hnx
      have nu := ne0 (by omega : 1 ≤ u)
      have nd := ne0 d1
      have hq2 : rq (d - n * u) d = pieQ us := by
        have : rq n d * (u : Rat) = 1 - pieQ us := by rw [hq]; simp only [pieQ]; grind
        unfold rq at this ⊢
        simp only [Rat.intCast_sub, Rat.intCast_mul]
        grind
      have a1 : n * u ≤ d := by
        have : rq 0 1 ≤ rq (d - n * u) d := by rw [hq2, rq01]; exact hnn
        have := le_rq (by omega) d1 this
        omega
      have a2 : d - n * u < n := by
        have : rq (d - n * u) d < rq n d := by rw [hq2, hq]; exact hless
        have := lt_rq d1 d1 this
        exact Int.lt_of_mul_lt_mul_right this (by omega)
      have hn : 1 ≤ n := by omega
      have hu' : d / n = u := by
        have h1 : d = (d - n * u) + n * u := by omega
        rw [h1, Int.add_mul_ediv_left _ _ (by omega), Int.ediv_eq_zero_of_lt (by omega) a2]
        omega
      obtain ⟨_, _, _, hg', _⟩ := stP_facts hg hn
      have hq3 := stP_q hg hn
      rw [hu'] at hg' hq3
      have hs : stP l n d = some (u, redN (d - n * u) d, redD (d - n * u) d) := by unfold stP; rw [hu']
      obtain ⟨es, h1, h2⟩ := pie_once (k := k) (l := u + 1) hg' (by omega : 1 ≤ u + 1) hup (nextB_tail hnx) (by rw [hq3, hq]; simp only [pieQ]; grind) (by simpa using hk)
      refine ⟨_, by rw [walkR_some (by omega) hs, h1]; rfl, ?_⟩
      show u :: takenOf es = u :: us
      rw [h2]
    · rw [up_no hu] at hup; cases hup
theorem pie_again {xs : List Int} (h : pieB xs = true) : pieN xs ≤ pieD xs ∧ ∃ es, walkR stP 24 0 (pieN xs) (pieD xs) = some es ∧ takenOf es = xs := by
  obtain ⟨hg, hq⟩ := pie_q h
  obtain ⟨h1, h2, h3, _⟩ := pieB_parts h
  obtain ⟨_, _, d1, _⟩ := good_bounds hg
  refine ⟨?_, pie_once hg (by omega) h2 h3 hq h1⟩
  have := (pieQ_in (by omega) h2).2.1
  rw [← hq] at this
  have h3 : rq (pieN xs) (pieD xs) ≤ rq 1 1 := by
    have e : rq 1 1 = 1 := by unfold rq; simp only [Rat.intCast_one]; grind
    rw [e]
    simp only [Rat.intCast_one] at this
    grind
  have := le_rq d1 (by omega) h3
  omega
theorem pie_back {k : Nat} {l n d : Int} {es : List (Int × Int × Int)} (hg : goodB n d = true) (hnd : n ≤ d) (hw : walkR stP k l n d = some es) (h : pieB (takenOf es) = true) : pieN (takenOf es) = n ∧ pieD (takenOf es) = d ∧ (es.length : Int) ≤ n := by
  obtain ⟨a, b⟩ := pie_walk hg hnd hw
  obtain ⟨hg2, hq⟩ := pie_q h
  obtain ⟨c, e⟩ := good_same hg2 hg (by rw [hq, a])
  exact ⟨c, e, b⟩
end Go.Proofs.YtbjblkfibinenadGreatDoor


/-
  Plain facts: an Engel list is got back from its fraction and the other way round, and what its products are.
-/
namespace Go.Proofs.YtbjblkfibinenadGreatDoor
open Go.RowKit
theorem engO_again {zs : List Int} (h : engB zs = true) : engO (engN zs) (engD zs) = some zs ∧ (-9223372036854775808 ≤ engN zs ∧ engN zs ≤ 9223372036854775807) ∧ (-9223372036854775808 ≤ engD zs ∧ engD zs ≤ 9223372036854775807) := by
  obtain ⟨hlt, es, hw, ht⟩ := eng_again h
  have hg := (eng_q h).1
  have hb := good_bounds hg
  refine ⟨?_, by omega, by omega⟩
  have hB : belowB (engN zs) (engD zs) = true := by simp [belowB, hg, hlt]
  unfold engO
  rw [if_pos hB, lstO_yes hw (by rw [ht]; exact h), ht]
structure EngL (n d : Int) (xs ps : List Int) : Prop where
  back : engN xs = n ∧ engD xs = d ∧ engB xs = true
  few : (xs.length : Int) ≤ n
  terms : etO n d = some ps
  prod : prodL 1 xs = some ps
  exp : expB ps = true
  sum : eN ps = n ∧ eD ps = d
  len : ps.length = xs.length
  up : up 0 2 xs = true
  l24 : xs.length ≤ 24
  x64 : In64 xs
  p64 : In64 ps
theorem engO_back {n d : Int} {xs : List Int} (h : engO n d = some xs) : ∃ ps, EngL n d xs ps := by
  have hk := engO_some h
  obtain ⟨ps, h1, h2, h3⟩ := engB_prod hk
  have hp := engB_parts hk
  have ht : etO n d = some ps := by unfold etO; rw [h]; exact h1
  unfold engO at h
  split at h
  · rename_i hb
    obtain ⟨hg, _⟩ := belowB_yes hb
    obtain ⟨es, hw, hes, hk2⟩ := lstO_some h
    subst hes
    obtain ⟨a, b, c⟩ := eng_back hg hw hk2
    have hs : sumL 0 1 ps = some (engN (takenOf es), engD (takenOf es)) := by
      have := hp.2.2
      unfold engS at this
      rw [h1] at this
      exact this
    rw [a, b] at hs
    have hin : ∀ x ∈ takenOf es, 1 ≤ x ∧ x ≤ 1000000000 := fun x hx => by have := up_in (by omega) hp.2.1 x hx; omega
    refine ⟨ps, ⟨a, b, hk⟩, by rw [takenOf_len]; exact c, ht, h1, h2, ⟨by rw [eN, if_pos h2, sumN_of hs], by rw [eD, if_pos h2, sumD_of hs]⟩, h3, hp.2.1, hp.1, In64.of_mem fun x hx => by have := hin x hx; omega, In64.of_mem fun q hq => by have := prodL_in (by omega) (fun x hx => (hin x hx).1) h1 q hq; omega⟩
  · cases h
/-- one product more -/
theorem prod_at {p x : Int} {xs ps : List Int} (h : prodL p (x :: xs) = some ps) : p * x ≤ 1000000000 ∧ ∃ qs, ps = p * x :: qs ∧ prodL (p * x) xs = some qs := by
  by_cases hle : p * x ≤ 1000000000
  · rw [prodL_yes hle] at h
    cases hr : prodL (p * x) xs with
    | none => rw [hr] at h; cases h
    | some qs =>
      rw [hr] at h
      injection h with h
      exact ⟨hle, qs, h.symm, rfl⟩
  · rw [prodL_no hle] at h; cases h
end Go.Proofs.YtbjblkfibinenadGreatDoor


/-
  Plain facts: the rounds that replace numbers keep the sum; pairs never make more numbers, splits never fewer.
-/
namespace Go.Proofs.YtbjblkfibinenadGreatDoor
open Go.RowKit
theorem sumQ_permT {xs ys : List Int} (h : xs.Perm ys) : sumQ xs = sumQ ys := by
  induction h with
  | nil => rfl
  | cons x _ ih => simp only [sumQ, ih]
  | swap x y l => simp only [sumQ]; grind
  | trans _ _ ih1 ih2 => exact ih1.trans ih2
/-- what comes has the sum of what goes -/
def KeepQ (g : Int → Nat × List Int) : Prop := ∀ d, 1 ≤ d → ((g d).1 : Rat) * (1 / (d : Rat)) = sumQ (g d).2
theorem repS_q : KeepQ repS := fun d hd => by
  have h1 := ne0 hd
  have h2 := ne0 (show 1 ≤ d + 1 by omega)
  simp only [repS, sumQ, Rat.intCast_mul, Rat.intCast_add] at h2 ⊢
  grind
theorem repP_q : KeepQ repP := fun d hd => by
  by_cases he : d % 2 = 0
  · obtain ⟨k, rfl⟩ : ∃ k, d = 2 * k := ⟨d / 2, by omega⟩
    have e : repP (2 * k) = (2, [k]) := by unfold repP; rw [if_pos he]; congr 2; omega
    have h1 := ne0 (show 1 ≤ k by omega)
    rw [e]
    simp only [sumQ, Rat.intCast_mul]
    grind
  · obtain ⟨k, rfl⟩ : ∃ k, d = 2 * k + 1 := ⟨d / 2, by omega⟩
    have hp : (2 * k + 1) * (2 * k + 1 + 1) / 2 = (2 * k + 1) * (k + 1) := by
      rw [show (2 * k + 1) * (2 * k + 1 + 1) = 2 * ((2 * k + 1) * (k + 1)) by grind]
      exact Int.mul_ediv_cancel_left _ (by decide)
    have e : repP (2 * k + 1) = (2, [k + 1, (2 * k + 1) * (k + 1)]) := by unfold repP; rw [if_neg he, hp, show (2 * k + 1 + 1) / 2 = k + 1 by omega]
    have h1 := ne0 (show 1 ≤ k + 1 by omega)
    have h2 := ne0 (show 1 ≤ 2 * k + 1 by omega)
    rw [e]
    simp only [sumQ, Rat.intCast_mul, Rat.intCast_add] at h1 h2 ⊢
    grind
theorem round_sum {g : Int → Nat × List Int} (hg : GoodG g) (hq : KeepQ g) {xs : List Int} {i : Nat} (hx : ∀ x ∈ xs, 1 ≤ x) (ht : tw xs = some i) : sumQ (roundL g xs i) = sumQ xs := by
  obtain ⟨d, hd, hd2⟩ := tw_at ht
  have h1 := hx d (List.mem_of_getElem? hd)
  have hk := hq d h1
  have a1 := hg.one d
  have a2 := hg.two d
  have e0 : sumQ xs = sumQ (xs.take i) + sumQ (xs.drop i) := by rw [← sumQ_append, List.take_append_drop]
  rw [round_at hd, sumQ_permT (srt_perm _), sumQ_append, sumQ_append, e0, ← hk]
  generalize hm : (g d).1 = m at *
  rcases (by omega : m = 1 ∨ m = 2) with rfl | rfl
  · rw [drop_at hd]
    simp only [sumQ]
    grind
  · rw [drop_at hd, drop_at hd2]
    simp only [sumQ]
    grind
theorem round_len {g : Int → Nat × List Int} (hg : GoodG g) {xs : List Int} {i : Nat} {d : Int} (hd : xs[i]? = some d) (hi : i + 1 < xs.length) : (roundL g xs i).length + (g d).1 = xs.length + (g d).2.length := by
  have a1 := hg.one d
  have a2 := hg.two d
  rw [round_at hd, srt_len, List.length_append, List.length_append, List.length_take, List.length_drop]
  omega
theorem rounds_sum {g : Int → Nat × List Int} (hg : GoodG g) (hq : KeepQ g) : ∀ {k : Nat} {xs ys : List Int}, (∀ x ∈ xs, 1 ≤ x ∧ x ≤ 1000000000) → rounds g k xs = some ys → sumQ ys = sumQ xs ∧ ((∀ d, (g d).2.length ≤ (g d).1) → ys.length ≤ xs.length) ∧ ((∀ d, (g d).1 ≤ (g d).2.length) → xs.length ≤ ys.length)
  | k, xs, ys, hx, hr => by
    cases ht : tw xs with
    | none =>
      rw [rounds_done ht] at hr
      injection hr with hr
      subst hr
      exact ⟨rfl, fun _ => Nat.le_refl _, fun _ => Nat.le_refl _⟩
    | some i =>
      obtain ⟨d, hd, hd2⟩ := tw_at ht
      have hi : i + 1 < xs.length := (List.getElem?_eq_some_iff.1 hd2).1
      cases k with
      | zero => rw [rounds_out ht] at hr; cases hr
      | succ k =>
        cases hs : small (roundL g xs i) with
        | false => rw [rounds_big ht hs] at hr; cases hr
        | true =>
          rw [rounds_on ht hs] at hr
          have hl := round_len hg hd hi
          obtain ⟨b1, b2, b3⟩ := rounds_sum hg hq (k := k) (round_in hg.lo (fun x h => (hx x h).1) ht hs) hr
          exact ⟨b1.trans (round_sum hg hq (fun x h => (hx x h).1) ht), fun h => by have := b2 h; have := h d; omega, fun h => by have := b3 h; have := h d; omega⟩
theorem repL_sum {n d : Int} (hn : 0 ≤ n) (hd : 1 ≤ d) : sumQ (repL n d) = rq n d := by
  obtain ⟨k, rfl⟩ := Int.eq_ofNat_of_zero_le hn
  have h1 := ne0 hd
  unfold repL rq
  rw [Int.toNat_natCast]
  induction k with
  | zero => simp [sumQ]; grind
  | succ k ih =>
    rw [List.replicate_succ]
    simp only [sumQ]
    rw [ih (by omega)]
    simp only [Int.natCast_add, Rat.intCast_add]
    grind
/-- of each expansion by rounds -/
structure TwB (n d : Int) (xs : List Int) : Prop where
  pro : proB n d = true
  exp : expB xs = true
  sum : eN xs = n ∧ eD xs = d
  l24 : xs.length ≤ 24
  x64 : In64 xs
theorem twE_back {g : Int → Nat × List Int} (hg : GoodG g) (hq : KeepQ g) {n d : Int} {xs : List Int} (h : twE g n d = some xs) : TwB n d xs ∧ ((∀ d, (g d).2.length ≤ (g d).1) → (xs.length : Int) ≤ n) ∧ ((∀ d, (g d).1 ≤ (g d).2.length) → n ≤ (xs.length : Int)) := by
  cases hp : proB n d with
  | false => rw [twE_not hp] at h; cases h
  | true =>
    by_cases hn : n ≤ 24
    · obtain ⟨n1, n2, d1, d2, hnd, hgd, _, _⟩ := proB_bounds hp
      rw [twE_on hp hn] at h
      cases hr : rounds g 300 (repL n d) with
      | none => rw [hr] at h; cases h
      | some ys =>
        rw [hr] at h
        have hl : (repL n d).length = n.toNat := by unfold repL; rw [List.length_replicate]
        obtain ⟨b1, b2, b3⟩ := rounds_sum hg hq (fun x hx => by have := List.eq_of_mem_replicate hx; omega) hr
        cases hx : expB (srt ys) with
        | false => rw [exO_no hx] at h; cases h
        | true =>
          rw [exO_yes hx] at h
          injection h with h
          subst h
          have hs := sum_q hx
          rw [sumQ_permT (srt_perm _), b1, repL_sum (by omega) (by omega)] at hs
          obtain ⟨a, b⟩ := good_same (good_sum hx) hgd hs
          refine ⟨⟨hp, hx, ⟨by rw [eN, if_pos hx, a], by rw [eD, if_pos hx, b]⟩, expB_len hx, In64.of_mem fun x h => by have := expB_small hx x h; omega⟩, fun h => ?_, fun h => ?_⟩
          · have := b2 h; rw [srt_len]; omega
          · have := b3 h; rw [srt_len]; omega
    · rw [twE_many hn] at h; cases h
theorem repP_few : ∀ d, (repP d).2.length ≤ (repP d).1 := fun d => by unfold repP; split <;> simp
theorem repS_more : ∀ d, (repS d).1 ≤ (repS d).2.length := fun d => by unfold repS; simp
end Go.Proofs.YtbjblkfibinenadGreatDoor
