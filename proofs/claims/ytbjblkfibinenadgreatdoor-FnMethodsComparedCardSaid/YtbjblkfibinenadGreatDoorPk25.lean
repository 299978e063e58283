import Derived.Test.YtbjblkfibinenadGreatDoorPk23
import Derived.Test.YtbjblkfibinenadGreatDoorPk10
import Derived.Test.YtbjblkfibinenadGreatDoorPk9
import Derived.Test.YtbjblkfibinenadGreatDoorPk7
import Derived.Test.YtbjblkfibinenadGreatDoorPk14
import Derived.Test.YtbjblkfibinenadGreatDoorPk24

/-
  The contract of the model's sum of a Pierce list.
-/
namespace Go.Proofs.YtbjblkfibinenadGreatDoor
open Go.RowKit
theorem parity (k : Nat) : (k % 2 = 0 ∧ ((k : Int).tmod 2 == 0) = true ∧ ((k : Int).tmod 2 == 1) = false ∧ ((k : Int) % 2 == 0) = true ∧ ((k : Int) % 2 == 1) = false ∧ ((k + 1) % 2 == 0) = false ∧ (k % 2 == 0) = true) ∨
    (k % 2 = 1 ∧ ((k : Int).tmod 2 == 0) = false ∧ ((k : Int).tmod 2 == 1) = true ∧ ((k : Int) % 2 == 0) = false ∧ ((k : Int) % 2 == 1) = true ∧ ((k + 1) % 2 == 0) = true ∧ (k % 2 == 0) = false) := by
  rw [Int.tmod_eq_emod_of_nonneg (by omega : 0 ≤ (k : Int))]
  rcases Nat.mod_two_eq_zero_or_one k with h | h
  · have h2 : (k : Int) % 2 = 0 := by omega
    have h3 : (k + 1) % 2 = 1 := by omega
    exact .inl (by rw [h2, h, h3]; decide)
  · have h2 : (k : Int) % 2 = 1 := by omega
    have h3 : (k + 1) % 2 = 0 := by omega
    exact .inr (by rw [h2, h, h3]; decide)
/-- sums and differences of the unit fractions of the products -/
def pieF (s : Bool) (p n d : Int) (xs : List Int) : Option (Int × Int) := (prodL p xs).bind (altL s n d)
theorem pieF_out {s : Bool} {p n d x : Int} {xs : List Int} (h : ¬ p * x ≤ 1000000000) : pieF s p n d (x :: xs) = none := by unfold pieF; rw [prodL_no h]; rfl
theorem pieF_add {p n d x : Int} {xs : List Int} (h : p * x ≤ 1000000000) (hr : redB (n * (p * x) + d) (d * (p * x)) = true) : pieF true p n d (x :: xs) = pieF false (p * x) (redN (n * (p * x) + d) (d * (p * x))) (redD (n * (p * x) + d) (d * (p * x))) xs := by
  unfold pieF
  rw [prodL_yes h]
  cases prodL (p * x) xs with
  | none => rfl
  | some ps => exact altL_add hr
theorem pieF_add_no {p n d x : Int} {xs : List Int} (h : p * x ≤ 1000000000) (hr : redB (n * (p * x) + d) (d * (p * x)) = false) : pieF true p n d (x :: xs) = none := by
  unfold pieF
  rw [prodL_yes h]
  cases prodL (p * x) xs with
  | none => rfl
  | some ps => exact altL_add_no hr
theorem pieF_sub {p n d x : Int} {xs : List Int} (h : p * x ≤ 1000000000) (hl : d ≤ n * (p * x)) (hr : redB (n * (p * x) - d) (d * (p * x)) = true) : pieF false p n d (x :: xs) = pieF true (p * x) (redN (n * (p * x) - d) (d * (p * x))) (redD (n * (p * x) - d) (d * (p * x))) xs := by
  unfold pieF
  rw [prodL_yes h]
  cases prodL (p * x) xs with
  | none => rfl
  | some ps => exact altL_sub hl hr
theorem pieF_sub_no {p n d x : Int} {xs : List Int} (h : p * x ≤ 1000000000) (hr : redB (n * (p * x) - d) (d * (p * x)) = false) : pieF false p n d (x :: xs) = none := by
  unfold pieF
  rw [prodL_yes h]
  cases prodL (p * x) xs with
  | none => rfl
  | some ps => exact altL_sub_no (fun _ => hr)
/-- what has been added can be taken away -/
theorem red_ge {n d q : Int} (hn : 0 ≤ n) (hd : 1 ≤ d) (hq : 1 ≤ q) (h : redB (n * q + d) (d * q) = true) : redD (n * q + d) (d * q) ≤ redN (n * q + d) (d * q) * q := by
  obtain ⟨hc, hd'⟩ := red_cross (mul_pos1 hd hq) h
  generalize redN (n * q + d) (d * q) = N at *
  generalize redD (n * q + d) (d * q) = D at *
  have h1 : 0 ≤ n * q := Int.mul_nonneg hn (by omega)
  have h2 : d * D ≤ (n * q + d) * D := Int.mul_le_mul_of_nonneg_right (by omega) (by omega)
  rw [← hc] at h2
  have h3 : N * (d * q) = d * (N * q) := by grind
  rw [h3] at h2
  exact Int.le_of_mul_le_mul_left h2 (by omega)
end Go.Proofs.YtbjblkfibinenadGreatDoor


/-
  Contracts of the program's and the model's functions on Pierce lists.
-/
namespace Go.Proofs.YtbjblkfibinenadGreatDoor
open Go.RowKit
theorem pie_last {xs : List Int} (h : 1 < xs.length) : ∃ (k : Nat) (x y : Int), xs.length = k + 2 ∧ xs[k]? = some x ∧ xs[k + 1]? = some y ∧ nextB xs = decide (y = x + 1) := by
  have h1 : xs.length - 2 < xs.length := by omega
  have h2 : xs.length - 2 + 1 < xs.length := by omega
  exact ⟨xs.length - 2, xs[xs.length - 2], xs[xs.length - 2 + 1], by omega, List.getElem?_eq_getElem h1, List.getElem?_eq_getElem h2, nextB_last (k := xs.length - 2) (by omega) (List.getElem?_eq_getElem h1) (List.getElem?_eq_getElem h2)⟩
/-- why a list is none: it does not rise, or its last number is one more than that before it -/
def badB (xs : List Int) : Bool := !(decide (xs.length ≤ 24) && up 1 1 xs) || nextB xs
theorem badB_yes {xs : List Int} (h : badB xs = true) : pieB xs = false := by
  unfold badB at h
  unfold pieB
  cases h1 : (decide (xs.length ≤ 24) && up 1 1 xs) with
  | false => rfl
  | true =>
    rw [h1] at h
    have h2 : nextB xs = true := by simpa using h
    rw [h2]; rfl
theorem badB_no {xs : List Int} (h : badB xs = false) : xs.length ≤ 24 ∧ up 1 1 xs = true ∧ nextB xs = false := by
  simp only [badB, Bool.or_eq_false_iff, Bool.not_eq_false', Bool.and_eq_true, decide_eq_true_eq] at h
  exact ⟨h.1.1, h.1.2, h.2⟩
theorem wrap64_of {x : Int} (h1 : -9223372036854775808 ≤ x) (h2 : x ≤ 9223372036854775807) : IntKind.i64.wrap x = x := by rw [IntKind.wrap_i64]; omega
end Go.Proofs.YtbjblkfibinenadGreatDoor


/-
  Contracts of the model's functions on Pierce lists.
-/
namespace Go.Proofs.YtbjblkfibinenadGreatDoor
open Go.RowKit
end Go.Proofs.YtbjblkfibinenadGreatDoor


/-
  Plain facts on the steps of Engel and of Pierce lists.
-/
namespace Go.Proofs.YtbjblkfibinenadGreatDoor
open Go.RowKit
def stE : Stp := fun _ n d => some (ucd n d, redN (n * ucd n d - d) d, redD (n * ucd n d - d) d)
def stP : Stp := fun _ n d => some (d / n, redN (d - n * (d / n)) d, redD (d - n * (d / n)) d)
/-- small parts are small in lowest terms, too -/
theorem redB_small {n d : Int} (hn : 0 ≤ n) (hn2 : n ≤ 1000000000) (hd : 1 ≤ d) (hd2 : d ≤ 1000000000) : redB n d = true := by
  have hg := gcdI_pos n d (by omega)
  exact redB_yes (by have := Int.ediv_le_self (gcdI n d) hn; omega) (by have := Int.ediv_le_self (gcdI n d) (by omega : 0 ≤ d); omega)
theorem stE_facts {n d : Int} (hg : goodB n d = true) (hn : 1 ≤ n) :
    (1 ≤ ucd n d ∧ ucd n d ≤ d) ∧ (0 ≤ n * ucd n d - d ∧ n * ucd n d - d < n) ∧ redB (n * ucd n d - d) d = true ∧ goodB (redN (n * ucd n d - d) d) (redD (n * ucd n d - d) d) = true ∧ redN (n * ucd n d - d) d < n := by
  obtain ⟨_, n2, d1, d2⟩ := good_bounds hg
  obtain ⟨u1, u2, u3, u4⟩ := ucd_facts hn d1
  have hb := redB_small (n := n * ucd n d - d) (by omega) (by omega) d1 d2
  have hl := red_le (n := n * ucd n d - d) (d := d) (by omega) d1
  exact ⟨⟨u1, u4⟩, ⟨by omega, by omega⟩, hb, good_of_redB (by omega) d1 hb, by omega⟩
theorem stP_facts {n d : Int} (hg : goodB n d = true) (hn : 1 ≤ n) :
    (0 ≤ d / n ∧ d / n ≤ d) ∧ (0 ≤ d - n * (d / n) ∧ d - n * (d / n) < n) ∧ redB (d - n * (d / n)) d = true ∧ goodB (redN (d - n * (d / n)) d) (redD (d - n * (d / n)) d) = true ∧ redN (d - n * (d / n)) d < n := by
  obtain ⟨_, n2, d1, d2⟩ := good_bounds hg
  have h1 : n * (d / n) + d % n = d := Int.mul_ediv_add_emod _ _
  have h2 := Int.emod_nonneg d (by omega : n ≠ 0)
  have h3 := Int.emod_lt_of_pos d (by omega : 0 < n)
  have h4 := Int.ediv_nonneg (by omega : 0 ≤ d) (by omega : 0 ≤ n)
  have h5 := Int.ediv_le_self n (by omega : 0 ≤ d)
  have hb := redB_small (n := d - n * (d / n)) (by omega) (by omega) d1 d2
  have hl := red_le (n := d - n * (d / n)) (d := d) (by omega) d1
  exact ⟨⟨h4, h5⟩, ⟨by omega, by omega⟩, hb, good_of_redB (by omega) d1 hb, by omega⟩
/-- a walk with more steps allowed -/
theorem walkR_more {st : Stp} : ∀ {k : Nat} {l n d : Int} {es : List (Int × Int × Int)}, walkR st k l n d = some es → walkR st (k + 1) l n d = some es ∧ es.length ≤ k
  | 0, l, n, d, es, h => by
    by_cases h0 : n ≤ 0
    · rw [walkR_end h0] at h ⊢
      injection h with h
      subst h
      exact ⟨rfl, Nat.le_refl _⟩
    · rw [walkR_out (by omega)] at h; cases h
  | k + 1, l, n, d, es, h => by
    by_cases h0 : n ≤ 0
    · rw [walkR_end h0] at h ⊢
      injection h with h
      subst h
      exact ⟨rfl, Nat.zero_le _⟩
    · have hn : 0 < n := by omega
      cases hs : st l n d with
      | none => rw [walkR_none hn hs] at h; cases h
      | some p =>
        obtain ⟨t, n', d'⟩ := p
        rw [walkR_some hn hs] at h ⊢
        cases hr : walkR st k (t + 1) n' d' with
        | none => rw [hr] at h; cases h
        | some es' =>
          rw [hr] at h
          injection h with h
          subst h
          obtain ⟨a, b⟩ := walkR_more hr
          rw [a]
          exact ⟨rfl, by simp; omega⟩
theorem walkR_less {st : Stp} {k : Nat} {l n d : Int} (h : walkR st (k + 1) l n d = none) : walkR st k l n d = none := by
  cases hr : walkR st k l n d with
  | none => rfl
  | some es => rw [(walkR_more hr).1] at h; cases h
theorem walkR_long {st : Stp} {k : Nat} {l n d : Int} {es : List (Int × Int × Int)} (h : walkR st (k + 1) l n d = some es) (hl : es.length = k + 1) : walkR st k l n d = none := by
  cases hr : walkR st k l n d with
  | none => rfl
  | some es' =>
    obtain ⟨a, b⟩ := walkR_more hr
    rw [a] at h
    injection h with h
    subst h
    omega
theorem walkR_fit {st : Stp} : ∀ {k : Nat} {l n d : Int} {es : List (Int × Int × Int)}, walkR st (k + 1) l n d = some es → es.length ≤ k → walkR st k l n d = some es
  | 0, l, n, d, es, h, hl => by
    by_cases h0 : n ≤ 0
    · rw [walkR_end h0] at h ⊢; exact h
    · have hn : 0 < n := by omega
      cases hs : st l n d with
      | none => rw [walkR_none hn hs] at h; cases h
      | some p =>
        obtain ⟨t, n', d'⟩ := p
        rw [walkR_some hn hs] at h
        cases hr : walkR st 0 (t + 1) n' d' with
        | none => rw [hr] at h; cases h
        | some es' =>
          rw [hr] at h
          injection h with h
          subst h
          simp at hl
  | k + 1, l, n, d, es, h, hl => by
    by_cases h0 : n ≤ 0
    · rw [walkR_end h0] at h ⊢; exact h
    · have hn : 0 < n := by omega
      cases hs : st l n d with
      | none => rw [walkR_none hn hs] at h; cases h
      | some p =>
        obtain ⟨t, n', d'⟩ := p
        rw [walkR_some hn hs] at h ⊢
        cases hr : walkR st (k + 1) (t + 1) n' d' with
        | none => rw [hr] at h; cases h
        | some es' =>
          rw [hr] at h
          injection h with h
          subst h
          rw [walkR_fit hr (by simp at hl; omega)]
          rfl
end Go.Proofs.YtbjblkfibinenadGreatDoor


/-
  Contracts of the steps of Engel and of Pierce lists, and of the program's lists by them.
-/
namespace Go.Proofs.YtbjblkfibinenadGreatDoor
open Go.RowKit
theorem small_E : Small stE := by
  intro l n d t n' d' hg hn hl h
  have hf := stE_facts hg hn
  obtain ⟨_, _, d1, d2⟩ := good_bounds hg
  simp only [stE, Option.some.injEq, Prod.mk.injEq] at h
  obtain ⟨rfl, rfl, rfl⟩ := h
  exact ⟨by omega, by omega, hf.2.2.2.1⟩
theorem small_P : Small stP := by
  intro l n d t n' d' hg hn hl h
  have hf := stP_facts hg hn
  obtain ⟨_, _, d1, d2⟩ := good_bounds hg
  simp only [stP, Option.some.injEq, Prod.mk.injEq] at h
  obtain ⟨rfl, rfl, rfl⟩ := h
  exact ⟨by omega, by omega, hf.2.2.2.1⟩
def engO (n d : Int) : Option (List Int) := if belowB n d = true then lstO stE engB 24 0 n d else none
def pieO (n d : Int) : Option (List Int) := if atMostB n d = true then lstO stP pieB 24 0 n d else none
theorem engB_len {xs : List Int} (h : engB xs = true) : xs.length ≤ 24 := (engB_parts h).1
theorem pieB_len {xs : List Int} (h : pieB xs = true) : xs.length ≤ 24 := (pieB_parts h).1
theorem lstO_some {st : Stp} {ok : List Int → Bool} {m : Nat} {l n d : Int} {xs : List Int} (h : lstO st ok m l n d = some xs) : ∃ es, walkR st m l n d = some es ∧ takenOf es = xs ∧ ok xs = true := by
  unfold lstO at h
  cases hw : walkR st m l n d with
  | none => rw [hw] at h; cases h
  | some es =>
    rw [hw] at h
    simp only [Option.bind_some] at h
    split at h
    · rename_i hk
      injection h with h
      subst h
      exact ⟨es, rfl, rfl, hk⟩
    · cases h
theorem engO_len (n d : Int) : ((engO n d).getD []).length ≤ 24 := by
  cases h : engO n d with
  | none => simp
  | some xs =>
    unfold engO at h
    split at h
    · obtain ⟨es, _, _, hk⟩ := lstO_some h
      exact engB_len hk
    · cases h
theorem pieO_len (n d : Int) : ((pieO n d).getD []).length ≤ 24 := by
  cases h : pieO n d with
  | none => simp
  | some xs =>
    unfold pieO at h
    split at h
    · obtain ⟨es, _, _, hk⟩ := lstO_some h
      exact pieB_len hk
    · cases h
/-- one step more allowed, and lists that are too long refused -/
theorem lstO_of25 {st : Stp} {ok : List Int → Bool} (hok : ∀ ys, ok ys = true → ys.length ≤ 24) {l n d : Int} {es : List (Int × Int × Int)} (h : walkR st 25 l n d = some es) : lstO st ok 24 l n d = if ok (takenOf es) = true then some (takenOf es) else none := by
  by_cases hl : es.length ≤ 24
  · have := walkR_fit h hl
    simp [lstO, this]
  · have h1 := (walkR_more h).2
    have h2 := walkR_long h (by omega)
    rw [lstO_none h2, if_neg]
    intro hk
    have := hok _ hk
    rw [takenOf_len] at this
    omega
theorem lstO_out25 {st : Stp} {ok : List Int → Bool} {l n d : Int} (h : walkR st 25 l n d = none) : lstO st ok 24 l n d = none := lstO_none (walkR_less h)
set_option maxHeartbeats 2000000 in
theorem engelStep_R (l n d : Int) (w : World) (hg : goodB n d = true) (hn : 1 ≤ n) : Calls Tryz.prog 54 (#[.agg #[.int .i64 n, .int .i64 d]] ++ #[]) w (StepR stE (fun _ _ => True) none l n d w) := by
  rw [Array.append_empty]
  obtain ⟨_, n2, d1, d2⟩ := good_bounds hg
  obtain ⟨⟨u1, u2⟩, ⟨r1, r2⟩, hb, hgd, _⟩ := stE_facts hg hn
  have HU := Lib.hid fun (w : World) => leastUnder_any n d w hn n2 d1 d2
  have HRd := Lib.hid fun (w : World) => reduce_any (n * ucd n d - d) d w r1 d1 (by omega) (by omega)
  rw [hb] at HRd
  have Hst : Hid (stE l n d = some (ucd n d, redN (n * ucd n d - d) d, redD (n * ucd n d - d) d)) := Lib.hid rfl
  have hm := mul_bounds (a := ucd n d) (b := n) (by omega) (by omega) (by omega) n2
  have HG := Lib.hid hgd
  clear hb hgd hg
  generalize ucd n d = u at *
  generalize redN (n * u - d) d = N at *
  generalize redD (n * u - d) d = D at *
  rw [Int.mul_comm n u] at HRd r1 r2
  go_enter Tryz.func54, Tryz.ntmps54
  go_wp2_with (first | (go_at_call 51; refine (HU.out _).mono ?_; rintro e w1 ⟨rfl, hb1⟩; obtain ⟨hc1, hf1⟩ := bcellB hb1; have hz1 := hb1.size; (try simp only [World.size_alloc] at hc1 hf1 hz1); (try have hy1_r_0 : wr.heap.size < w1.heap.size := by omega); (try have hn1_r_0 : wr.heap.size ≠ w1.heap.size := by omega); (try have hm1_r_0 : w1.heap.size ≠ wr.heap.size := by omega); (try have hy1_r_1 : wr.heap.size + 1 < w1.heap.size := by omega); (try have hn1_r_1 : wr.heap.size + 1 ≠ w1.heap.size := by omega); (try have hm1_r_1 : w1.heap.size ≠ wr.heap.size + 1 := by omega); (try have hy1_r_2 : wr.heap.size + 1 + 1 < w1.heap.size := by omega); (try have hp1_r_1 : wr.heap.size < w1.heap.size + 1 := by omega); (try have hp1_r_2 : wr.heap.size < w1.heap.size + 1 + 1 := by omega); (try have hy1_0_0 : w.heap.size < w1.heap.size := by omega); (try have hn1_0_0 : w.heap.size ≠ w1.heap.size := by omega); (try have hm1_0_0 : w1.heap.size ≠ w.heap.size := by omega); (try have hy1_0_1 : w.heap.size + 1 < w1.heap.size := by omega); (try have hn1_0_1 : w.heap.size + 1 ≠ w1.heap.size := by omega); (try have hm1_0_1 : w1.heap.size ≠ w.heap.size + 1 := by omega); (try have hy1_0_2 : w.heap.size + 1 + 1 < w1.heap.size := by omega); (try have hp1_0_1 : w.heap.size < w1.heap.size + 1 := by omega); (try have hp1_0_2 : w.heap.size < w1.heap.size + 1 + 1 := by omega); (try have hg1_g1 : g1 < w1.heap.size := by omega); (try have hi1_g1 : g1 ≠ w1.heap.size := by omega); (try have hj1_g1 : w1.heap.size ≠ g1 := by omega); (try have hk1_g1 : g1 < w1.heap.size + 1 := by omega); (try have hg1_g2 : g2 < w1.heap.size := by omega); (try have hi1_g2 : g2 ≠ w1.heap.size := by omega); (try have hj1_g2 : w1.heap.size ≠ g2 := by omega); (try have hk1_g2 : g2 < w1.heap.size + 1 := by omega)) | (go_at_call 48; refine (HRd.out _).mono ?_; rintro e w2 ⟨rfl, hb2⟩; obtain ⟨hc2, hf2⟩ := bcellB hb2; have hz2 := hb2.size; (try simp only [World.size_alloc, World.size_setCell, World.size_drew, World.heap_drewN] at hc2 hf2 hz2); (try have hy2_r_0 : wr.heap.size < w2.heap.size := by omega); (try have hn2_r_0 : wr.heap.size ≠ w2.heap.size := by omega); (try have hm2_r_0 : w2.heap.size ≠ wr.heap.size := by omega); (try have hy2_r_1 : wr.heap.size + 1 < w2.heap.size := by omega); (try have hn2_r_1 : wr.heap.size + 1 ≠ w2.heap.size := by omega); (try have hm2_r_1 : w2.heap.size ≠ wr.heap.size + 1 := by omega); (try have hy2_r_2 : wr.heap.size + 1 + 1 < w2.heap.size := by omega); (try have hp2_r_1 : wr.heap.size < w2.heap.size + 1 := by omega); (try have hp2_r_2 : wr.heap.size < w2.heap.size + 1 + 1 := by omega); (try have hy2_0_0 : w.heap.size < w2.heap.size := by omega); (try have hn2_0_0 : w.heap.size ≠ w2.heap.size := by omega); (try have hm2_0_0 : w2.heap.size ≠ w.heap.size := by omega); (try have hy2_0_1 : w.heap.size + 1 < w2.heap.size := by omega); (try have hn2_0_1 : w.heap.size + 1 ≠ w2.heap.size := by omega); (try have hm2_0_1 : w2.heap.size ≠ w.heap.size + 1 := by omega); (try have hy2_0_2 : w.heap.size + 1 + 1 < w2.heap.size := by omega); (try have hp2_0_1 : w.heap.size < w2.heap.size + 1 := by omega); (try have hp2_0_2 : w.heap.size < w2.heap.size + 1 + 1 := by omega); (try have hy2_1_0 : w1.heap.size < w2.heap.size := by omega); (try have hn2_1_0 : w1.heap.size ≠ w2.heap.size := by omega); (try have hm2_1_0 : w2.heap.size ≠ w1.heap.size := by omega); (try have hy2_1_1 : w1.heap.size + 1 < w2.heap.size := by omega); (try have hn2_1_1 : w1.heap.size + 1 ≠ w2.heap.size := by omega); (try have hm2_1_1 : w2.heap.size ≠ w1.heap.size + 1 := by omega); (try have hy2_1_2 : w1.heap.size + 1 + 1 < w2.heap.size := by omega); (try have hp2_1_1 : w1.heap.size < w2.heap.size + 1 := by omega); (try have hp2_1_2 : w1.heap.size < w2.heap.size + 1 + 1 := by omega); (try have hg2_g1 : g1 < w2.heap.size := by omega); (try have hi2_g1 : g1 ≠ w2.heap.size := by omega); (try have hj2_g1 : w2.heap.size ≠ g1 := by omega); (try have hk2_g1 : g1 < w2.heap.size + 1 := by omega); (try have hg2_g2 : g2 < w2.heap.size := by omega); (try have hi2_g2 : g2 ≠ w2.heap.size := by omega); (try have hj2_g2 : w2.heap.size ≠ g2 := by omega); (try have hk2_g2 : g2 < w2.heap.size + 1 := by omega)))
  go_region
  all_goals
    go_wp2
    refine bodyPost_ret (by simp [results, Tryz.results54, go_sem, *]; try rfl) rfl ?_
    exact ⟨grownBelow (World.grownBy.refl _ _) (Nat.le_refl _) (by (repeat' (first | (with_reducible exact Below.refl _ _) | (with_reducible assumption) | (with_reducible refine Below.drew ?_) | (with_reducible refine belowDrewN ?_ _) | (with_reducible refine Below.alloc ?_ ?_ _) | (with_reducible refine Below.setCell ?_ ?_ _) | (with_reducible refine belowStep (by assumption) ?_ ?_) | (with_reducible exact Below.size (by assumption)) | go_size))), _, _, _, _, rfl, fun _ => ⟨Hst.out, trivial, HG.out, by omega, by omega⟩, fun h => by cases h⟩
theorem readEngel (w : World) (A : Option Addr) (c : Nat) (xs : List Int) (h : Reads w A xs) (hl : xs.length ≤ 24) (h64 : In64 xs) : Calls Tryz.prog 55 #[.slice A xs.length c] w (fun e w' => ∃ p q : Int, e = .returned (.tuple #[.agg #[.int .i64 p, .int .i64 q], .bool (engB xs)]) ∧ Below w.heap.size w w') := by
  refine (fromEngel_any w A c xs h (by omega) h64).mono ?_
  rintro e w' ⟨rfl, hb⟩
  exact ⟨_, _, rfl, hb⟩
set_option maxRecDepth 100000 in
set_option maxHeartbeats 2000000 in
theorem engelOf_any (n d : Int) (w : World) (rn : -9223372036854775808 ≤ n ∧ n ≤ 9223372036854775807) (rd : -9223372036854775808 ≤ d ∧ d ≤ 9223372036854775807) : Calls Tryz.prog 31 #[.agg #[.int .i64 n, .int .i64 d]] w (RetLB ((engO n d).getD []) (engO n d).isSome w) := by
  cases h : belowB n d with
  | false =>
    have E : Hid (engO n d = none) := Lib.hid (by unfold engO; rw [h]; rfl)
    go_enter Tryz.func31, Tryz.ntmps31
    go_wp2_with (go_at_call 40; refine (isBelowOne_any _ _ _ rn rd).mono ?_; rintro e w1 ⟨rfl, hb1⟩; obtain ⟨hc1, hf1⟩ := bcellB hb1; have hz1 := hb1.size; (try simp only [World.size_alloc] at hc1 hf1 hz1); (try have hy1_r_0 : wr.heap.size < w1.heap.size := by omega); (try have hn1_r_0 : wr.heap.size ≠ w1.heap.size := by omega); (try have hm1_r_0 : w1.heap.size ≠ wr.heap.size := by omega); (try have hy1_r_1 : wr.heap.size + 1 < w1.heap.size := by omega); (try have hn1_r_1 : wr.heap.size + 1 ≠ w1.heap.size := by omega); (try have hm1_r_1 : w1.heap.size ≠ wr.heap.size + 1 := by omega); (try have hy1_r_2 : wr.heap.size + 1 + 1 < w1.heap.size := by omega); (try have hp1_r_1 : wr.heap.size < w1.heap.size + 1 := by omega); (try have hp1_r_2 : wr.heap.size < w1.heap.size + 1 + 1 := by omega); (try have hy1_0_0 : w.heap.size < w1.heap.size := by omega); (try have hn1_0_0 : w.heap.size ≠ w1.heap.size := by omega); (try have hm1_0_0 : w1.heap.size ≠ w.heap.size := by omega); (try have hy1_0_1 : w.heap.size + 1 < w1.heap.size := by omega); (try have hn1_0_1 : w.heap.size + 1 ≠ w1.heap.size := by omega); (try have hm1_0_1 : w1.heap.size ≠ w.heap.size + 1 := by omega); (try have hy1_0_2 : w.heap.size + 1 + 1 < w1.heap.size := by omega); (try have hp1_0_1 : w.heap.size < w1.heap.size + 1 := by omega); (try have hp1_0_2 : w.heap.size < w1.heap.size + 1 + 1 := by omega); (try have hg1_g1 : g1 < w1.heap.size := by omega); (try have hi1_g1 : g1 ≠ w1.heap.size := by omega); (try have hj1_g1 : w1.heap.size ≠ g1 := by omega); (try have hk1_g1 : g1 < w1.heap.size + 1 := by omega); (try have hg1_g2 : g2 < w1.heap.size := by omega); (try have hi1_g2 : g2 ≠ w1.heap.size := by omega); (try have hj1_g2 : w1.heap.size ≠ g2 := by omega); (try have hk1_g2 : g2 < w1.heap.size + 1 := by omega))
    go_ret2
    rw [E.out]
    exact ⟨_, rfl, OwnI.empty _ _, by (repeat' (first | (with_reducible exact Below.refl _ _) | (with_reducible assumption) | (with_reducible refine Below.drew ?_) | (with_reducible refine belowDrewN ?_ _) | (with_reducible refine Below.alloc ?_ ?_ _) | (with_reducible refine Below.setCell ?_ ?_ _) | (with_reducible refine belowStep (by assumption) ?_ ?_) | (with_reducible exact Below.size (by assumption)) | go_size))⟩
  | true =>
    obtain ⟨hg, hlt⟩ := belowB_yes h
    have E : Hid (engO n d = lstO stE engB 24 0 n d) := Lib.hid (by unfold engO; rw [if_pos h])
    have HL := Lib.hid fun (w : World) => listBy_any 54 55 #[] stE engB (fun _ _ => True) none 0 n d w (by simp) (fun _ _ _ _ _ => trivial) (fun _ _ => rfl) (fun _ _ => rfl) (fun l n d w1 hg hn _ _ _ => engelStep_R l n d w1 hg hn) small_E readEngel hg (by omega) (by omega) trivial
    go_enter Tryz.func31, Tryz.ntmps31
    go_wp2_with (go_at_call 40; refine (isBelowOne_any _ _ _ rn rd).mono ?_; rintro e w1 ⟨rfl, hb1⟩; obtain ⟨hc1, hf1⟩ := bcellB hb1; have hz1 := hb1.size; (try simp only [World.size_alloc] at hc1 hf1 hz1); (try have hy1_r_0 : wr.heap.size < w1.heap.size := by omega); (try have hn1_r_0 : wr.heap.size ≠ w1.heap.size := by omega); (try have hm1_r_0 : w1.heap.size ≠ wr.heap.size := by omega); (try have hy1_r_1 : wr.heap.size + 1 < w1.heap.size := by omega); (try have hn1_r_1 : wr.heap.size + 1 ≠ w1.heap.size := by omega); (try have hm1_r_1 : w1.heap.size ≠ wr.heap.size + 1 := by omega); (try have hy1_r_2 : wr.heap.size + 1 + 1 < w1.heap.size := by omega); (try have hp1_r_1 : wr.heap.size < w1.heap.size + 1 := by omega); (try have hp1_r_2 : wr.heap.size < w1.heap.size + 1 + 1 := by omega); (try have hy1_0_0 : w.heap.size < w1.heap.size := by omega); (try have hn1_0_0 : w.heap.size ≠ w1.heap.size := by omega); (try have hm1_0_0 : w1.heap.size ≠ w.heap.size := by omega); (try have hy1_0_1 : w.heap.size + 1 < w1.heap.size := by omega); (try have hn1_0_1 : w.heap.size + 1 ≠ w1.heap.size := by omega); (try have hm1_0_1 : w1.heap.size ≠ w.heap.size + 1 := by omega); (try have hy1_0_2 : w.heap.size + 1 + 1 < w1.heap.size := by omega); (try have hp1_0_1 : w.heap.size < w1.heap.size + 1 := by omega); (try have hp1_0_2 : w.heap.size < w1.heap.size + 1 + 1 := by omega); (try have hg1_g1 : g1 < w1.heap.size := by omega); (try have hi1_g1 : g1 ≠ w1.heap.size := by omega); (try have hj1_g1 : w1.heap.size ≠ g1 := by omega); (try have hk1_g1 : g1 < w1.heap.size + 1 := by omega); (try have hg1_g2 : g2 < w1.heap.size := by omega); (try have hi1_g2 : g2 ≠ w1.heap.size := by omega); (try have hj1_g2 : w1.heap.size ≠ g2 := by omega); (try have hk1_g2 : g2 < w1.heap.size + 1 := by omega))
    refine (HL.out _).mono ?_
    intro e w2 h2
    obtain ⟨v2, rfl, ho2, hb2⟩ := h2.below
    go_wp2
    go_ret2
    rw [E.out]
    exact ⟨_, rfl, ho2.mono (by (first | (go_size; done) | ((try simp only [World.size_alloc, World.size_setCell, World.size_drew, World.heap_drewN]); omega))), by (repeat' (first | (with_reducible exact Below.refl _ _) | (with_reducible assumption) | (with_reducible refine Below.drew ?_) | (with_reducible refine belowDrewN ?_ _) | (with_reducible refine Below.alloc ?_ ?_ _) | (with_reducible refine Below.setCell ?_ ?_ _) | (with_reducible refine belowStep (by assumption) ?_ ?_) | (with_reducible exact Below.size (by assumption)) | go_size))⟩
end Go.Proofs.YtbjblkfibinenadGreatDoor
