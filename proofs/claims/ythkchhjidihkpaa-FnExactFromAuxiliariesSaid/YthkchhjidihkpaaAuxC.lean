
/-
  Contracts of auxiliary numbers, in the program and in the model.
-/
import Derived.Test.YthkchhjidihkpaaQuoC
import Derived.Test.YthkchhjidihkpaaSum2
import Derived.Test.YthkchhjidihkpaaRep
import Derived.Test.YthkchhjidihkpaaIfExp
namespace Go.Proofs.Ythkchhjidihkpaa
open Go.RowKit
/-- a number that auxiliary numbers are quotients of -/
def axN (n : Int) : Bool := decide (1 ≤ n) && decide (n ≤ 1000000)
theorem axN_iff (n : Int) : axN n = true ↔ 1 ≤ n ∧ n ≤ 1000000 := by simp [axN]
def auB (xs : List Int) (n : Int) : Bool := expB xs && axN n && qB n xs
def auL (xs : List Int) (n : Int) : List Int := if auB xs n = true then qL n xs else []
theorem au_no {xs : List Int} {n : Int} (h : auB xs n = false) : auL xs n = [] := by unfold auL; rw [h]; rfl
theorem au_exp {xs : List Int} {n : Int} (h : expB xs = false) : auB xs n = false := by simp [auB, h]
theorem au_num {xs : List Int} {n : Int} (h : ¬ (1 ≤ n ∧ n ≤ 1000000)) : auB xs n = false := by
  have : axN n = false := by cases ha : axN n with
    | false => rfl
    | true => exact absurd ((axN_iff n).1 ha) h
  simp [auB, this]
theorem au_in {xs : List Int} {n : Int} (h : expB xs = true) (h1 : 1 ≤ n) (h2 : n ≤ 1000000) : auB xs n = qB n xs ∧ auL xs n = qR n xs := by
  have e : auB xs n = qB n xs := by unfold auB; rw [h, (axN_iff n).2 ⟨h1, h2⟩]; rfl
  exact ⟨e, by unfold auL qR; rw [e]⟩
theorem auL_len (xs : List Int) (n : Int) : (auL xs n).length ≤ 24 := by
  unfold auL
  split
  · rename_i h
    rw [qL_len]
    have : expB xs = true := by simp only [auB, Bool.and_eq_true] at h; exact h.1.1
    exact expB_len this
  · simp
def faB (xs : List Int) (n : Int) : Bool := decide (xs.length ≤ 24) && axN n && qB n xs && expB (qL n xs)
def faL (xs : List Int) (n : Int) : List Int := if faB xs n = true then qL n xs else []
theorem fa_no {xs : List Int} {n : Int} (h : faB xs n = false) : faL xs n = [] := by unfold faL; rw [h]; rfl
theorem fa_long {xs : List Int} {n : Int} (h : ¬ xs.length ≤ 24) : faB xs n = false := by simp [faB, h]
theorem fa_num {xs : List Int} {n : Int} (h : ¬ (1 ≤ n ∧ n ≤ 1000000)) : faB xs n = false := by
  have : axN n = false := by cases ha : axN n with
    | false => rfl
    | true => exact absurd ((axN_iff n).1 ha) h
  simp [faB, this]
theorem fa_div {xs : List Int} {n : Int} (h : qB n xs = false) : faB xs n = false := by simp [faB, h]
theorem fa_in {xs : List Int} {n : Int} (h : xs.length ≤ 24) (h1 : 1 ≤ n) (h2 : n ≤ 1000000) (hq : qB n xs = true) : faB xs n = expB (qL n xs) := by
  unfold faB; rw [(axN_iff n).2 ⟨h1, h2⟩, hq, decide_eq_true h]; rfl
theorem fa_yes {xs : List Int} {n : Int} (h : faB xs n = true) : faL xs n = qL n xs := by unfold faL; rw [if_pos h]
theorem faL_len (xs : List Int) (n : Int) : (faL xs n).length ≤ 24 := by
  unfold faL
  split
  · rename_i h
    rw [qL_len]
    simp only [faB, Bool.and_eq_true, decide_eq_true_eq] at h
    exact h.1.1.1
  · simp
/-- numbers that are out of range divide no such number -/
theorem qB_out {n : Int} {xs : List Int} (h1 : 1 ≤ n) (h2 : n ≤ 1000000) (h : (xs.all fun x => decide (1 ≤ x) && decide (x ≤ 1000000)) = false) : qB n xs = false := by
  cases hq : qB n xs with
  | false => rfl
  | true =>
    exfalso
    have : (xs.all fun x => decide (1 ≤ x) && decide (x ≤ 1000000)) = true := List.all_eq_true.2 fun x hx => by
      obtain ⟨a, b⟩ := qB_mem hq hx
      have := Int.le_of_dvd (by omega) (Int.dvd_of_emod_eq_zero b)
      simp; omega
    rw [this] at h
    cases h
set_option maxRecDepth 100000 in
set_option maxHeartbeats 2000000 in
theorem auxiliaries_any (w : World) (n : Int) (rn : -9223372036854775808 ≤ n ∧ n ≤ 9223372036854775807) (Axs : Option Addr) (cxs : Nat) (xs : List Int) (hxs : Reads w Axs xs) (lxs : xs.length ≤ 1048576) (r64 : In64 xs) : Calls Try.prog 41 #[.slice Axs xs.length cxs, .int .i64 n] w (RetLB (auL xs n) (auB xs n) w) := by
  have Hxs := Lib.hid hxs
  have H64 := Lib.hid r64
  have HE := Lib.hid fun (w : World) (h : Reads w Axs xs) => isExpansion_any w Axs cxs xs h lxs r64
  clear hxs r64
  cases hx : expB xs with
  | false =>
    have E := Lib.hid (au_exp (n := n) hx)
    rw [hx] at HE
    clear hx
    rw [au_no E.out, E.out]
    go_enter Try.func41, Try.ntmps41
    go_wp2_with fail
    refine (HE.out _ Hxs.out).mono ?_; rintro e w1 ⟨rfl, hb1⟩; obtain ⟨hc1, hf1⟩ := bcellB hb1; have hz1 := hb1.size; (try simp only [World.size_alloc, World.size_setCell, World.size_drew, World.heap_drewN] at hc1 hf1 hz1); (try have hy1_r_0 : wr.heap.size < w1.heap.size := by omega); (try have hn1_r_0 : wr.heap.size ≠ w1.heap.size := by omega); (try have hm1_r_0 : w1.heap.size ≠ wr.heap.size := by omega); (try have hy1_r_1 : wr.heap.size + 1 < w1.heap.size := by omega); (try have hn1_r_1 : wr.heap.size + 1 ≠ w1.heap.size := by omega); (try have hm1_r_1 : w1.heap.size ≠ wr.heap.size + 1 := by omega); (try have hy1_r_2 : wr.heap.size + 1 + 1 < w1.heap.size := by omega); (try have hp1_r_1 : wr.heap.size < w1.heap.size + 1 := by omega); (try have hp1_r_2 : wr.heap.size < w1.heap.size + 1 + 1 := by omega); (try have hy1_0_0 : w.heap.size < w1.heap.size := by omega); (try have hn1_0_0 : w.heap.size ≠ w1.heap.size := by omega); (try have hm1_0_0 : w1.heap.size ≠ w.heap.size := by omega); (try have hy1_0_1 : w.heap.size + 1 < w1.heap.size := by omega); (try have hn1_0_1 : w.heap.size + 1 ≠ w1.heap.size := by omega); (try have hm1_0_1 : w1.heap.size ≠ w.heap.size + 1 := by omega); (try have hy1_0_2 : w.heap.size + 1 + 1 < w1.heap.size := by omega); (try have hp1_0_1 : w.heap.size < w1.heap.size + 1 := by omega); (try have hp1_0_2 : w.heap.size < w1.heap.size + 1 + 1 := by omega); (try have hg1_g1 : g1 < w1.heap.size := by omega); (try have hi1_g1 : g1 ≠ w1.heap.size := by omega); (try have hj1_g1 : w1.heap.size ≠ g1 := by omega); (try have hk1_g1 : g1 < w1.heap.size + 1 := by omega); (try have hg1_g2 : g2 < w1.heap.size := by omega); (try have hi1_g2 : g2 ≠ w1.heap.size := by omega); (try have hj1_g2 : w1.heap.size ≠ g2 := by omega); (try have hk1_g2 : g2 < w1.heap.size + 1 := by omega)
    go_wp2
    go_ret2
    exact ⟨_, rfl, OwnI.empty _ _, by (repeat' (first | (with_reducible exact Below.refl _ _) | (with_reducible assumption) | (with_reducible refine Below.drew ?_) | (with_reducible refine belowDrewN ?_ _) | (with_reducible refine Below.alloc ?_ ?_ _) | (with_reducible refine Below.setCell ?_ ?_ _) | (with_reducible refine belowStep (by assumption) ?_ ?_) | (with_reducible exact Below.size (by assumption)) | go_size))⟩
  | true =>
    by_cases h1 : 1 ≤ n
    · by_cases h2 : n ≤ 1000000
      · obtain ⟨e1, e2⟩ := au_in hx h1 h2
        have HQ := Lib.hid fun (w : World) (h : Reads w Axs xs) => quotientsOf_any w n (by omega) (by omega) Axs cxs xs h lxs H64.out
        rw [hx] at HE
        rw [e1, e2]
        clear hx e1 e2
        generalize qR n xs = ys at *
        generalize qB n xs = told at *
        go_enter Try.func41, Try.ntmps41
        go_wp2_with fail
        refine (HE.out _ Hxs.out).mono ?_; rintro e w1 ⟨rfl, hb1⟩; obtain ⟨hc1, hf1⟩ := bcellB hb1; have hz1 := hb1.size; (try simp only [World.size_alloc, World.size_setCell, World.size_drew, World.heap_drewN] at hc1 hf1 hz1); (try have hy1_r_0 : wr.heap.size < w1.heap.size := by omega); (try have hn1_r_0 : wr.heap.size ≠ w1.heap.size := by omega); (try have hm1_r_0 : w1.heap.size ≠ wr.heap.size := by omega); (try have hy1_r_1 : wr.heap.size + 1 < w1.heap.size := by omega); (try have hn1_r_1 : wr.heap.size + 1 ≠ w1.heap.size := by omega); (try have hm1_r_1 : w1.heap.size ≠ wr.heap.size + 1 := by omega); (try have hy1_r_2 : wr.heap.size + 1 + 1 < w1.heap.size := by omega); (try have hp1_r_1 : wr.heap.size < w1.heap.size + 1 := by omega); (try have hp1_r_2 : wr.heap.size < w1.heap.size + 1 + 1 := by omega); (try have hy1_0_0 : w.heap.size < w1.heap.size := by omega); (try have hn1_0_0 : w.heap.size ≠ w1.heap.size := by omega); (try have hm1_0_0 : w1.heap.size ≠ w.heap.size := by omega); (try have hy1_0_1 : w.heap.size + 1 < w1.heap.size := by omega); (try have hn1_0_1 : w.heap.size + 1 ≠ w1.heap.size := by omega); (try have hm1_0_1 : w1.heap.size ≠ w.heap.size + 1 := by omega); (try have hy1_0_2 : w.heap.size + 1 + 1 < w1.heap.size := by omega); (try have hp1_0_1 : w.heap.size < w1.heap.size + 1 := by omega); (try have hp1_0_2 : w.heap.size < w1.heap.size + 1 + 1 := by omega); (try have hg1_g1 : g1 < w1.heap.size := by omega); (try have hi1_g1 : g1 ≠ w1.heap.size := by omega); (try have hj1_g1 : w1.heap.size ≠ g1 := by omega); (try have hk1_g1 : g1 < w1.heap.size + 1 := by omega); (try have hg1_g2 : g2 < w1.heap.size := by omega); (try have hi1_g2 : g2 ≠ w1.heap.size := by omega); (try have hj1_g2 : w1.heap.size ≠ g2 := by omega); (try have hk1_g2 : g2 < w1.heap.size + 1 := by omega)
        go_wp2_with fail
        refine (HQ.out _ (Hxs.out.below (by (repeat' (first | (with_reducible exact Below.refl _ _) | (with_reducible assumption) | (with_reducible refine Below.drew ?_) | (with_reducible refine belowDrewN ?_ _) | (with_reducible refine Below.alloc ?_ ?_ _) | (with_reducible refine Below.setCell ?_ ?_ _) | (with_reducible refine belowStep (by assumption) ?_ ?_) | (with_reducible exact Below.size (by assumption)) | go_size))))).mono ?_; rintro e w2 ⟨v2, rfl, ho2, hb2⟩; have hz2 := hb2.size; (try simp only [World.size_alloc, World.size_setCell, World.size_drew, World.heap_drewN] at hz2)
        go_wp2
        go_ret2
        exact ⟨_, rfl, ho2.mono (by (first | (go_size; done) | ((try simp only [World.size_alloc, World.size_setCell, World.size_drew, World.heap_drewN]); omega))), by (repeat' (first | (with_reducible exact Below.refl _ _) | (with_reducible assumption) | (with_reducible refine Below.drew ?_) | (with_reducible refine belowDrewN ?_ _) | (with_reducible refine Below.alloc ?_ ?_ _) | (with_reducible refine Below.setCell ?_ ?_ _) | (with_reducible refine belowStep (by assumption) ?_ ?_) | (with_reducible exact Below.size (by assumption)) | go_size))⟩
      · have E := Lib.hid (au_num (xs := xs) (n := n) (fun h => h2 h.2))
        rw [hx] at HE
        clear hx
        rw [au_no E.out, E.out]
        go_enter Try.func41, Try.ntmps41
        go_wp2_with fail
        refine (HE.out _ Hxs.out).mono ?_; rintro e w1 ⟨rfl, hb1⟩; obtain ⟨hc1, hf1⟩ := bcellB hb1; have hz1 := hb1.size; (try simp only [World.size_alloc, World.size_setCell, World.size_drew, World.heap_drewN] at hc1 hf1 hz1); (try have hy1_r_0 : wr.heap.size < w1.heap.size := by omega); (try have hn1_r_0 : wr.heap.size ≠ w1.heap.size := by omega); (try have hm1_r_0 : w1.heap.size ≠ wr.heap.size := by omega); (try have hy1_r_1 : wr.heap.size + 1 < w1.heap.size := by omega); (try have hn1_r_1 : wr.heap.size + 1 ≠ w1.heap.size := by omega); (try have hm1_r_1 : w1.heap.size ≠ wr.heap.size + 1 := by omega); (try have hy1_r_2 : wr.heap.size + 1 + 1 < w1.heap.size := by omega); (try have hp1_r_1 : wr.heap.size < w1.heap.size + 1 := by omega); (try have hp1_r_2 : wr.heap.size < w1.heap.size + 1 + 1 := by omega); (try have hy1_0_0 : w.heap.size < w1.heap.size := by omega); (try have hn1_0_0 : w.heap.size ≠ w1.heap.size := by omega); (try have hm1_0_0 : w1.heap.size ≠ w.heap.size := by omega); (try have hy1_0_1 : w.heap.size + 1 < w1.heap.size := by omega); (try have hn1_0_1 : w.heap.size + 1 ≠ w1.heap.size := by omega); (try have hm1_0_1 : w1.heap.size ≠ w.heap.size + 1 := by omega); (try have hy1_0_2 : w.heap.size + 1 + 1 < w1.heap.size := by omega); (try have hp1_0_1 : w.heap.size < w1.heap.size + 1 := by omega); (try have hp1_0_2 : w.heap.size < w1.heap.size + 1 + 1 := by omega); (try have hg1_g1 : g1 < w1.heap.size := by omega); (try have hi1_g1 : g1 ≠ w1.heap.size := by omega); (try have hj1_g1 : w1.heap.size ≠ g1 := by omega); (try have hk1_g1 : g1 < w1.heap.size + 1 := by omega); (try have hg1_g2 : g2 < w1.heap.size := by omega); (try have hi1_g2 : g2 ≠ w1.heap.size := by omega); (try have hj1_g2 : w1.heap.size ≠ g2 := by omega); (try have hk1_g2 : g2 < w1.heap.size + 1 := by omega)
        go_wp2
        go_ret2
        exact ⟨_, rfl, OwnI.empty _ _, by (repeat' (first | (with_reducible exact Below.refl _ _) | (with_reducible assumption) | (with_reducible refine Below.drew ?_) | (with_reducible refine belowDrewN ?_ _) | (with_reducible refine Below.alloc ?_ ?_ _) | (with_reducible refine Below.setCell ?_ ?_ _) | (with_reducible refine belowStep (by assumption) ?_ ?_) | (with_reducible exact Below.size (by assumption)) | go_size))⟩
    · have E := Lib.hid (au_num (xs := xs) (n := n) (fun h => h1 h.1))
      rw [hx] at HE
      clear hx
      rw [au_no E.out, E.out]
      go_enter Try.func41, Try.ntmps41
      go_wp2_with fail
      refine (HE.out _ Hxs.out).mono ?_; rintro e w1 ⟨rfl, hb1⟩; obtain ⟨hc1, hf1⟩ := bcellB hb1; have hz1 := hb1.size; (try simp only [World.size_alloc, World.size_setCell, World.size_drew, World.heap_drewN] at hc1 hf1 hz1); (try have hy1_r_0 : wr.heap.size < w1.heap.size := by omega); (try have hn1_r_0 : wr.heap.size ≠ w1.heap.size := by omega); (try have hm1_r_0 : w1.heap.size ≠ wr.heap.size := by omega); (try have hy1_r_1 : wr.heap.size + 1 < w1.heap.size := by omega); (try have hn1_r_1 : wr.heap.size + 1 ≠ w1.heap.size := by omega); (try have hm1_r_1 : w1.heap.size ≠ wr.heap.size + 1 := by omega); (try have hy1_r_2 : wr.heap.size + 1 + 1 < w1.heap.size := by omega); (try have hp1_r_1 : wr.heap.size < w1.heap.size + 1 := by omega); (try have hp1_r_2 : wr.heap.size < w1.heap.size + 1 + 1 := by omega); (try have hy1_0_0 : w.heap.size < w1.heap.size := by omega); (try have hn1_0_0 : w.heap.size ≠ w1.heap.size := by omega); (try have hm1_0_0 : w1.heap.size ≠ w.heap.size := by omega); (try have hy1_0_1 : w.heap.size + 1 < w1.heap.size := by omega); (try have hn1_0_1 : w.heap.size + 1 ≠ w1.heap.size := by omega); (try have hm1_0_1 : w1.heap.size ≠ w.heap.size + 1 := by omega); (try have hy1_0_2 : w.heap.size + 1 + 1 < w1.heap.size := by omega); (try have hp1_0_1 : w.heap.size < w1.heap.size + 1 := by omega); (try have hp1_0_2 : w.heap.size < w1.heap.size + 1 + 1 := by omega); (try have hg1_g1 : g1 < w1.heap.size := by omega); (try have hi1_g1 : g1 ≠ w1.heap.size := by omega); (try have hj1_g1 : w1.heap.size ≠ g1 := by omega); (try have hk1_g1 : g1 < w1.heap.size + 1 := by omega); (try have hg1_g2 : g2 < w1.heap.size := by omega); (try have hi1_g2 : g2 ≠ w1.heap.size := by omega); (try have hj1_g2 : w1.heap.size ≠ g2 := by omega); (try have hk1_g2 : g2 < w1.heap.size + 1 := by omega)
      go_wp2
      go_ret2
      exact ⟨_, rfl, OwnI.empty _ _, by (repeat' (first | (with_reducible exact Below.refl _ _) | (with_reducible assumption) | (with_reducible refine Below.drew ?_) | (with_reducible refine belowDrewN ?_ _) | (with_reducible refine Below.alloc ?_ ?_ _) | (with_reducible refine Below.setCell ?_ ?_ _) | (with_reducible refine belowStep (by assumption) ?_ ?_) | (with_reducible exact Below.size (by assumption)) | go_size))⟩
set_option maxRecDepth 100000 in
set_option maxHeartbeats 2000000 in
theorem fromAux_any (w : World) (n : Int) (rn : -9223372036854775808 ≤ n ∧ n ≤ 9223372036854775807) (Axs : Option Addr) (cxs : Nat) (xs : List Int) (hxs : Reads w Axs xs) (lxs : xs.length ≤ 1048576) (r64 : In64 xs) : Calls Try.prog 43 #[.slice Axs xs.length cxs, .int .i64 n] w (RetLB (faL xs n) (faB xs n) w) := by
  have Hxs := Lib.hid hxs
  have H64 := Lib.hid r64
  clear hxs r64
  by_cases hl : xs.length ≤ 24
  · have hli : ¬ (24 : Int) < (xs.length : Int) := by omega
    by_cases h1 : 1 ≤ n
    · by_cases h2 : n ≤ 1000000
      · have HQ := Lib.hid fun (w : World) (h : Reads w Axs xs) => quotientsOf_any w n (by omega) (by omega) Axs cxs xs h lxs H64.out
        cases hq : qB n xs with
        | false =>
          have E := Lib.hid (fa_div hq)
          rw [hq] at HQ
          clear hq
          rw [fa_no E.out, E.out]
          go_enter Try.func43, Try.ntmps43
          go_wp2_with fail
          refine (HQ.out _ Hxs.out).mono ?_; rintro e w2 ⟨v2, rfl, ho2, hb2⟩; have hz2 := hb2.size; (try simp only [World.size_alloc, World.size_setCell, World.size_drew, World.heap_drewN] at hz2)
          go_wp2
          go_ret2
          exact ⟨_, rfl, OwnI.empty _ _, by (repeat' (first | (with_reducible exact Below.refl _ _) | (with_reducible assumption) | (with_reducible refine Below.drew ?_) | (with_reducible refine belowDrewN ?_ _) | (with_reducible refine Below.alloc ?_ ?_ _) | (with_reducible refine Below.setCell ?_ ?_ _) | (with_reducible refine belowStep (by assumption) ?_ ?_) | (with_reducible exact Below.size (by assumption)) | go_size))⟩
        | true =>
          have hf := fa_in hl h1 h2 hq
          have HY := Lib.hid (fun h => fa_yes (xs := xs) (n := n) h)
          have HN := Lib.hid (fun h => fa_no (xs := xs) (n := n) h)
          have h64 := Lib.hid (qL_64 (n := n) (ds := xs) (by omega) (by omega) (fun d hd => (qB_mem hq hd).1))
          have hql : (qL n xs).length ≤ 24 := by rw [qL_len]; exact hl
          rw [qR_yes hq, hq] at HQ
          clear hq
          generalize faL xs n = fl at *
          generalize qL n xs = ys at *
          cases he : expB ys with
          | true =>
            rw [he] at hf
            rw [hf]
            have E : Hid (fl = ys) := Lib.hid (HY.out hf)
            rw [E.out]
            clear HY HN hf E
            have HI := Lib.hid fun (w : World) (A : Option Addr) (c : Nat) (h : Reads w A ys) => ifExp_yes w A c ys h (by omega) h64.out he
            clear he
            go_enter Try.func43, Try.ntmps43
            go_wp2_with fail
            refine (HQ.out _ Hxs.out).mono ?_; rintro e w2 ⟨v2, rfl, ho2, hb2⟩; have hz2 := hb2.size; (try simp only [World.size_alloc, World.size_setCell, World.size_drew, World.heap_drewN] at hz2)
            obtain ⟨A2, c2, rfl, hr2⟩ := ho2.form
            go_wp2_with fail
            refine (HI.out _ _ _ hr2).mono ?_; rintro e w3 ⟨rfl, hb3⟩; have hz3 := hb3.size; (try simp only [World.size_alloc, World.size_setCell, World.size_drew, World.heap_drewN] at hz3)
            go_wp2
            go_ret2
            exact ⟨_, rfl, OwnI.mono (ho2.below hb3) (by (first | (go_size; done) | ((try simp only [World.size_alloc, World.size_setCell, World.size_drew, World.heap_drewN]); omega))), by (repeat' (first | (with_reducible exact Below.refl _ _) | (with_reducible assumption) | (with_reducible refine Below.drew ?_) | (with_reducible refine belowDrewN ?_ _) | (with_reducible refine Below.alloc ?_ ?_ _) | (with_reducible refine Below.setCell ?_ ?_ _) | (with_reducible refine belowStep (by assumption) ?_ ?_) | (with_reducible exact Below.size (by assumption)) | go_size))⟩
          | false =>
            rw [he] at hf
            rw [hf]
            have E : Hid (fl = []) := Lib.hid (HN.out hf)
            rw [E.out]
            clear HY HN hf E
            have HI := Lib.hid fun (w : World) (A : Option Addr) (c : Nat) (h : Reads w A ys) => ifExp_no w A c ys h (by omega) h64.out he
            clear he
            go_enter Try.func43, Try.ntmps43
            go_wp2_with fail
            refine (HQ.out _ Hxs.out).mono ?_; rintro e w2 ⟨v2, rfl, ho2, hb2⟩; have hz2 := hb2.size; (try simp only [World.size_alloc, World.size_setCell, World.size_drew, World.heap_drewN] at hz2)
            obtain ⟨A2, c2, rfl, hr2⟩ := ho2.form
            go_wp2_with fail
            refine (HI.out _ _ _ hr2).mono ?_; rintro e w3 ⟨rfl, hb3⟩; have hz3 := hb3.size; (try simp only [World.size_alloc, World.size_setCell, World.size_drew, World.heap_drewN] at hz3)
            go_wp2
            go_ret2
            exact ⟨_, rfl, OwnI.empty _ _, by (repeat' (first | (with_reducible exact Below.refl _ _) | (with_reducible assumption) | (with_reducible refine Below.drew ?_) | (with_reducible refine belowDrewN ?_ _) | (with_reducible refine Below.alloc ?_ ?_ _) | (with_reducible refine Below.setCell ?_ ?_ _) | (with_reducible refine belowStep (by assumption) ?_ ?_) | (with_reducible exact Below.size (by assumption)) | go_size))⟩
      · have E := Lib.hid (fa_num (xs := xs) (n := n) (fun h => h2 h.2))
        rw [fa_no E.out, E.out]
        go_enter Try.func43, Try.ntmps43
        go_wp2
        go_ret2
        exact ⟨_, rfl, OwnI.empty _ _, by (repeat' (first | (with_reducible exact Below.refl _ _) | (with_reducible assumption) | (with_reducible refine Below.drew ?_) | (with_reducible refine belowDrewN ?_ _) | (with_reducible refine Below.alloc ?_ ?_ _) | (with_reducible refine Below.setCell ?_ ?_ _) | (with_reducible refine belowStep (by assumption) ?_ ?_) | (with_reducible exact Below.size (by assumption)) | go_size))⟩
    · have E := Lib.hid (fa_num (xs := xs) (n := n) (fun h => h1 h.1))
      rw [fa_no E.out, E.out]
      go_enter Try.func43, Try.ntmps43
      go_wp2
      go_ret2
      exact ⟨_, rfl, OwnI.empty _ _, by (repeat' (first | (with_reducible exact Below.refl _ _) | (with_reducible assumption) | (with_reducible refine Below.drew ?_) | (with_reducible refine belowDrewN ?_ _) | (with_reducible refine Below.alloc ?_ ?_ _) | (with_reducible refine Below.setCell ?_ ?_ _) | (with_reducible refine belowStep (by assumption) ?_ ?_) | (with_reducible exact Below.size (by assumption)) | go_size))⟩
  · have hli : (24 : Int) < (xs.length : Int) := by omega
    have E := Lib.hid (fa_long (n := n) hl)
    rw [fa_no E.out, E.out]
    go_enter Try.func43, Try.ntmps43
    go_wp2
    go_ret2
    exact ⟨_, rfl, OwnI.empty _ _, by (repeat' (first | (with_reducible exact Below.refl _ _) | (with_reducible assumption) | (with_reducible refine Below.drew ?_) | (with_reducible refine belowDrewN ?_ _) | (with_reducible refine Below.alloc ?_ ?_ _) | (with_reducible refine Below.setCell ?_ ?_ _) | (with_reducible refine belowStep (by assumption) ?_ ?_) | (with_reducible exact Below.size (by assumption)) | go_size))⟩
set_option maxRecDepth 100000 in
set_option maxHeartbeats 4000000 in
theorem spec_auxiliaries_any (w : World) (n : Int) (Axs : Option Addr) (cxs : Nat) (xs : List Int) (hxs : Reads w Axs xs) (lxs : xs.length ≤ 1048576) : Calls Try.prog 40 #[.slice Axs xs.length cxs, .int .i64 n] w (RetRB (auL xs n) (auB xs n) w) := by
  have Hxs := Lib.hid hxs
  have HE := Lib.hid fun (w : World) (h : Reads w Axs xs) => unExpansion_any w Axs cxs xs h lxs
  clear hxs
  cases hx : expB xs with
  | false =>
    have E := Lib.hid (au_exp (n := n) hx)
    rw [hx] at HE
    clear hx
    rw [au_no E.out, E.out]
    go_enter Try.func40, Try.ntmps40
    go_wp2_with fail
    refine (HE.out _ Hxs.out).mono ?_; rintro e w1 ⟨rfl, hb1⟩; obtain ⟨hc1, hf1⟩ := bcellB hb1; have hz1 := hb1.size; (try simp only [World.size_alloc, World.size_setCell, World.size_drew, World.heap_drewN] at hc1 hf1 hz1); (try have hy1_r_0 : wr.heap.size < w1.heap.size := by omega); (try have hn1_r_0 : wr.heap.size ≠ w1.heap.size := by omega); (try have hm1_r_0 : w1.heap.size ≠ wr.heap.size := by omega); (try have hy1_r_1 : wr.heap.size + 1 < w1.heap.size := by omega); (try have hn1_r_1 : wr.heap.size + 1 ≠ w1.heap.size := by omega); (try have hm1_r_1 : w1.heap.size ≠ wr.heap.size + 1 := by omega); (try have hy1_r_2 : wr.heap.size + 1 + 1 < w1.heap.size := by omega); (try have hp1_r_1 : wr.heap.size < w1.heap.size + 1 := by omega); (try have hp1_r_2 : wr.heap.size < w1.heap.size + 1 + 1 := by omega); (try have hy1_0_0 : w.heap.size < w1.heap.size := by omega); (try have hn1_0_0 : w.heap.size ≠ w1.heap.size := by omega); (try have hm1_0_0 : w1.heap.size ≠ w.heap.size := by omega); (try have hy1_0_1 : w.heap.size + 1 < w1.heap.size := by omega); (try have hn1_0_1 : w.heap.size + 1 ≠ w1.heap.size := by omega); (try have hm1_0_1 : w1.heap.size ≠ w.heap.size + 1 := by omega); (try have hy1_0_2 : w.heap.size + 1 + 1 < w1.heap.size := by omega); (try have hp1_0_1 : w.heap.size < w1.heap.size + 1 := by omega); (try have hp1_0_2 : w.heap.size < w1.heap.size + 1 + 1 := by omega); (try have hg1_g1 : g1 < w1.heap.size := by omega); (try have hi1_g1 : g1 ≠ w1.heap.size := by omega); (try have hj1_g1 : w1.heap.size ≠ g1 := by omega); (try have hk1_g1 : g1 < w1.heap.size + 1 := by omega); (try have hg1_g2 : g2 < w1.heap.size := by omega); (try have hi1_g2 : g2 ≠ w1.heap.size := by omega); (try have hj1_g2 : w1.heap.size ≠ g2 := by omega); (try have hk1_g2 : g2 < w1.heap.size + 1 := by omega)
    go_wp2
    go_ret2
    exact ⟨none, 0, rfl, Reads.nil, by (repeat' (first | (with_reducible exact Below.refl _ _) | (with_reducible assumption) | (with_reducible refine Below.drew ?_) | (with_reducible refine belowDrewN ?_ _) | (with_reducible refine Below.alloc ?_ ?_ _) | (with_reducible refine Below.setCell ?_ ?_ _) | (with_reducible refine belowStep (by assumption) ?_ ?_) | (with_reducible exact Below.size (by assumption)) | go_size))⟩
  | true =>
    by_cases h12 : 1 ≤ n ∧ n ≤ 1000000
    · obtain ⟨h1, h2⟩ := h12
      obtain ⟨e1, e2⟩ := au_in hx h1 h2
      have HS := Lib.hid fun d (hd : d ∈ xs) => expB_small hx d hd
      have hln := expB_len hx
      rw [hx] at HE
      rw [e1, e2]
      clear hx e1 e2
      go_enter Try.func40, Try.ntmps40
      go_wp2_with fail
      refine (HE.out _ Hxs.out).mono ?_; rintro e w1 ⟨rfl, hb1⟩; obtain ⟨hc1, hf1⟩ := bcellB hb1; have hz1 := hb1.size; (try simp only [World.size_alloc, World.size_setCell, World.size_drew, World.heap_drewN] at hc1 hf1 hz1); (try have hy1_r_0 : wr.heap.size < w1.heap.size := by omega); (try have hn1_r_0 : wr.heap.size ≠ w1.heap.size := by omega); (try have hm1_r_0 : w1.heap.size ≠ wr.heap.size := by omega); (try have hy1_r_1 : wr.heap.size + 1 < w1.heap.size := by omega); (try have hn1_r_1 : wr.heap.size + 1 ≠ w1.heap.size := by omega); (try have hm1_r_1 : w1.heap.size ≠ wr.heap.size + 1 := by omega); (try have hy1_r_2 : wr.heap.size + 1 + 1 < w1.heap.size := by omega); (try have hp1_r_1 : wr.heap.size < w1.heap.size + 1 := by omega); (try have hp1_r_2 : wr.heap.size < w1.heap.size + 1 + 1 := by omega); (try have hy1_0_0 : w.heap.size < w1.heap.size := by omega); (try have hn1_0_0 : w.heap.size ≠ w1.heap.size := by omega); (try have hm1_0_0 : w1.heap.size ≠ w.heap.size := by omega); (try have hy1_0_1 : w.heap.size + 1 < w1.heap.size := by omega); (try have hn1_0_1 : w.heap.size + 1 ≠ w1.heap.size := by omega); (try have hm1_0_1 : w1.heap.size ≠ w.heap.size + 1 := by omega); (try have hy1_0_2 : w.heap.size + 1 + 1 < w1.heap.size := by omega); (try have hp1_0_1 : w.heap.size < w1.heap.size + 1 := by omega); (try have hp1_0_2 : w.heap.size < w1.heap.size + 1 + 1 := by omega); (try have hg1_g1 : g1 < w1.heap.size := by omega); (try have hi1_g1 : g1 ≠ w1.heap.size := by omega); (try have hj1_g1 : w1.heap.size ≠ g1 := by omega); (try have hk1_g1 : g1 < w1.heap.size + 1 := by omega); (try have hg1_g2 : g2 < w1.heap.size := by omega); (try have hi1_g2 : g2 ≠ w1.heap.size := by omega); (try have hj1_g2 : w1.heap.size ≠ g2 := by omega); (try have hk1_g2 : g2 < w1.heap.size + 1 := by omega)
      go_wp2_with fail
      refine (l1In_yes _ _ _ _ h1 h2).mono ?_; rintro e w2 ⟨rfl, k2, rfl⟩
      go_wp2
      go_loopw [6, 19] (fun v4 vk wr => ∃ k : Nat, k ≤ xs.length ∧ vk = .int .i64 (k : Int) ∧ Hid (qB n (xs.take k) = true) ∧ OwnI wr w.heap.size v4 (qL n (xs.take k)) ∧ Below w.heap.size w wr) (fun _ vk _ => xs.length - (intOf vk).toNat)
      case atStart => exact ⟨0, Nat.zero_le _, rfl, Lib.hid rfl, OwnI.empty _ _, by (repeat' (first | (with_reducible exact Below.refl _ _) | (with_reducible assumption) | (with_reducible refine Below.drew ?_) | (with_reducible refine belowDrewN ?_ _) | (with_reducible refine Below.alloc ?_ ?_ _) | (with_reducible refine Below.setCell ?_ ?_ _) | (with_reducible refine belowStep (by assumption) ?_ ?_) | (with_reducible exact Below.size (by assumption)) | go_size))⟩
      case round =>
        obtain ⟨k, hk, rfl, HB, ho, hbr⟩ := hrel
        have hzr := hbr.size
        have Ho := Lib.hid ho
        clear ho
        have hol : (qL n (xs.take k)).length ≤ 24 := by rw [qL_len, List.length_take]; omega
        by_cases hlt : k < xs.length
        · obtain ⟨b9, o9, d, rfl, hbb, hx, hcell⟩ := (Hxs.out.below hbr).at_ hlt
          obtain ⟨d1, d2⟩ := HS.out d (List.mem_of_getElem? hx)
          have Hx := Lib.hid hx
          clear hx
          have hdn : d ≠ 0 := by omega
          have ht1 : n.tdiv d = n / d := Int.tdiv_eq_ediv_of_nonneg (by omega)
          have ht2 : n.tmod d = n % d := Int.tmod_eq_emod_of_nonneg (by omega)
          have hq1 := Int.ediv_le_self d (show 0 ≤ n by omega)
          have hq2 := Int.ediv_nonneg (show 0 ≤ n by omega) (show 0 ≤ d by omega)
          have hr1 := Int.emod_nonneg n hdn
          have hr2 := Int.emod_lt_of_pos n (show 0 < d by omega)
          by_cases hm : n % d = 0
          · have HT := Lib.hid (qL_take (n := n) Hx.out)
            have HB2 : Hid (qB n (xs.take (k + 1)) = true) := Lib.hid (by
              refine qB_of fun y hy => ?_
              rw [List.take_add_one, Hx.out] at hy
              rcases List.mem_append.1 hy with hy | hy
              · exact qB_mem HB.out hy
              · obtain rfl : y = d := by simpa using hy
                exact ⟨d1, hm⟩)
            have hmb : (n % d != 0) = false := by simp [hm]
            rw [hm] at ht2 hr1 hr2
            clear hm hmb
            generalize qL n (xs.take k) = ts at *
            generalize n / d = q at *
            go_wp2_with (at_builtin; refine wpList_app _ (o := ⟨some 32, _, _, _, _, _⟩) (ys := [q]) rfl _ _ rfl rfl (OwnI.below Ho.out ((Below.refl _ _).alloc (Nat.le_refl _) _)) (1) (1) (by first | (simp; done) | (simp; omega)) rfl (Reads.one _ q) (by (try simp only [List.length_nil, List.length_cons]); omega) (by first | exact Nat.le_refl _ | ((try simp only [World.size_alloc]); omega)) ?_; intro v6 w6 ho6 hb6 hg6 ht6; clear hg6 ht6; have hz6 := hb6.size; (try simp only [World.size_alloc] at hz6))
            go_roundw
            case rel => exact ⟨k + 1, by omega, by go_num, HB2, by rw [HT.out]; exact ho6, by (repeat' (first | (with_reducible exact Below.refl _ _) | (with_reducible assumption) | (with_reducible refine Below.drew ?_) | (with_reducible refine belowDrewN ?_ _) | (with_reducible refine Below.alloc ?_ ?_ _) | (with_reducible refine Below.setCell ?_ ?_ _) | (with_reducible refine belowStep (by assumption) ?_ ?_) | (with_reducible exact Below.size (by assumption)) | go_size))⟩
            case measure => simp [intOf]; omega
          · have E : Hid (qB n xs = false) := Lib.hid (qB_no Hx.out (fun e => hm e.2))
            generalize n % d = r at *
            have hmb : (r != 0) = true := by simp [hm]
            go_wp2
            go_ret2
            rw [qR_no E.out, E.out]
            exact ⟨none, 0, rfl, Reads.nil, by (repeat' (first | (with_reducible exact Below.refl _ _) | (with_reducible assumption) | (with_reducible refine Below.drew ?_) | (with_reducible refine belowDrewN ?_ _) | (with_reducible refine Below.alloc ?_ ?_ _) | (with_reducible refine Below.setCell ?_ ?_ _) | (with_reducible refine belowStep (by assumption) ?_ ?_) | (with_reducible exact Below.size (by assumption)) | go_size))⟩
        · obtain rfl : k = xs.length := by omega
          have EB : Hid (qB n xs = true) := Lib.hid (by have := HB.out; rwa [List.take_length] at this)
          rw [List.take_length] at Ho
          rw [List.take_length] at hol
          go_wp2
          go_ret2
          rw [EB.out, qR_yes EB.out]
          obtain ⟨A7, c7, rfl, hr7⟩ := Ho.out.form
          exact ⟨_, _, rfl, hr7, by (repeat' (first | (with_reducible exact Below.refl _ _) | (with_reducible assumption) | (with_reducible refine Below.drew ?_) | (with_reducible refine belowDrewN ?_ _) | (with_reducible refine Below.alloc ?_ ?_ _) | (with_reducible refine Below.setCell ?_ ?_ _) | (with_reducible refine belowStep (by assumption) ?_ ?_) | (with_reducible exact Below.size (by assumption)) | go_size))⟩
    · have E := Lib.hid (au_num (xs := xs) (n := n) h12)
      rw [hx] at HE
      clear hx
      rw [au_no E.out, E.out]
      go_enter Try.func40, Try.ntmps40
      go_wp2_with fail
      refine (HE.out _ Hxs.out).mono ?_; rintro e w1 ⟨rfl, hb1⟩; obtain ⟨hc1, hf1⟩ := bcellB hb1; have hz1 := hb1.size; (try simp only [World.size_alloc, World.size_setCell, World.size_drew, World.heap_drewN] at hc1 hf1 hz1); (try have hy1_r_0 : wr.heap.size < w1.heap.size := by omega); (try have hn1_r_0 : wr.heap.size ≠ w1.heap.size := by omega); (try have hm1_r_0 : w1.heap.size ≠ wr.heap.size := by omega); (try have hy1_r_1 : wr.heap.size + 1 < w1.heap.size := by omega); (try have hn1_r_1 : wr.heap.size + 1 ≠ w1.heap.size := by omega); (try have hm1_r_1 : w1.heap.size ≠ wr.heap.size + 1 := by omega); (try have hy1_r_2 : wr.heap.size + 1 + 1 < w1.heap.size := by omega); (try have hp1_r_1 : wr.heap.size < w1.heap.size + 1 := by omega); (try have hp1_r_2 : wr.heap.size < w1.heap.size + 1 + 1 := by omega); (try have hy1_0_0 : w.heap.size < w1.heap.size := by omega); (try have hn1_0_0 : w.heap.size ≠ w1.heap.size := by omega); (try have hm1_0_0 : w1.heap.size ≠ w.heap.size := by omega); (try have hy1_0_1 : w.heap.size + 1 < w1.heap.size := by omega); (try have hn1_0_1 : w.heap.size + 1 ≠ w1.heap.size := by omega); (try have hm1_0_1 : w1.heap.size ≠ w.heap.size + 1 := by omega); (try have hy1_0_2 : w.heap.size + 1 + 1 < w1.heap.size := by omega); (try have hp1_0_1 : w.heap.size < w1.heap.size + 1 := by omega); (try have hp1_0_2 : w.heap.size < w1.heap.size + 1 + 1 := by omega); (try have hg1_g1 : g1 < w1.heap.size := by omega); (try have hi1_g1 : g1 ≠ w1.heap.size := by omega); (try have hj1_g1 : w1.heap.size ≠ g1 := by omega); (try have hk1_g1 : g1 < w1.heap.size + 1 := by omega); (try have hg1_g2 : g2 < w1.heap.size := by omega); (try have hi1_g2 : g2 ≠ w1.heap.size := by omega); (try have hj1_g2 : w1.heap.size ≠ g2 := by omega); (try have hk1_g2 : g2 < w1.heap.size + 1 := by omega)
      go_wp2_with fail
      refine (l1In_no _ _ _ _ h12).mono ?_; rintro e w2 ⟨rfl, k2, rfl⟩
      go_wp2
      go_ret2
      exact ⟨none, 0, rfl, Reads.nil, by (repeat' (first | (with_reducible exact Below.refl _ _) | (with_reducible assumption) | (with_reducible refine Below.drew ?_) | (with_reducible refine belowDrewN ?_ _) | (with_reducible refine Below.alloc ?_ ?_ _) | (with_reducible refine Below.setCell ?_ ?_ _) | (with_reducible refine belowStep (by assumption) ?_ ?_) | (with_reducible exact Below.size (by assumption)) | go_size))⟩
set_option maxRecDepth 100000 in
set_option maxHeartbeats 4000000 in
theorem spec_fromAux_any (w : World) (n : Int) (Axs : Option Addr) (cxs : Nat) (xs : List Int) (hxs : Reads w Axs xs) (lxs : xs.length ≤ 1048576) : Calls Try.prog 42 #[.slice Axs xs.length cxs, .int .i64 n] w (RetRB (faL xs n) (faB xs n) w) := by
  have Hxs := Lib.hid hxs
  have HE := Lib.hid fun (w : World) (h : Reads w Axs xs) => l1All_any w 1 1000000 Axs cxs xs h lxs
  clear hxs
  by_cases hl : xs.length ≤ 24
  · have hli : ¬ (24 : Int) < (xs.length : Int) := by omega
    by_cases h12 : 1 ≤ n ∧ n ≤ 1000000
    · obtain ⟨h1, h2⟩ := h12
      cases hx : (xs.all fun x => decide (1 ≤ x) && decide (x ≤ 1000000)) with
      | false =>
        have E := Lib.hid (fa_div (qB_out h1 h2 hx))
        rw [hx] at HE
        clear hx
        rw [fa_no E.out, E.out]
        go_enter Try.func42, Try.ntmps42
        go_wp2_with fail
        refine (HE.out _ Hxs.out).mono ?_; rintro e w1 ⟨rfl, k1, rfl⟩
        go_wp2
        go_ret2
        exact ⟨none, 0, rfl, Reads.nil, by (repeat' (first | (with_reducible exact Below.refl _ _) | (with_reducible assumption) | (with_reducible refine Below.drew ?_) | (with_reducible refine belowDrewN ?_ _) | (with_reducible refine Below.alloc ?_ ?_ _) | (with_reducible refine Below.setCell ?_ ?_ _) | (with_reducible refine belowStep (by assumption) ?_ ?_) | (with_reducible exact Below.size (by assumption)) | go_size))⟩
      | true =>
        have HS : Hid (∀ d ∈ xs, 1 ≤ d ∧ d ≤ 1000000000) := Lib.hid fun d hd => by have := List.all_eq_true.1 hx d hd; simp at this; omega
        rw [hx] at HE
        clear hx
        have HF := Lib.hid fun h => fa_in hl h1 h2 h
        have HD := Lib.hid fun h => fa_div (n := n) (xs := xs) h
        go_enter Try.func42, Try.ntmps42
        go_wp2_with fail
        refine (HE.out _ Hxs.out).mono ?_; rintro e w1 ⟨rfl, k1, rfl⟩
        go_wp2_with fail
        refine (l1In_yes _ _ _ _ h1 h2).mono ?_; rintro e w2 ⟨rfl, k2, rfl⟩
        go_wp2
        go_loopw [6, 24] (fun v4 vk wr => ∃ k : Nat, k ≤ xs.length ∧ vk = .int .i64 (k : Int) ∧ Hid (qB n (xs.take k) = true) ∧ OwnI wr w.heap.size v4 (qL n (xs.take k)) ∧ Below w.heap.size w wr) (fun _ vk _ => xs.length - (intOf vk).toNat)
        case atStart => exact ⟨0, Nat.zero_le _, rfl, Lib.hid rfl, OwnI.empty _ _, by (repeat' (first | (with_reducible exact Below.refl _ _) | (with_reducible assumption) | (with_reducible refine Below.drew ?_) | (with_reducible refine belowDrewN ?_ _) | (with_reducible refine Below.alloc ?_ ?_ _) | (with_reducible refine Below.setCell ?_ ?_ _) | (with_reducible refine belowStep (by assumption) ?_ ?_) | (with_reducible exact Below.size (by assumption)) | go_size))⟩
        case round =>
          obtain ⟨k, hk, rfl, HB, ho, hbr⟩ := hrel
          have hzr := hbr.size
          have Ho := Lib.hid ho
          clear ho
          have hol : (qL n (xs.take k)).length ≤ 24 := by rw [qL_len, List.length_take]; omega
          by_cases hlt : k < xs.length
          · obtain ⟨b9, o9, d, rfl, hbb, hx, hcell⟩ := (Hxs.out.below hbr).at_ hlt
            obtain ⟨d1, d2⟩ := HS.out d (List.mem_of_getElem? hx)
            have Hx := Lib.hid hx
            clear hx
            have hdn : d ≠ 0 := by omega
            have ht1 : n.tdiv d = n / d := Int.tdiv_eq_ediv_of_nonneg (by omega)
            have ht2 : n.tmod d = n % d := Int.tmod_eq_emod_of_nonneg (by omega)
            have hq1 := Int.ediv_le_self d (show 0 ≤ n by omega)
            have hq2 := Int.ediv_nonneg (show 0 ≤ n by omega) (show 0 ≤ d by omega)
            have hr1 := Int.emod_nonneg n hdn
            have hr2 := Int.emod_lt_of_pos n (show 0 < d by omega)
            by_cases hm : n % d = 0
            · have HT := Lib.hid (qL_take (n := n) Hx.out)
              have HB2 : Hid (qB n (xs.take (k + 1)) = true) := Lib.hid (by
                refine qB_of fun y hy => ?_
                rw [List.take_add_one, Hx.out] at hy
                rcases List.mem_append.1 hy with hy | hy
                · exact qB_mem HB.out hy
                · obtain rfl : y = d := by simpa using hy
                  exact ⟨d1, hm⟩)
              have hmb : (n % d != 0) = false := by simp [hm]
              rw [hm] at ht2 hr1 hr2
              clear hm hmb
              generalize qL n (xs.take k) = ts at *
              generalize n / d = q at *
              go_wp2_with (at_builtin; refine wpList_app _ (o := ⟨some 37, _, _, _, _, _⟩) (ys := [q]) rfl _ _ rfl rfl (OwnI.below Ho.out ((Below.refl _ _).alloc (Nat.le_refl _) _)) (1) (1) (by first | (simp; done) | (simp; omega)) rfl (Reads.one _ q) (by (try simp only [List.length_nil, List.length_cons]); omega) (by first | exact Nat.le_refl _ | ((try simp only [World.size_alloc]); omega)) ?_; intro v6 w6 ho6 hb6 hg6 ht6; clear hg6 ht6; have hz6 := hb6.size; (try simp only [World.size_alloc] at hz6))
              go_roundw
              case rel => exact ⟨k + 1, by omega, by go_num, HB2, by rw [HT.out]; exact ho6, by (repeat' (first | (with_reducible exact Below.refl _ _) | (with_reducible assumption) | (with_reducible refine Below.drew ?_) | (with_reducible refine belowDrewN ?_ _) | (with_reducible refine Below.alloc ?_ ?_ _) | (with_reducible refine Below.setCell ?_ ?_ _) | (with_reducible refine belowStep (by assumption) ?_ ?_) | (with_reducible exact Below.size (by assumption)) | go_size))⟩
              case measure => simp [intOf]; omega
            · have E : Hid (qB n xs = false) := Lib.hid (qB_no Hx.out (fun e => hm e.2))
              generalize n % d = r at *
              have hmb : (r != 0) = true := by simp [hm]
              go_wp2
              go_ret2
              rw [fa_no (HD.out E.out), HD.out E.out]
              exact ⟨none, 0, rfl, Reads.nil, by (repeat' (first | (with_reducible exact Below.refl _ _) | (with_reducible assumption) | (with_reducible refine Below.drew ?_) | (with_reducible refine belowDrewN ?_ _) | (with_reducible refine Below.alloc ?_ ?_ _) | (with_reducible refine Below.setCell ?_ ?_ _) | (with_reducible refine belowStep (by assumption) ?_ ?_) | (with_reducible exact Below.size (by assumption)) | go_size))⟩
          · obtain rfl : k = xs.length := by omega
            have EB : Hid (qB n xs = true) := Lib.hid (by have := HB.out; rwa [List.take_length] at this)
            rw [List.take_length] at Ho
            rw [List.take_length] at hol
            have hf := HF.out EB.out
            have HY := Lib.hid (fun h => fa_yes (xs := xs) (n := n) h)
            have HN := Lib.hid (fun h => fa_no (xs := xs) (n := n) h)
            obtain ⟨A7, c7, rfl, hr7⟩ := Ho.out.form
            have R7 := Lib.hid hr7
            clear Ho hr7 HF HD
            generalize faL xs n = fl at *
            generalize qL n xs = ys at *
            cases he : expB ys with
            | true =>
              rw [he] at hf
              have E : Hid (fl = ys) := Lib.hid (HY.out hf)
              have HFT := Lib.hid hf
              clear HY HN hf
              go_wp2_with fail
              refine (unList_yes _ _ _ _ R7.out (by omega) he).mono ?_; rintro e w8 ⟨rfl, hb8⟩; have hz8 := hb8.size; (try simp only [World.size_alloc, World.size_setCell, World.size_drew, World.heap_drewN] at hz8)
              go_wp2
              go_ret2
              rw [E.out, HFT.out]
              exact ⟨_, _, rfl, R7.out.below hb8, by (repeat' (first | (with_reducible exact Below.refl _ _) | (with_reducible assumption) | (with_reducible refine Below.drew ?_) | (with_reducible refine belowDrewN ?_ _) | (with_reducible refine Below.alloc ?_ ?_ _) | (with_reducible refine Below.setCell ?_ ?_ _) | (with_reducible refine belowStep (by assumption) ?_ ?_) | (with_reducible exact Below.size (by assumption)) | go_size))⟩
            | false =>
              rw [he] at hf
              have E : Hid (fl = []) := Lib.hid (HN.out hf)
              have HFT := Lib.hid hf
              clear HY HN hf
              go_wp2_with fail
              refine (unList_no _ _ _ _ R7.out (by omega) he).mono ?_; rintro e w8 ⟨rfl, hb8⟩; have hz8 := hb8.size; (try simp only [World.size_alloc, World.size_setCell, World.size_drew, World.heap_drewN] at hz8)
              go_wp2
              go_ret2
              rw [E.out, HFT.out]
              exact ⟨none, 0, rfl, Reads.nil, by (repeat' (first | (with_reducible exact Below.refl _ _) | (with_reducible assumption) | (with_reducible refine Below.drew ?_) | (with_reducible refine belowDrewN ?_ _) | (with_reducible refine Below.alloc ?_ ?_ _) | (with_reducible refine Below.setCell ?_ ?_ _) | (with_reducible refine belowStep (by assumption) ?_ ?_) | (with_reducible exact Below.size (by assumption)) | go_size))⟩
    · have E := Lib.hid (fa_num (xs := xs) (n := n) h12)
      rw [fa_no E.out, E.out]
      cases hx : (xs.all fun x => decide (1 ≤ x) && decide (x ≤ 1000000)) with
      | false =>
        rw [hx] at HE
        clear hx
        go_enter Try.func42, Try.ntmps42
        go_wp2_with fail
        refine (HE.out _ Hxs.out).mono ?_; rintro e w1 ⟨rfl, k1, rfl⟩
        go_wp2
        go_ret2
        exact ⟨none, 0, rfl, Reads.nil, by (repeat' (first | (with_reducible exact Below.refl _ _) | (with_reducible assumption) | (with_reducible refine Below.drew ?_) | (with_reducible refine belowDrewN ?_ _) | (with_reducible refine Below.alloc ?_ ?_ _) | (with_reducible refine Below.setCell ?_ ?_ _) | (with_reducible refine belowStep (by assumption) ?_ ?_) | (with_reducible exact Below.size (by assumption)) | go_size))⟩
      | true =>
        rw [hx] at HE
        clear hx
        go_enter Try.func42, Try.ntmps42
        go_wp2_with fail
        refine (HE.out _ Hxs.out).mono ?_; rintro e w1 ⟨rfl, k1, rfl⟩
        go_wp2_with fail
        refine (l1In_no _ _ _ _ h12).mono ?_; rintro e w2 ⟨rfl, k2, rfl⟩
        go_wp2
        go_ret2
        exact ⟨none, 0, rfl, Reads.nil, by (repeat' (first | (with_reducible exact Below.refl _ _) | (with_reducible assumption) | (with_reducible refine Below.drew ?_) | (with_reducible refine belowDrewN ?_ _) | (with_reducible refine Below.alloc ?_ ?_ _) | (with_reducible refine Below.setCell ?_ ?_ _) | (with_reducible refine belowStep (by assumption) ?_ ?_) | (with_reducible exact Below.size (by assumption)) | go_size))⟩
  · have hli : (24 : Int) < (xs.length : Int) := by omega
    have E := Lib.hid (fa_long (n := n) hl)
    rw [fa_no E.out, E.out]
    go_enter Try.func42, Try.ntmps42
    go_wp2
    go_ret2
    exact ⟨none, 0, rfl, Reads.nil, by (repeat' (first | (with_reducible exact Below.refl _ _) | (with_reducible assumption) | (with_reducible refine Below.drew ?_) | (with_reducible refine belowDrewN ?_ _) | (with_reducible refine Below.alloc ?_ ?_ _) | (with_reducible refine Below.setCell ?_ ?_ _) | (with_reducible refine belowStep (by assumption) ?_ ?_) | (with_reducible exact Below.size (by assumption)) | go_size))⟩
end Go.Proofs.Ythkchhjidihkpaa
