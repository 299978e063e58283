import Derived.Test.YtolgjokghecceaaGreatDoorSum
import Derived.Test.YtolgjokghecceaaGreatDoorPk2

/-
  Contracts of the test of an expansion and of its sum.
-/
namespace Go.Proofs.YtolgjokghecceaaGreatDoor
open Go.RowKit
theorem rise_in {lo hi : Int} : ∀ {xs : List Int} {p : Option Int}, rise lo hi p xs = true → ∀ (i : Nat) (x : Int), xs[i]? = some x → lo ≤ x ∧ x ≤ hi
  | [], _, _, i, x, h => by simp at h
  | t :: ts, p, hr, i, x, h => by
    unfold rise at hr
    simp only [Bool.and_eq_true, decide_eq_true_eq] at hr
    cases i with
    | zero => simp at h; subst h; exact ⟨hr.1.1.1, hr.1.1.2⟩
    | succ i => exact rise_in hr.2 i x (by simpa using h)

theorem sumL_good : ∀ {xs : List Int} {n d n' d' : Int}, goodB n d = true → (∀ (i : Nat) (x : Int), xs[i]? = some x → 1 ≤ x ∧ x ≤ 1000000000) → sumL n d xs = some (n', d') → goodB n' d' = true
  | [], n, d, n', d', hg, _, h => by
    simp only [sumL, Option.some.injEq, Prod.mk.injEq] at h
    rw [← h.1, ← h.2]; exact hg
  | t :: ts, n, d, n', d', hg, hin, h => by
    obtain ⟨n1, n2, d1, d2⟩ := good_bounds hg
    obtain ⟨t1, t2⟩ := hin 0 t rfl
    have p1 := mul_bounds n1 n2 (by omega : 0 ≤ t) t2
    have p2 := mul_pos1 d1 t1
    cases hr : redB (n * t + d) (d * t) with
    | false => rw [sumL_no hr] at h; cases h
    | true =>
      rw [sumL_yes hr] at h
      exact sumL_good (good_of_redB (by omega) p2 hr) (fun i x hx => hin (i + 1) x (by simpa using hx)) h
theorem good_sum {xs : List Int} (h : expB xs = true) : goodB (sumN xs) (sumD xs) = true := by
  have hp := expB_parts h
  exact sumL_good good_zero (rise_in hp.2.1) hp.2.2
set_option maxHeartbeats 1000000 in
theorem unExpansion_any (w : World) (Axs : Option Addr) (cxs : Nat) (xs : List Int) (hxs : Reads w Axs xs) (lxs : xs.length ≤ 1048576) : Calls Tryz.prog 98 #[.slice Axs xs.length cxs] w (Ret (.bool (expB xs)) w) := by
  by_cases hlen : xs.length ≤ 24
  · cases hr : rise 1 1000000000 none xs with
    | true =>
      have hin := rise_in hr
      have He : Hid (expB xs = (sumL 0 1 xs).isSome) := by show _ = _; simp [expB, hlen, hr]
      have Hin := Lib.hid hin
      have Hxs := Lib.hid hxs
      clear hin hxs
      go_enter Tryz.func98, Tryz.ntmps98
      go_wp2_with (first | (go_at_call 117; refine (l1Rising_any _ _ _ _ _ _ Hxs.out (by omega)).mono ?_; rintro e w1 ⟨rfl, k1, rfl⟩) | (go_at_call 118; refine (unSum_any _ _ _ _ (Hxs.out.drewN _) (by omega) Hin.out).mono ?_; rintro e w1 ⟨rfl, hb1⟩; obtain ⟨hc1, hf1⟩ := bcellB hb1; have hz1 := hb1.size; (try simp only [World.size_alloc, World.size_setCell, World.size_drew, World.heap_drewN] at hc1 hf1 hz1); (try have hy1_r_0 : wr.heap.size < w1.heap.size := by omega); (try have hn1_r_0 : wr.heap.size ≠ w1.heap.size := by omega); (try have hm1_r_0 : w1.heap.size ≠ wr.heap.size := by omega); (try have hy1_r_1 : wr.heap.size + 1 < w1.heap.size := by omega); (try have hn1_r_1 : wr.heap.size + 1 ≠ w1.heap.size := by omega); (try have hm1_r_1 : w1.heap.size ≠ wr.heap.size + 1 := by omega); (try have hy1_r_2 : wr.heap.size + 1 + 1 < w1.heap.size := by omega); (try have hp1_r_1 : wr.heap.size < w1.heap.size + 1 := by omega); (try have hp1_r_2 : wr.heap.size < w1.heap.size + 1 + 1 := by omega); (try have hy1_0_0 : w.heap.size < w1.heap.size := by omega); (try have hn1_0_0 : w.heap.size ≠ w1.heap.size := by omega); (try have hm1_0_0 : w1.heap.size ≠ w.heap.size := by omega); (try have hy1_0_1 : w.heap.size + 1 < w1.heap.size := by omega); (try have hn1_0_1 : w.heap.size + 1 ≠ w1.heap.size := by omega); (try have hm1_0_1 : w1.heap.size ≠ w.heap.size + 1 := by omega); (try have hy1_0_2 : w.heap.size + 1 + 1 < w1.heap.size := by omega); (try have hp1_0_1 : w.heap.size < w1.heap.size + 1 := by omega); (try have hp1_0_2 : w.heap.size < w1.heap.size + 1 + 1 := by omega); (try have hg1_g1 : g1 < w1.heap.size := by omega); (try have hi1_g1 : g1 ≠ w1.heap.size := by omega); (try have hj1_g1 : w1.heap.size ≠ g1 := by omega); (try have hk1_g1 : g1 < w1.heap.size + 1 := by omega); (try have hg1_g2 : g2 < w1.heap.size := by omega); (try have hi1_g2 : g2 ≠ w1.heap.size := by omega); (try have hj1_g2 : w1.heap.size ≠ g2 := by omega); (try have hk1_g2 : g2 < w1.heap.size + 1 := by omega)))
      go_ret
      exact ⟨ret_bool He.out.symm, by (repeat' (first | (with_reducible exact Below.refl _ _) | (with_reducible assumption) | (with_reducible refine Below.drew ?_) | (with_reducible refine belowDrewN ?_ _) | (with_reducible refine Below.alloc ?_ ?_ _) | (with_reducible refine Below.setCell ?_ ?_ _) | (with_reducible refine belowStep (by assumption) ?_ ?_) | (with_reducible exact Below.size (by assumption)) | go_size))⟩
    | false =>
      have He := Lib.hid (expB_rise hr)
      have Hxs := Lib.hid hxs
      clear hxs
      go_enter Tryz.func98, Tryz.ntmps98
      go_wp2_with (go_at_call 117; refine (l1Rising_any _ _ _ _ _ _ Hxs.out (by omega)).mono ?_; rintro e w1 ⟨rfl, k1, rfl⟩)
      go_ret
      exact ⟨ret_bool He.out.symm, by (repeat' (first | (with_reducible exact Below.refl _ _) | (with_reducible assumption) | (with_reducible refine Below.drew ?_) | (with_reducible refine belowDrewN ?_ _) | (with_reducible refine Below.alloc ?_ ?_ _) | (with_reducible refine Below.setCell ?_ ?_ _) | (with_reducible refine belowStep (by assumption) ?_ ?_) | (with_reducible exact Below.size (by assumption)) | go_size))⟩
  · have He := Lib.hid (expB_long hlen)
    have h24 : 24 < xs.length := by omega
    have Hxs := Lib.hid hxs
    clear hxs hlen
    go_enter Tryz.func98, Tryz.ntmps98
    go_wp2
    go_ret
    exact ⟨ret_bool He.out.symm, by (repeat' (first | (with_reducible exact Below.refl _ _) | (with_reducible assumption) | (with_reducible refine Below.drew ?_) | (with_reducible refine belowDrewN ?_ _) | (with_reducible refine Below.alloc ?_ ?_ _) | (with_reducible refine Below.setCell ?_ ?_ _) | (with_reducible refine belowStep (by assumption) ?_ ?_) | (with_reducible exact Below.size (by assumption)) | go_size))⟩

def eN (xs : List Int) : Int := if expB xs = true then sumN xs else 0
def eD (xs : List Int) : Int := if expB xs = true then sumD xs else 0
theorem eN_no {xs : List Int} (h : expB xs = false) : eN xs = 0 := by rw [eN, h]; rfl
theorem eD_no {xs : List Int} (h : expB xs = false) : eD xs = 0 := by rw [eD, h]; rfl

set_option maxHeartbeats 4000000 in
theorem sumOf_any (w : World) (Axs : Option Addr) (cxs : Nat) (xs : List Int) (hxs : Reads w Axs xs) (lxs : xs.length ≤ 1048576) (r64 : ∀ (i : Nat) (x : Int), xs[i]? = some x → -9223372036854775808 ≤ x ∧ x ≤ 9223372036854775807) :
    Calls Tryz.prog 39 #[.slice Axs xs.length cxs] w (Ret (.tuple #[.agg #[.int .i64 (eN xs), .int .i64 (eD xs)], .bool (expB xs)]) w) := by
  have Hr64 := Lib.hid r64
  have Hxs := Lib.hid hxs
  clear hxs r64
  by_cases hlen : xs.length ≤ 24
  · have Hlen := Lib.hid hlen
    have lt02 : w.heap.size < w.heap.size + 1 + 1 := by omega
    have lt03 : w.heap.size < w.heap.size + 1 + 1 + 1 := by omega
    have ne02 : w.heap.size ≠ w.heap.size + 1 + 1 := by omega
    have ne20 : w.heap.size + 1 + 1 ≠ w.heap.size := by omega
    have ne03 : w.heap.size ≠ w.heap.size + 1 + 1 + 1 := by omega
    have ne30 : w.heap.size + 1 + 1 + 1 ≠ w.heap.size := by omega
    have lt13 : w.heap.size + 1 < w.heap.size + 1 + 1 + 1 := by omega
    go_enter Tryz.func39, Tryz.ntmps39
    go_wp2
    go_loopw [5, 17] (fun v5 v17 wr => ∃ (k : Nat) (n d l : Int), k ≤ xs.length ∧ v5 = .int .i64 l ∧ v17 = .int .i64 k ∧ goodB n d = true ∧ 0 ≤ l ∧ l ≤ 1000000000 ∧ rise 1 1000000000 none xs = rise 1 1000000000 (some l) (xs.drop k) ∧ sumL 0 1 xs = sumL n d (xs.drop k) ∧ TwoAt wr w.heap.size 0 0 ∧ TwoAt wr (w.heap.size + 1) n d ∧ Below w.heap.size w wr) (fun _ v17 _ => xs.length - (intOf v17).toNat)
    case atStart => exact ⟨0, 0, 1, 0, Nat.zero_le _, rfl, rfl, good_zero, by omega, by omega, (rise_zero (by omega)).symm, rfl, by (refine ⟨?_, ?_, ?_, ?_, ?_⟩ <;> first | (simp only [World.size_alloc, World.size_setCell, World.size_drew, World.heap_drewN]; omega) | (first | (simp [*, World.cell?_alloc_some, World.cell?_setCell_far]; done) | (simp [go_sem, *]; done))), by (refine ⟨?_, ?_, ?_, ?_, ?_⟩ <;> first | (simp only [World.size_alloc, World.size_setCell, World.size_drew, World.heap_drewN]; omega) | (first | (simp [*, World.cell?_alloc_some, World.cell?_setCell_far]; done) | (simp [go_sem, *]; done))), by (repeat' (first | (with_reducible exact Below.refl _ _) | (with_reducible assumption) | (with_reducible refine Below.drew ?_) | (with_reducible refine belowDrewN ?_ _) | (with_reducible refine Below.alloc ?_ ?_ _) | (with_reducible refine Below.setCell ?_ ?_ _) | (with_reducible refine belowStep (by assumption) ?_ ?_) | (with_reducible exact Below.size (by assumption)) | go_size))⟩
    case round =>
      obtain ⟨k, n, d, l, hk, rfl, rfl, hg, hl1, hl2, hr, hs, ⟨c1, c2, f1, f2, z1⟩, ⟨c3, c4, f3, f4, z2⟩, hbr⟩ := hrel
      have Hg := Lib.hid hg
      have Hs := Lib.hid hs
      have Hr := Lib.hid hr
      obtain ⟨n1, n2, d1, d2⟩ := good_bounds hg
      clear hg hs hr
      by_cases hlt : k < xs.length
      · obtain ⟨b, o, x, rfl, hb, hx, hcell⟩ := (Hxs.out.below hbr).at_ hlt
        obtain ⟨y1, y2⟩ := Hr64.out k x hx
        have Hx := Lib.hid hx
        clear hx
        by_cases hlow : x ≤ l
        · have He : Hid (expB xs = false) := expB_rise (by
            have := Hr.out
            rw [drop_at Hx.out, rise_low (by omega)] at this
            exact this)
          go_wp2
          refine bodyPost_ret (by simp [results, Tryz.results39, go_sem, *]; try rfl) rfl ?_
          exact ⟨ret_fr (eN_no He.out).symm (eD_no He.out).symm He.out.symm, by (repeat' (first | (with_reducible exact Below.refl _ _) | (with_reducible assumption) | (with_reducible refine Below.drew ?_) | (with_reducible refine belowDrewN ?_ _) | (with_reducible refine Below.alloc ?_ ?_ _) | (with_reducible refine Below.setCell ?_ ?_ _) | (with_reducible refine belowStep (by assumption) ?_ ?_) | (with_reducible exact Below.size (by assumption)) | go_size))⟩
        · by_cases hbig : x ≤ 1000000000
          · have x1 : 1 ≤ x := by omega
            have p1 := mul_bounds n1 n2 (by omega : 0 ≤ x) hbig
            have p2 := mul_pos1 d1 x1
            cases hred : redB (n * x + d) (d * x) with
            | true =>
              have Hred := Lib.hid hred
              go_wp2_with (go_at_call 50; refine (add_yes _ _ _ _ _ Hg.out (good_unit x1 hbig)).mono ?_; rintro e w1 ⟨rfl, hb1⟩; obtain ⟨hc1, hf1⟩ := bcellB hb1; have hz1 := hb1.size; (try simp only [World.size_alloc, World.size_setCell, World.size_drew, World.heap_drewN] at hc1 hf1 hz1); (try have hy1_r_0 : wr.heap.size < w1.heap.size := by omega); (try have hn1_r_0 : wr.heap.size ≠ w1.heap.size := by omega); (try have hm1_r_0 : w1.heap.size ≠ wr.heap.size := by omega); (try have hy1_r_1 : wr.heap.size + 1 < w1.heap.size := by omega); (try have hn1_r_1 : wr.heap.size + 1 ≠ w1.heap.size := by omega); (try have hm1_r_1 : w1.heap.size ≠ wr.heap.size + 1 := by omega); (try have hy1_r_2 : wr.heap.size + 1 + 1 < w1.heap.size := by omega); (try have hp1_r_1 : wr.heap.size < w1.heap.size + 1 := by omega); (try have hp1_r_2 : wr.heap.size < w1.heap.size + 1 + 1 := by omega); (try have hy1_0_0 : w.heap.size < w1.heap.size := by omega); (try have hn1_0_0 : w.heap.size ≠ w1.heap.size := by omega); (try have hm1_0_0 : w1.heap.size ≠ w.heap.size := by omega); (try have hy1_0_1 : w.heap.size + 1 < w1.heap.size := by omega); (try have hn1_0_1 : w.heap.size + 1 ≠ w1.heap.size := by omega); (try have hm1_0_1 : w1.heap.size ≠ w.heap.size + 1 := by omega); (try have hy1_0_2 : w.heap.size + 1 + 1 < w1.heap.size := by omega); (try have hp1_0_1 : w.heap.size < w1.heap.size + 1 := by omega); (try have hp1_0_2 : w.heap.size < w1.heap.size + 1 + 1 := by omega); (try have hg1_g1 : g1 < w1.heap.size := by omega); (try have hi1_g1 : g1 ≠ w1.heap.size := by omega); (try have hj1_g1 : w1.heap.size ≠ g1 := by omega); (try have hk1_g1 : g1 < w1.heap.size + 1 := by omega); (try have hg1_g2 : g2 < w1.heap.size := by omega); (try have hi1_g2 : g2 ≠ w1.heap.size := by omega); (try have hj1_g2 : w1.heap.size ≠ g2 := by omega); (try have hk1_g2 : g2 < w1.heap.size + 1 := by omega))
              go_roundw
              case rel => exact ⟨k + 1, redN (n * x + d) (d * x), redD (n * x + d) (d * x), x, by omega, rfl, by go_num, good_of_redB (by omega) p2 Hred.out, by omega, by omega, by rw [Hr.out, drop_at Hx.out, rise_next x1 hbig (by omega)], by rw [Hs.out, drop_at Hx.out, sumL_yes Hred.out], by (refine ⟨?_, ?_, ?_, ?_, ?_⟩ <;> first | (simp only [World.size_alloc, World.size_setCell, World.size_drew, World.heap_drewN]; omega) | (first | (simp [*, World.cell?_alloc_some, World.cell?_setCell_far]; done) | (simp [go_sem, *]; done))), by (refine ⟨?_, ?_, ?_, ?_, ?_⟩ <;> first | (simp only [World.size_alloc, World.size_setCell, World.size_drew, World.heap_drewN]; omega) | (first | (simp [*, World.cell?_alloc_some, World.cell?_setCell_far]; done) | (simp [go_sem, *]; done))), by (repeat' (first | (with_reducible exact Below.refl _ _) | (with_reducible assumption) | (with_reducible refine Below.drew ?_) | (with_reducible refine belowDrewN ?_ _) | (with_reducible refine Below.alloc ?_ ?_ _) | (with_reducible refine Below.setCell ?_ ?_ _) | (with_reducible refine belowStep (by assumption) ?_ ?_) | (with_reducible exact Below.size (by assumption)) | go_size))⟩
              case measure => simp [intOf]; omega
            | false =>
              have Hred := Lib.hid hred
              have He : Hid (expB xs = false) := expB_sum (by
                have := Hs.out
                rw [drop_at Hx.out, sumL_no Hred.out] at this
                exact this)
              go_wp2_with (go_at_call 50; refine (add_yes _ _ _ _ _ Hg.out (good_unit x1 hbig)).mono ?_; rintro e w1 ⟨rfl, hb1⟩; obtain ⟨hc1, hf1⟩ := bcellB hb1; have hz1 := hb1.size; (try simp only [World.size_alloc, World.size_setCell, World.size_drew, World.heap_drewN] at hc1 hf1 hz1); (try have hy1_r_0 : wr.heap.size < w1.heap.size := by omega); (try have hn1_r_0 : wr.heap.size ≠ w1.heap.size := by omega); (try have hm1_r_0 : w1.heap.size ≠ wr.heap.size := by omega); (try have hy1_r_1 : wr.heap.size + 1 < w1.heap.size := by omega); (try have hn1_r_1 : wr.heap.size + 1 ≠ w1.heap.size := by omega); (try have hm1_r_1 : w1.heap.size ≠ wr.heap.size + 1 := by omega); (try have hy1_r_2 : wr.heap.size + 1 + 1 < w1.heap.size := by omega); (try have hp1_r_1 : wr.heap.size < w1.heap.size + 1 := by omega); (try have hp1_r_2 : wr.heap.size < w1.heap.size + 1 + 1 := by omega); (try have hy1_0_0 : w.heap.size < w1.heap.size := by omega); (try have hn1_0_0 : w.heap.size ≠ w1.heap.size := by omega); (try have hm1_0_0 : w1.heap.size ≠ w.heap.size := by omega); (try have hy1_0_1 : w.heap.size + 1 < w1.heap.size := by omega); (try have hn1_0_1 : w.heap.size + 1 ≠ w1.heap.size := by omega); (try have hm1_0_1 : w1.heap.size ≠ w.heap.size + 1 := by omega); (try have hy1_0_2 : w.heap.size + 1 + 1 < w1.heap.size := by omega); (try have hp1_0_1 : w.heap.size < w1.heap.size + 1 := by omega); (try have hp1_0_2 : w.heap.size < w1.heap.size + 1 + 1 := by omega); (try have hg1_g1 : g1 < w1.heap.size := by omega); (try have hi1_g1 : g1 ≠ w1.heap.size := by omega); (try have hj1_g1 : w1.heap.size ≠ g1 := by omega); (try have hk1_g1 : g1 < w1.heap.size + 1 := by omega); (try have hg1_g2 : g2 < w1.heap.size := by omega); (try have hi1_g2 : g2 ≠ w1.heap.size := by omega); (try have hj1_g2 : w1.heap.size ≠ g2 := by omega); (try have hk1_g2 : g2 < w1.heap.size + 1 := by omega))
              refine bodyPost_ret (by simp [results, Tryz.results39, go_sem, *]; try rfl) rfl ?_
              exact ⟨ret_fr (eN_no He.out).symm (eD_no He.out).symm He.out.symm, by (repeat' (first | (with_reducible exact Below.refl _ _) | (with_reducible assumption) | (with_reducible refine Below.drew ?_) | (with_reducible refine belowDrewN ?_ _) | (with_reducible refine Below.alloc ?_ ?_ _) | (with_reducible refine Below.setCell ?_ ?_ _) | (with_reducible refine belowStep (by assumption) ?_ ?_) | (with_reducible exact Below.size (by assumption)) | go_size))⟩
          · have He : Hid (expB xs = false) := expB_rise (by
              have := Hr.out
              rw [drop_at Hx.out, rise_out (by omega)] at this
              exact this)
            have hgu := good_unit_no (t := x) (by omega)
            have Hgu := Lib.hid hgu
            clear hgu
            go_wp2_with (go_at_call 50; refine (add_no _ _ _ _ _ (by omega) (by omega) (by omega) (by omega) (fun h => by rw [Hgu.out] at h; cases h.2)).mono ?_; rintro e w1 ⟨rfl, hb1⟩; obtain ⟨hc1, hf1⟩ := bcellB hb1; have hz1 := hb1.size; (try simp only [World.size_alloc, World.size_setCell, World.size_drew, World.heap_drewN] at hc1 hf1 hz1); (try have hy1_r_0 : wr.heap.size < w1.heap.size := by omega); (try have hn1_r_0 : wr.heap.size ≠ w1.heap.size := by omega); (try have hm1_r_0 : w1.heap.size ≠ wr.heap.size := by omega); (try have hy1_r_1 : wr.heap.size + 1 < w1.heap.size := by omega); (try have hn1_r_1 : wr.heap.size + 1 ≠ w1.heap.size := by omega); (try have hm1_r_1 : w1.heap.size ≠ wr.heap.size + 1 := by omega); (try have hy1_r_2 : wr.heap.size + 1 + 1 < w1.heap.size := by omega); (try have hp1_r_1 : wr.heap.size < w1.heap.size + 1 := by omega); (try have hp1_r_2 : wr.heap.size < w1.heap.size + 1 + 1 := by omega); (try have hy1_0_0 : w.heap.size < w1.heap.size := by omega); (try have hn1_0_0 : w.heap.size ≠ w1.heap.size := by omega); (try have hm1_0_0 : w1.heap.size ≠ w.heap.size := by omega); (try have hy1_0_1 : w.heap.size + 1 < w1.heap.size := by omega); (try have hn1_0_1 : w.heap.size + 1 ≠ w1.heap.size := by omega); (try have hm1_0_1 : w1.heap.size ≠ w.heap.size + 1 := by omega); (try have hy1_0_2 : w.heap.size + 1 + 1 < w1.heap.size := by omega); (try have hp1_0_1 : w.heap.size < w1.heap.size + 1 := by omega); (try have hp1_0_2 : w.heap.size < w1.heap.size + 1 + 1 := by omega); (try have hg1_g1 : g1 < w1.heap.size := by omega); (try have hi1_g1 : g1 ≠ w1.heap.size := by omega); (try have hj1_g1 : w1.heap.size ≠ g1 := by omega); (try have hk1_g1 : g1 < w1.heap.size + 1 := by omega); (try have hg1_g2 : g2 < w1.heap.size := by omega); (try have hi1_g2 : g2 ≠ w1.heap.size := by omega); (try have hj1_g2 : w1.heap.size ≠ g2 := by omega); (try have hk1_g2 : g2 < w1.heap.size + 1 := by omega))
            refine bodyPost_ret (by simp [results, Tryz.results39, go_sem, *]; try rfl) rfl ?_
            exact ⟨ret_fr (eN_no He.out).symm (eD_no He.out).symm He.out.symm, by (repeat' (first | (with_reducible exact Below.refl _ _) | (with_reducible assumption) | (with_reducible refine Below.drew ?_) | (with_reducible refine belowDrewN ?_ _) | (with_reducible refine Below.alloc ?_ ?_ _) | (with_reducible refine Below.setCell ?_ ?_ _) | (with_reducible refine belowStep (by assumption) ?_ ?_) | (with_reducible exact Below.size (by assumption)) | go_size))⟩
      · obtain rfl : k = xs.length := by omega
        rw [drop_all] at Hs Hr
        have He : Hid (expB xs = true) := expB_yes Hlen.out (Hr.out.trans (rise_nil _ _ _)) Hs.out
        go_wp2
        refine bodyPost_ret (by simp [results, Tryz.results39, go_sem, *]; try rfl) rfl ?_
        exact ⟨ret_fr (by rw [eN, if_pos He.out, sumN_of Hs.out]) (by rw [eD, if_pos He.out, sumD_of Hs.out]) He.out.symm, by (repeat' (first | (with_reducible exact Below.refl _ _) | (with_reducible assumption) | (with_reducible refine Below.drew ?_) | (with_reducible refine belowDrewN ?_ _) | (with_reducible refine Below.alloc ?_ ?_ _) | (with_reducible refine Below.setCell ?_ ?_ _) | (with_reducible refine belowStep (by assumption) ?_ ?_) | (with_reducible exact Below.size (by assumption)) | go_size))⟩
  · have He := Lib.hid (expB_long hlen)
    have h24 : 24 < xs.length := by omega
    clear hlen
    go_enter Tryz.func39, Tryz.ntmps39
    go_wp2
    refine bodyPost_ret (by simp [results, Tryz.results39, go_sem, *]; try rfl) rfl ?_
    exact ⟨ret_fr (eN_no He.out).symm (eD_no He.out).symm He.out.symm, by (repeat' (first | (with_reducible exact Below.refl _ _) | (with_reducible assumption) | (with_reducible refine Below.drew ?_) | (with_reducible refine belowDrewN ?_ _) | (with_reducible refine Below.alloc ?_ ?_ _) | (with_reducible refine Below.setCell ?_ ?_ _) | (with_reducible refine belowStep (by assumption) ?_ ?_) | (with_reducible exact Below.size (by assumption)) | go_size))⟩
theorem isExpansion_any (w : World) (Axs : Option Addr) (cxs : Nat) (xs : List Int) (hxs : Reads w Axs xs) (lxs : xs.length ≤ 1048576) (r64 : ∀ (i : Nat) (x : Int), xs[i]? = some x → -9223372036854775808 ≤ x ∧ x ≤ 9223372036854775807) :
    Calls Tryz.prog 24 #[.slice Axs xs.length cxs] w (Ret (.bool (expB xs)) w) := by
  have Hr64 := Lib.hid r64
  have Hxs := Lib.hid hxs
  clear hxs r64
  go_enter Tryz.func24, Tryz.ntmps24
  go_wp2_with (go_at_call 39; refine (sumOf_any _ _ _ _ Hxs.out lxs Hr64.out).mono ?_; rintro e w1 ⟨rfl, hb1⟩; obtain ⟨hc1, hf1⟩ := bcellB hb1; have hz1 := hb1.size; (try simp only [World.size_alloc, World.size_setCell, World.size_drew, World.heap_drewN] at hc1 hf1 hz1); (try have hy1_r_0 : wr.heap.size < w1.heap.size := by omega); (try have hn1_r_0 : wr.heap.size ≠ w1.heap.size := by omega); (try have hm1_r_0 : w1.heap.size ≠ wr.heap.size := by omega); (try have hy1_r_1 : wr.heap.size + 1 < w1.heap.size := by omega); (try have hn1_r_1 : wr.heap.size + 1 ≠ w1.heap.size := by omega); (try have hm1_r_1 : w1.heap.size ≠ wr.heap.size + 1 := by omega); (try have hy1_r_2 : wr.heap.size + 1 + 1 < w1.heap.size := by omega); (try have hp1_r_1 : wr.heap.size < w1.heap.size + 1 := by omega); (try have hp1_r_2 : wr.heap.size < w1.heap.size + 1 + 1 := by omega); (try have hy1_0_0 : w.heap.size < w1.heap.size := by omega); (try have hn1_0_0 : w.heap.size ≠ w1.heap.size := by omega); (try have hm1_0_0 : w1.heap.size ≠ w.heap.size := by omega); (try have hy1_0_1 : w.heap.size + 1 < w1.heap.size := by omega); (try have hn1_0_1 : w.heap.size + 1 ≠ w1.heap.size := by omega); (try have hm1_0_1 : w1.heap.size ≠ w.heap.size + 1 := by omega); (try have hy1_0_2 : w.heap.size + 1 + 1 < w1.heap.size := by omega); (try have hp1_0_1 : w.heap.size < w1.heap.size + 1 := by omega); (try have hp1_0_2 : w.heap.size < w1.heap.size + 1 + 1 := by omega); (try have hg1_g1 : g1 < w1.heap.size := by omega); (try have hi1_g1 : g1 ≠ w1.heap.size := by omega); (try have hj1_g1 : w1.heap.size ≠ g1 := by omega); (try have hk1_g1 : g1 < w1.heap.size + 1 := by omega); (try have hg1_g2 : g2 < w1.heap.size := by omega); (try have hi1_g2 : g2 ≠ w1.heap.size := by omega); (try have hj1_g2 : w1.heap.size ≠ g2 := by omega); (try have hk1_g2 : g2 < w1.heap.size + 1 := by omega))
  go_ret
  exact ⟨rfl, by (repeat' (first | (with_reducible exact Below.refl _ _) | (with_reducible assumption) | (with_reducible refine Below.drew ?_) | (with_reducible refine belowDrewN ?_ _) | (with_reducible refine Below.alloc ?_ ?_ _) | (with_reducible refine Below.setCell ?_ ?_ _) | (with_reducible refine belowStep (by assumption) ?_ ?_) | (with_reducible exact Below.size (by assumption)) | go_size))⟩

end Go.Proofs.YtolgjokghecceaaGreatDoor


/-
  Contracts of the last step of functions that make an expansion: it is let pass only if it is one.
-/
namespace Go.Proofs.YtolgjokghecceaaGreatDoor
open Go.RowKit
def In64 (xs : List Int) : Prop := ∀ (i : Nat) (x : Int), xs[i]? = some x → -9223372036854775808 ≤ x ∧ x ≤ 9223372036854775807
theorem In64.of_mem {xs : List Int} (h : ∀ x ∈ xs, -9223372036854775808 ≤ x ∧ x ≤ 9223372036854775807) : In64 xs := fun _ x hx => h x (List.mem_of_getElem? hx)
theorem In64.mem {xs : List Int} (h : In64 xs) : ∀ x ∈ xs, -9223372036854775808 ≤ x ∧ x ≤ 9223372036854775807 := fun x hx => by
  obtain ⟨i, hi⟩ := List.getElem?_of_mem hx
  exact h i x hi
theorem expB_small {xs : List Int} (h : expB xs = true) : ∀ x ∈ xs, 1 ≤ x ∧ x ≤ 1000000000 := fun x hx => by
  obtain ⟨i, hi⟩ := List.getElem?_of_mem hx
  exact rise_in (expB_parts h).2.1 i x hi
theorem expB_len {xs : List Int} (h : expB xs = true) : xs.length ≤ 24 := (expB_parts h).1
theorem ifExp_yes (w : World) (Axs : Option Addr) (cxs : Nat) (xs : List Int) (hxs : Reads w Axs xs) (lxs : xs.length ≤ 1048576) (r64 : In64 xs) (h : expB xs = true) : Calls Tryz.prog 60 #[.slice Axs xs.length cxs] w (Ret (.tuple #[.slice Axs xs.length cxs, .bool true]) w) := by
  have Hr64 := Lib.hid r64
  have Hxs := Lib.hid hxs
  clear r64 hxs
  go_enter Tryz.func60, Tryz.ntmps60
  go_wp2_with fail
  refine (isExpansion_any _ _ _ _ Hxs.out lxs Hr64.out).mono ?_; rintro e w1 ⟨rfl, hb1⟩
  go_wp2
  go_ret2
  exact ⟨rfl, by (repeat' (first | (with_reducible exact Below.refl _ _) | (with_reducible assumption) | (with_reducible refine Below.drew ?_) | (with_reducible refine belowDrewN ?_ _) | (with_reducible refine Below.alloc ?_ ?_ _) | (with_reducible refine Below.setCell ?_ ?_ _) | (with_reducible refine belowStep (by assumption) ?_ ?_) | (with_reducible exact Below.size (by assumption)) | go_size))⟩
theorem ifExp_no (w : World) (Axs : Option Addr) (cxs : Nat) (xs : List Int) (hxs : Reads w Axs xs) (lxs : xs.length ≤ 1048576) (r64 : In64 xs) (h : expB xs = false) : Calls Tryz.prog 60 #[.slice Axs xs.length cxs] w (Ret (.tuple #[.slice none 0 0, .bool false]) w) := by
  have Hr64 := Lib.hid r64
  have Hxs := Lib.hid hxs
  clear r64 hxs
  go_enter Tryz.func60, Tryz.ntmps60
  go_wp2_with fail
  refine (isExpansion_any _ _ _ _ Hxs.out lxs Hr64.out).mono ?_; rintro e w1 ⟨rfl, hb1⟩
  go_wp2
  go_ret2
  exact ⟨rfl, by (repeat' (first | (with_reducible exact Below.refl _ _) | (with_reducible assumption) | (with_reducible refine Below.drew ?_) | (with_reducible refine belowDrewN ?_ _) | (with_reducible refine Below.alloc ?_ ?_ _) | (with_reducible refine Below.setCell ?_ ?_ _) | (with_reducible refine belowStep (by assumption) ?_ ?_) | (with_reducible exact Below.size (by assumption)) | go_size))⟩
theorem unList_yes (w : World) (Axs : Option Addr) (cxs : Nat) (xs : List Int) (hxs : Reads w Axs xs) (lxs : xs.length ≤ 1048576) (h : expB xs = true) : Calls Tryz.prog 77 #[.slice Axs xs.length cxs] w (Ret (.tuple #[.slice Axs xs.length cxs, .bool true]) w) := by
  have Hxs := Lib.hid hxs
  clear hxs
  go_enter Tryz.func77, Tryz.ntmps77
  go_wp2_with fail
  refine (unExpansion_any _ _ _ _ Hxs.out lxs).mono ?_; rintro e w1 ⟨rfl, hb1⟩
  go_wp2
  go_ret2
  exact ⟨rfl, by (repeat' (first | (with_reducible exact Below.refl _ _) | (with_reducible assumption) | (with_reducible refine Below.drew ?_) | (with_reducible refine belowDrewN ?_ _) | (with_reducible refine Below.alloc ?_ ?_ _) | (with_reducible refine Below.setCell ?_ ?_ _) | (with_reducible refine belowStep (by assumption) ?_ ?_) | (with_reducible exact Below.size (by assumption)) | go_size))⟩
theorem unList_no (w : World) (Axs : Option Addr) (cxs : Nat) (xs : List Int) (hxs : Reads w Axs xs) (lxs : xs.length ≤ 1048576) (h : expB xs = false) : Calls Tryz.prog 77 #[.slice Axs xs.length cxs] w (Ret (.tuple #[.slice none 0 0, .bool false]) w) := by
  have Hxs := Lib.hid hxs
  clear hxs
  go_enter Tryz.func77, Tryz.ntmps77
  go_wp2_with fail
  refine (unExpansion_any _ _ _ _ Hxs.out lxs).mono ?_; rintro e w1 ⟨rfl, hb1⟩
  go_wp2
  go_ret2
  exact ⟨rfl, by (repeat' (first | (with_reducible exact Below.refl _ _) | (with_reducible assumption) | (with_reducible refine Below.drew ?_) | (with_reducible refine belowDrewN ?_ _) | (with_reducible refine Below.alloc ?_ ?_ _) | (with_reducible refine Below.setCell ?_ ?_ _) | (with_reducible refine belowStep (by assumption) ?_ ?_) | (with_reducible exact Below.size (by assumption)) | go_size))⟩
end Go.Proofs.YtolgjokghecceaaGreatDoor
