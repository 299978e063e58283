import Derived.Test.YtbjblkfibinenadGreatDoorPk6
import Derived.Test.YtbjblkfibinenadGreatDoorPk5

/-
  Contracts of the sum of an expansion, and of the test of one, in the program and in the model.
-/
namespace Go.Proofs.YtbjblkfibinenadGreatDoor
open Go.RowKit
theorem unUnit_any (d : Int) (w : World) : Calls Tryz.prog 80 #[.int .i64 d] w (Ret (.agg #[.int .i64 1, .int .i64 d]) w) := by
  go_enter Tryz.func80, Tryz.ntmps80
  go_wp2
  go_returns
  exact ⟨rfl, by (repeat' (first | (with_reducible exact Below.refl _ _) | (with_reducible assumption) | (with_reducible refine Below.drew ?_) | (with_reducible refine belowDrewN ?_ _) | (with_reducible refine Below.alloc ?_ ?_ _) | (with_reducible refine Below.setCell ?_ ?_ _) | (with_reducible refine belowStep (by assumption) ?_ ?_) | (with_reducible exact Below.size (by assumption)) | go_size))⟩

set_option maxHeartbeats 4000000 in
theorem unSum_any (w : World) (Axs : Option Addr) (cxs : Nat) (xs : List Int) (hxs : Reads w Axs xs) (lxs : xs.length ≤ 1048576) (hin : ∀ (i : Nat) (x : Int), xs[i]? = some x → 1 ≤ x ∧ x ≤ 1000000000) :
    Calls Tryz.prog 101 #[.slice Axs xs.length cxs] w (Ret (.tuple #[.agg #[.int .i64 (sumN xs), .int .i64 (sumD xs)], .bool ((sumL 0 1 xs).isSome)]) w) := by
  have lt02 : w.heap.size < w.heap.size + 1 + 1 := by omega
  have lt03 : w.heap.size < w.heap.size + 1 + 1 + 1 := by omega
  have ne02 : w.heap.size ≠ w.heap.size + 1 + 1 := by omega
  have ne20 : w.heap.size + 1 + 1 ≠ w.heap.size := by omega
  have ne03 : w.heap.size ≠ w.heap.size + 1 + 1 + 1 := by omega
  have ne30 : w.heap.size + 1 + 1 + 1 ≠ w.heap.size := by omega
  have lt13 : w.heap.size + 1 < w.heap.size + 1 + 1 + 1 := by omega
  go_enter Tryz.func101, Tryz.ntmps101
  go_wp2
  go_loopw [10] (fun v10 wr => ∃ (k : Nat) (n d : Int), k ≤ xs.length ∧ v10 = .int .i64 k ∧ goodB n d = true ∧ sumL 0 1 xs = sumL n d (xs.drop k) ∧ TwoAt wr w.heap.size 0 0 ∧ TwoAt wr (w.heap.size + 1) n d ∧ Below w.heap.size w wr) (fun v10 _ => xs.length - (intOf v10).toNat)
  case atStart => exact ⟨0, 0, 1, Nat.zero_le _, rfl, good_zero, rfl, by (refine ⟨?_, ?_, ?_, ?_, ?_⟩ <;> first | (simp only [World.size_alloc]; omega) | (first | (simp [*, World.cell?_alloc_some]; done) | (simp [go_sem, *]; done))), by (refine ⟨?_, ?_, ?_, ?_, ?_⟩ <;> first | (simp only [World.size_alloc]; omega) | (first | (simp [*]; done) | (simp [go_sem, *]; done))), by (repeat' (first | (with_reducible exact Below.refl _ _) | (with_reducible assumption) | (with_reducible refine Below.drew ?_) | (with_reducible refine belowDrewN ?_ _) | (with_reducible refine Below.alloc ?_ ?_ _) | (with_reducible refine Below.setCell ?_ ?_ _) | (with_reducible refine belowStep (by assumption) ?_ ?_) | (with_reducible exact Below.size (by assumption)) | go_size))⟩
  case round =>
    obtain ⟨k, n, d, hk, rfl, hg, hs, ⟨c1, c2, f1, f2, z1⟩, ⟨c3, c4, f3, f4, z2⟩, hbr⟩ := hrel
    have Hg := Lib.hid hg
    have Hs := Lib.hid hs
    obtain ⟨n1, n2, d1, d2⟩ := good_bounds hg
    clear hg hs
    by_cases hlt : k < xs.length
    · obtain ⟨b, o, x, rfl, hb, hx, hcell⟩ := (hxs.below hbr).at_ hlt
      obtain ⟨x1, x2⟩ := hin k x hx
      have Hx := Lib.hid hx
      have Hin := Lib.hid hin
      have Hxs := Lib.hid hxs
      clear hx hin hxs
      have p1 := mul_bounds n1 n2 (by omega : 0 ≤ x) x2
      have p2 := mul_pos1 d1 x1
      have hgr := good_red (n := n * x + d) (d := d * x) (by omega) p2
      cases hred : redB (n * x + d) (d * x) with
      | true =>
        rw [hred] at hgr
        have Hred := Lib.hid hred
        clear hred
        go_wp2
        go_region_with (first | (go_at_call 80; refine (unUnit_any _ _).mono ?_; rintro e w1 ⟨rfl, hb1⟩; obtain ⟨hc1, hf1⟩ := bcellB hb1; have hz1 := hb1.size; (try simp only [World.size_drew] at hc1 hf1 hz1); (try have hy1_r_0 : wr.heap.size < w1.heap.size := by omega); (try have hn1_r_0 : wr.heap.size ≠ w1.heap.size := by omega); (try have hm1_r_0 : w1.heap.size ≠ wr.heap.size := by omega); (try have hy1_r_1 : wr.heap.size + 1 < w1.heap.size := by omega); (try have hn1_r_1 : wr.heap.size + 1 ≠ w1.heap.size := by omega); (try have hm1_r_1 : w1.heap.size ≠ wr.heap.size + 1 := by omega); (try have hy1_r_2 : wr.heap.size + 1 + 1 < w1.heap.size := by omega); (try have hp1_r_1 : wr.heap.size < w1.heap.size + 1 := by omega); (try have hp1_r_2 : wr.heap.size < w1.heap.size + 1 + 1 := by omega); (try have hy1_0_0 : w.heap.size < w1.heap.size := by omega); (try have hn1_0_0 : w.heap.size ≠ w1.heap.size := by omega); (try have hm1_0_0 : w1.heap.size ≠ w.heap.size := by omega); (try have hy1_0_1 : w.heap.size + 1 < w1.heap.size := by omega); (try have hn1_0_1 : w.heap.size + 1 ≠ w1.heap.size := by omega); (try have hm1_0_1 : w1.heap.size ≠ w.heap.size + 1 := by omega); (try have hy1_0_2 : w.heap.size + 1 + 1 < w1.heap.size := by omega); (try have hp1_0_1 : w.heap.size < w1.heap.size + 1 := by omega); (try have hp1_0_2 : w.heap.size < w1.heap.size + 1 + 1 := by omega); (try have hg1_g1 : g1 < w1.heap.size := by omega); (try have hi1_g1 : g1 ≠ w1.heap.size := by omega); (try have hj1_g1 : w1.heap.size ≠ g1 := by omega); (try have hk1_g1 : g1 < w1.heap.size + 1 := by omega); (try have hg1_g2 : g2 < w1.heap.size := by omega); (try have hi1_g2 : g2 ≠ w1.heap.size := by omega); (try have hj1_g2 : w1.heap.size ≠ g2 := by omega); (try have hk1_g2 : g2 < w1.heap.size + 1 := by omega)) | (go_at_call 110; refine (unAdd_any _ _ _ _ _ (by omega) (by omega) (by omega) (by omega) (by omega) (by omega) (by omega) (by omega)).mono ?_; rintro e w2 ⟨rfl, hb2⟩; obtain ⟨hc2, hf2⟩ := bcellB hb2; have hz2 := hb2.size; (try simp only [World.size_alloc, World.size_setCell, World.size_drew, World.heap_drewN] at hc2 hf2 hz2); (try have hy2_r_0 : wr.heap.size < w2.heap.size := by omega); (try have hn2_r_0 : wr.heap.size ≠ w2.heap.size := by omega); (try have hm2_r_0 : w2.heap.size ≠ wr.heap.size := by omega); (try have hy2_r_1 : wr.heap.size + 1 < w2.heap.size := by omega); (try have hn2_r_1 : wr.heap.size + 1 ≠ w2.heap.size := by omega); (try have hm2_r_1 : w2.heap.size ≠ wr.heap.size + 1 := by omega); (try have hy2_r_2 : wr.heap.size + 1 + 1 < w2.heap.size := by omega); (try have hp2_r_1 : wr.heap.size < w2.heap.size + 1 := by omega); (try have hp2_r_2 : wr.heap.size < w2.heap.size + 1 + 1 := by omega); (try have hy2_0_0 : w.heap.size < w2.heap.size := by omega); (try have hn2_0_0 : w.heap.size ≠ w2.heap.size := by omega); (try have hm2_0_0 : w2.heap.size ≠ w.heap.size := by omega); (try have hy2_0_1 : w.heap.size + 1 < w2.heap.size := by omega); (try have hn2_0_1 : w.heap.size + 1 ≠ w2.heap.size := by omega); (try have hm2_0_1 : w2.heap.size ≠ w.heap.size + 1 := by omega); (try have hy2_0_2 : w.heap.size + 1 + 1 < w2.heap.size := by omega); (try have hp2_0_1 : w.heap.size < w2.heap.size + 1 := by omega); (try have hp2_0_2 : w.heap.size < w2.heap.size + 1 + 1 := by omega); (try have hy2_1_0 : w1.heap.size < w2.heap.size := by omega); (try have hn2_1_0 : w1.heap.size ≠ w2.heap.size := by omega); (try have hm2_1_0 : w2.heap.size ≠ w1.heap.size := by omega); (try have hy2_1_1 : w1.heap.size + 1 < w2.heap.size := by omega); (try have hn2_1_1 : w1.heap.size + 1 ≠ w2.heap.size := by omega); (try have hm2_1_1 : w2.heap.size ≠ w1.heap.size + 1 := by omega); (try have hy2_1_2 : w1.heap.size + 1 + 1 < w2.heap.size := by omega); (try have hp2_1_1 : w1.heap.size < w2.heap.size + 1 := by omega); (try have hp2_1_2 : w1.heap.size < w2.heap.size + 1 + 1 := by omega); (try have hg2_g1 : g1 < w2.heap.size := by omega); (try have hi2_g1 : g1 ≠ w2.heap.size := by omega); (try have hj2_g1 : w2.heap.size ≠ g1 := by omega); (try have hk2_g1 : g1 < w2.heap.size + 1 := by omega); (try have hg2_g2 : g2 < w2.heap.size := by omega); (try have hi2_g2 : g2 ≠ w2.heap.size := by omega); (try have hj2_g2 : w2.heap.size ≠ g2 := by omega); (try have hk2_g2 : g2 < w2.heap.size + 1 := by omega)))
        all_goals
          go_wp2_with (go_at_call 33; refine (unGood_any _ _ _).mono ?_; rintro e w3 ⟨rfl, hb3⟩; obtain ⟨hc3, hf3⟩ := bcellB hb3; have hz3 := hb3.size; (try simp only [World.size_setCell] at hc3 hf3 hz3); (try have hy3_r_0 : wr.heap.size < w3.heap.size := by omega); (try have hn3_r_0 : wr.heap.size ≠ w3.heap.size := by omega); (try have hm3_r_0 : w3.heap.size ≠ wr.heap.size := by omega); (try have hy3_r_1 : wr.heap.size + 1 < w3.heap.size := by omega); (try have hn3_r_1 : wr.heap.size + 1 ≠ w3.heap.size := by omega); (try have hm3_r_1 : w3.heap.size ≠ wr.heap.size + 1 := by omega); (try have hy3_r_2 : wr.heap.size + 1 + 1 < w3.heap.size := by omega); (try have hp3_r_1 : wr.heap.size < w3.heap.size + 1 := by omega); (try have hp3_r_2 : wr.heap.size < w3.heap.size + 1 + 1 := by omega); (try have hy3_0_0 : w.heap.size < w3.heap.size := by omega); (try have hn3_0_0 : w.heap.size ≠ w3.heap.size := by omega); (try have hm3_0_0 : w3.heap.size ≠ w.heap.size := by omega); (try have hy3_0_1 : w.heap.size + 1 < w3.heap.size := by omega); (try have hn3_0_1 : w.heap.size + 1 ≠ w3.heap.size := by omega); (try have hm3_0_1 : w3.heap.size ≠ w.heap.size + 1 := by omega); (try have hy3_0_2 : w.heap.size + 1 + 1 < w3.heap.size := by omega); (try have hp3_0_1 : w.heap.size < w3.heap.size + 1 := by omega); (try have hp3_0_2 : w.heap.size < w3.heap.size + 1 + 1 := by omega); (try have hy3_1_0 : w1.heap.size < w3.heap.size := by omega); (try have hn3_1_0 : w1.heap.size ≠ w3.heap.size := by omega); (try have hm3_1_0 : w3.heap.size ≠ w1.heap.size := by omega); (try have hy3_1_1 : w1.heap.size + 1 < w3.heap.size := by omega); (try have hn3_1_1 : w1.heap.size + 1 ≠ w3.heap.size := by omega); (try have hm3_1_1 : w3.heap.size ≠ w1.heap.size + 1 := by omega); (try have hy3_1_2 : w1.heap.size + 1 + 1 < w3.heap.size := by omega); (try have hp3_1_1 : w1.heap.size < w3.heap.size + 1 := by omega); (try have hp3_1_2 : w1.heap.size < w3.heap.size + 1 + 1 := by omega); (try have hy3_2_0 : w2.heap.size < w3.heap.size := by omega); (try have hn3_2_0 : w2.heap.size ≠ w3.heap.size := by omega); (try have hm3_2_0 : w3.heap.size ≠ w2.heap.size := by omega); (try have hy3_2_1 : w2.heap.size + 1 < w3.heap.size := by omega); (try have hn3_2_1 : w2.heap.size + 1 ≠ w3.heap.size := by omega); (try have hm3_2_1 : w3.heap.size ≠ w2.heap.size + 1 := by omega); (try have hy3_2_2 : w2.heap.size + 1 + 1 < w3.heap.size := by omega); (try have hp3_2_1 : w2.heap.size < w3.heap.size + 1 := by omega); (try have hp3_2_2 : w2.heap.size < w3.heap.size + 1 + 1 := by omega); (try have hg3_g1 : g1 < w3.heap.size := by omega); (try have hi3_g1 : g1 ≠ w3.heap.size := by omega); (try have hj3_g1 : w3.heap.size ≠ g1 := by omega); (try have hk3_g1 : g1 < w3.heap.size + 1 := by omega); (try have hg3_g2 : g2 < w3.heap.size := by omega); (try have hi3_g2 : g2 ≠ w3.heap.size := by omega); (try have hj3_g2 : w3.heap.size ≠ g2 := by omega); (try have hk3_g2 : g2 < w3.heap.size + 1 := by omega))
          go_roundw
          case rel => exact ⟨k + 1, redN (n * x + d) (d * x), redD (n * x + d) (d * x), by omega, by go_num, good_of_redB (by omega) p2 Hred.out, by rw [Hs.out, drop_at Hx.out, sumL_yes Hred.out], by (refine ⟨?_, ?_, ?_, ?_, ?_⟩ <;> first | (simp only [World.size_alloc, World.size_setCell, World.size_drew, World.heap_drewN]; omega) | (first | (simp [*, World.cell?_setCell_far]; done) | (simp [go_sem, *]; done))), by rw [redN, redD, if_pos Hred.out, if_pos Hred.out]; (refine ⟨?_, ?_, ?_, ?_, ?_⟩ <;> first | (simp only [World.size_alloc, World.size_setCell, World.size_drew, World.heap_drewN]; omega) | (first | (simp [*]; done) | (simp [go_sem, *]; done))), by (repeat' (first | (with_reducible exact Below.refl _ _) | (with_reducible assumption) | (with_reducible refine Below.drew ?_) | (with_reducible refine belowDrewN ?_ _) | (with_reducible refine Below.alloc ?_ ?_ _) | (with_reducible refine Below.setCell ?_ ?_ _) | (with_reducible refine belowStep (by assumption) ?_ ?_) | (with_reducible exact Below.size (by assumption)) | go_size))⟩
          case measure => simp [intOf]; omega
      | false =>
        rw [hred] at hgr
        have Hred := Lib.hid hred
        clear hred
        have Hnone : Hid (sumL 0 1 xs = none) := by
          have := Hs.out
          rw [drop_at Hx.out, sumL_no Hred.out] at this
          exact this
        go_wp2
        go_region_with (first | (go_at_call 80; refine (unUnit_any _ _).mono ?_; rintro e w1 ⟨rfl, hb1⟩; obtain ⟨hc1, hf1⟩ := bcellB hb1; have hz1 := hb1.size; (try simp only [World.size_drew] at hc1 hf1 hz1); (try have hy1_r_0 : wr.heap.size < w1.heap.size := by omega); (try have hn1_r_0 : wr.heap.size ≠ w1.heap.size := by omega); (try have hm1_r_0 : w1.heap.size ≠ wr.heap.size := by omega); (try have hy1_r_1 : wr.heap.size + 1 < w1.heap.size := by omega); (try have hn1_r_1 : wr.heap.size + 1 ≠ w1.heap.size := by omega); (try have hm1_r_1 : w1.heap.size ≠ wr.heap.size + 1 := by omega); (try have hy1_r_2 : wr.heap.size + 1 + 1 < w1.heap.size := by omega); (try have hp1_r_1 : wr.heap.size < w1.heap.size + 1 := by omega); (try have hp1_r_2 : wr.heap.size < w1.heap.size + 1 + 1 := by omega); (try have hy1_0_0 : w.heap.size < w1.heap.size := by omega); (try have hn1_0_0 : w.heap.size ≠ w1.heap.size := by omega); (try have hm1_0_0 : w1.heap.size ≠ w.heap.size := by omega); (try have hy1_0_1 : w.heap.size + 1 < w1.heap.size := by omega); (try have hn1_0_1 : w.heap.size + 1 ≠ w1.heap.size := by omega); (try have hm1_0_1 : w1.heap.size ≠ w.heap.size + 1 := by omega); (try have hy1_0_2 : w.heap.size + 1 + 1 < w1.heap.size := by omega); (try have hp1_0_1 : w.heap.size < w1.heap.size + 1 := by omega); (try have hp1_0_2 : w.heap.size < w1.heap.size + 1 + 1 := by omega); (try have hg1_g1 : g1 < w1.heap.size := by omega); (try have hi1_g1 : g1 ≠ w1.heap.size := by omega); (try have hj1_g1 : w1.heap.size ≠ g1 := by omega); (try have hk1_g1 : g1 < w1.heap.size + 1 := by omega); (try have hg1_g2 : g2 < w1.heap.size := by omega); (try have hi1_g2 : g2 ≠ w1.heap.size := by omega); (try have hj1_g2 : w1.heap.size ≠ g2 := by omega); (try have hk1_g2 : g2 < w1.heap.size + 1 := by omega)) | (go_at_call 110; refine (unAdd_any _ _ _ _ _ (by omega) (by omega) (by omega) (by omega) (by omega) (by omega) (by omega) (by omega)).mono ?_; rintro e w2 ⟨rfl, hb2⟩; obtain ⟨hc2, hf2⟩ := bcellB hb2; have hz2 := hb2.size; (try simp only [World.size_alloc, World.size_setCell, World.size_drew, World.heap_drewN] at hc2 hf2 hz2); (try have hy2_r_0 : wr.heap.size < w2.heap.size := by omega); (try have hn2_r_0 : wr.heap.size ≠ w2.heap.size := by omega); (try have hm2_r_0 : w2.heap.size ≠ wr.heap.size := by omega); (try have hy2_r_1 : wr.heap.size + 1 < w2.heap.size := by omega); (try have hn2_r_1 : wr.heap.size + 1 ≠ w2.heap.size := by omega); (try have hm2_r_1 : w2.heap.size ≠ wr.heap.size + 1 := by omega); (try have hy2_r_2 : wr.heap.size + 1 + 1 < w2.heap.size := by omega); (try have hp2_r_1 : wr.heap.size < w2.heap.size + 1 := by omega); (try have hp2_r_2 : wr.heap.size < w2.heap.size + 1 + 1 := by omega); (try have hy2_0_0 : w.heap.size < w2.heap.size := by omega); (try have hn2_0_0 : w.heap.size ≠ w2.heap.size := by omega); (try have hm2_0_0 : w2.heap.size ≠ w.heap.size := by omega); (try have hy2_0_1 : w.heap.size + 1 < w2.heap.size := by omega); (try have hn2_0_1 : w.heap.size + 1 ≠ w2.heap.size := by omega); (try have hm2_0_1 : w2.heap.size ≠ w.heap.size + 1 := by omega); (try have hy2_0_2 : w.heap.size + 1 + 1 < w2.heap.size := by omega); (try have hp2_0_1 : w.heap.size < w2.heap.size + 1 := by omega); (try have hp2_0_2 : w.heap.size < w2.heap.size + 1 + 1 := by omega); (try have hy2_1_0 : w1.heap.size < w2.heap.size := by omega); (try have hn2_1_0 : w1.heap.size ≠ w2.heap.size := by omega); (try have hm2_1_0 : w2.heap.size ≠ w1.heap.size := by omega); (try have hy2_1_1 : w1.heap.size + 1 < w2.heap.size := by omega); (try have hn2_1_1 : w1.heap.size + 1 ≠ w2.heap.size := by omega); (try have hm2_1_1 : w2.heap.size ≠ w1.heap.size + 1 := by omega); (try have hy2_1_2 : w1.heap.size + 1 + 1 < w2.heap.size := by omega); (try have hp2_1_1 : w1.heap.size < w2.heap.size + 1 := by omega); (try have hp2_1_2 : w1.heap.size < w2.heap.size + 1 + 1 := by omega); (try have hg2_g1 : g1 < w2.heap.size := by omega); (try have hi2_g1 : g1 ≠ w2.heap.size := by omega); (try have hj2_g1 : w2.heap.size ≠ g1 := by omega); (try have hk2_g1 : g1 < w2.heap.size + 1 := by omega); (try have hg2_g2 : g2 < w2.heap.size := by omega); (try have hi2_g2 : g2 ≠ w2.heap.size := by omega); (try have hj2_g2 : w2.heap.size ≠ g2 := by omega); (try have hk2_g2 : g2 < w2.heap.size + 1 := by omega)))
        all_goals
          go_wp2_with (go_at_call 33; refine (unGood_any _ _ _).mono ?_; rintro e w3 ⟨rfl, hb3⟩; obtain ⟨hc3, hf3⟩ := bcellB hb3; have hz3 := hb3.size; (try simp only [World.size_setCell] at hc3 hf3 hz3); (try have hy3_r_0 : wr.heap.size < w3.heap.size := by omega); (try have hn3_r_0 : wr.heap.size ≠ w3.heap.size := by omega); (try have hm3_r_0 : w3.heap.size ≠ wr.heap.size := by omega); (try have hy3_r_1 : wr.heap.size + 1 < w3.heap.size := by omega); (try have hn3_r_1 : wr.heap.size + 1 ≠ w3.heap.size := by omega); (try have hm3_r_1 : w3.heap.size ≠ wr.heap.size + 1 := by omega); (try have hy3_r_2 : wr.heap.size + 1 + 1 < w3.heap.size := by omega); (try have hp3_r_1 : wr.heap.size < w3.heap.size + 1 := by omega); (try have hp3_r_2 : wr.heap.size < w3.heap.size + 1 + 1 := by omega); (try have hy3_0_0 : w.heap.size < w3.heap.size := by omega); (try have hn3_0_0 : w.heap.size ≠ w3.heap.size := by omega); (try have hm3_0_0 : w3.heap.size ≠ w.heap.size := by omega); (try have hy3_0_1 : w.heap.size + 1 < w3.heap.size := by omega); (try have hn3_0_1 : w.heap.size + 1 ≠ w3.heap.size := by omega); (try have hm3_0_1 : w3.heap.size ≠ w.heap.size + 1 := by omega); (try have hy3_0_2 : w.heap.size + 1 + 1 < w3.heap.size := by omega); (try have hp3_0_1 : w.heap.size < w3.heap.size + 1 := by omega); (try have hp3_0_2 : w.heap.size < w3.heap.size + 1 + 1 := by omega); (try have hy3_1_0 : w1.heap.size < w3.heap.size := by omega); (try have hn3_1_0 : w1.heap.size ≠ w3.heap.size := by omega); (try have hm3_1_0 : w3.heap.size ≠ w1.heap.size := by omega); (try have hy3_1_1 : w1.heap.size + 1 < w3.heap.size := by omega); (try have hn3_1_1 : w1.heap.size + 1 ≠ w3.heap.size := by omega); (try have hm3_1_1 : w3.heap.size ≠ w1.heap.size + 1 := by omega); (try have hy3_1_2 : w1.heap.size + 1 + 1 < w3.heap.size := by omega); (try have hp3_1_1 : w1.heap.size < w3.heap.size + 1 := by omega); (try have hp3_1_2 : w1.heap.size < w3.heap.size + 1 + 1 := by omega); (try have hy3_2_0 : w2.heap.size < w3.heap.size := by omega); (try have hn3_2_0 : w2.heap.size ≠ w3.heap.size := by omega); (try have hm3_2_0 : w3.heap.size ≠ w2.heap.size := by omega); (try have hy3_2_1 : w2.heap.size + 1 < w3.heap.size := by omega); (try have hn3_2_1 : w2.heap.size + 1 ≠ w3.heap.size := by omega); (try have hm3_2_1 : w3.heap.size ≠ w2.heap.size + 1 := by omega); (try have hy3_2_2 : w2.heap.size + 1 + 1 < w3.heap.size := by omega); (try have hp3_2_1 : w2.heap.size < w3.heap.size + 1 := by omega); (try have hp3_2_2 : w2.heap.size < w3.heap.size + 1 + 1 := by omega); (try have hg3_g1 : g1 < w3.heap.size := by omega); (try have hi3_g1 : g1 ≠ w3.heap.size := by omega); (try have hj3_g1 : w3.heap.size ≠ g1 := by omega); (try have hk3_g1 : g1 < w3.heap.size + 1 := by omega); (try have hg3_g2 : g2 < w3.heap.size := by omega); (try have hi3_g2 : g2 ≠ w3.heap.size := by omega); (try have hj3_g2 : w3.heap.size ≠ g2 := by omega); (try have hk3_g2 : g2 < w3.heap.size + 1 := by omega))
          refine bodyPost_ret (by simp [results, Tryz.results101, go_sem, *]; try rfl) rfl ?_
          exact ⟨ret_fr (by rw [sumN, Hnone.out]; rfl) (by rw [sumD, Hnone.out]; rfl) (by rw [Hnone.out]; rfl), by (repeat' (first | (with_reducible exact Below.refl _ _) | (with_reducible assumption) | (with_reducible refine Below.drew ?_) | (with_reducible refine belowDrewN ?_ _) | (with_reducible refine Below.alloc ?_ ?_ _) | (with_reducible refine Below.setCell ?_ ?_ _) | (with_reducible refine belowStep (by assumption) ?_ ?_) | (with_reducible exact Below.size (by assumption)) | go_size))⟩
    · obtain rfl : k = xs.length := by omega
      rw [drop_all] at Hs
      have Hin := Lib.hid hin
      have Hxs := Lib.hid hxs
      clear hin hxs
      go_wp2
      refine bodyPost_ret (by simp [results, Tryz.results101, go_sem, *]; try rfl) rfl ?_
      exact ⟨ret_fr (sumN_of Hs.out).symm (sumD_of Hs.out).symm (by rw [Hs.out]; rfl), by (repeat' (first | (with_reducible exact Below.refl _ _) | (with_reducible assumption) | (with_reducible refine Below.drew ?_) | (with_reducible refine belowDrewN ?_ _) | (with_reducible refine Below.alloc ?_ ?_ _) | (with_reducible refine Below.setCell ?_ ?_ _) | (with_reducible refine belowStep (by assumption) ?_ ?_) | (with_reducible exact Below.size (by assumption)) | go_size))⟩
end Go.Proofs.YtbjblkfibinenadGreatDoor


/-
  Plain facts on lists that rise or do not fall, on the products of their first numbers, and on sums and differences of the unit fractions of these.
-/
namespace Go.Proofs.YtbjblkfibinenadGreatDoor
open Go.RowKit
/-- each number is at least lo, and the next one by so much more than it -/
def up (s : Int) : Int → List Int → Bool
  | _, [] => true
  | lo, x :: xs => decide (lo ≤ x) && decide (x ≤ 1000000000) && up s (x + s) xs
theorem up_yes {s lo x : Int} {xs : List Int} (h1 : lo ≤ x) (h2 : x ≤ 1000000000) : up s lo (x :: xs) = up s (x + s) xs := by simp [up, h1, h2]
theorem up_no {s lo x : Int} {xs : List Int} (h : ¬ (lo ≤ x ∧ x ≤ 1000000000)) : up s lo (x :: xs) = false := by
  unfold up
  by_cases h1 : lo ≤ x
  · have h2 : ¬ x ≤ 1000000000 := fun h2 => h ⟨h1, h2⟩
    simp [h2]
  · simp [h1]
theorem up_in {s : Int} (hs : 0 ≤ s) : ∀ {xs : List Int} {lo : Int}, up s lo xs = true → ∀ x ∈ xs, lo ≤ x ∧ x ≤ 1000000000
  | [], _, _, x, h => by cases h
  | y :: ys, lo, hu, x, h => by
    by_cases hy : lo ≤ y ∧ y ≤ 1000000000
    · rw [up_yes hy.1 hy.2] at hu
      rcases List.mem_cons.1 h with rfl | h
      · exact hy
      · have := up_in hs hu x h; omega
    · rw [up_no hy] at hu; cases hu
theorem rise_up (p : Int) : ∀ (xs : List Int), 0 ≤ p → rise 1 1000000000 (some p) xs = up 1 (p + 1) xs
  | [], _ => rfl
  | x :: xs, hp => by
    by_cases h : p + 1 ≤ x ∧ x ≤ 1000000000
    · rw [up_yes h.1 h.2, rise_next (by omega) h.2 (by omega)]
      exact rise_up x xs (by omega)
    · rw [up_no h]
      by_cases h2 : 1 ≤ x ∧ x ≤ 1000000000
      · exact rise_low (by omega)
      · exact rise_out h2
theorem rise_up0 (xs : List Int) : rise 1 1000000000 none xs = up 1 1 xs := by
  have := rise_up 0 xs (by omega)
  rw [rise_zero (by omega)] at this
  exact this
/-- the products of the first numbers, from p on, if none is too great -/
def prodL : Int → List Int → Option (List Int)
  | _, [] => some []
  | p, x :: xs => if p * x ≤ 1000000000 then (prodL (p * x) xs).map (p * x :: ·) else none
theorem prodL_yes {p x : Int} {xs : List Int} (h : p * x ≤ 1000000000) : prodL p (x :: xs) = (prodL (p * x) xs).map (p * x :: ·) := by simp [prodL, h]
theorem prodL_no {p x : Int} {xs : List Int} (h : ¬ p * x ≤ 1000000000) : prodL p (x :: xs) = none := by simp [prodL, h]
theorem prodL_len : ∀ {xs ps : List Int} {p : Int}, prodL p xs = some ps → ps.length = xs.length
  | [], ps, p, h => by simp [prodL] at h; subst h; rfl
  | x :: xs, ps, p, h => by
    by_cases hx : p * x ≤ 1000000000
    · rw [prodL_yes hx] at h
      cases hr : prodL (p * x) xs with
      | none => rw [hr] at h; cases h
      | some qs =>
        rw [hr] at h
        injection h with h
        subst h
        simp [prodL_len hr]
    · rw [prodL_no hx] at h; cases h
theorem prodL_in : ∀ {xs ps : List Int} {p : Int}, 1 ≤ p → (∀ x ∈ xs, 1 ≤ x) → prodL p xs = some ps → ∀ q ∈ ps, p ≤ q ∧ q ≤ 1000000000
  | [], ps, p, _, _, h => by simp [prodL] at h; subst h; intro q hq; cases hq
  | x :: xs, ps, p, hp, hx, h => by
    have h1 := hx x (by simp)
    have h2 : p * 1 ≤ p * x := Int.mul_le_mul_of_nonneg_left h1 (by omega)
    by_cases hle : p * x ≤ 1000000000
    · rw [prodL_yes hle] at h
      cases hr : prodL (p * x) xs with
      | none => rw [hr] at h; cases h
      | some qs =>
        rw [hr] at h
        injection h with h
        subst h
        intro q hq
        rcases List.mem_cons.1 hq with rfl | hq
        · omega
        · have := prodL_in (by omega) (fun x hx' => hx x (by simp [hx'])) hr q hq
          omega
    · rw [prodL_no hle] at h; cases h
/-- behind numbers of at least 2 the products rise -/
theorem prodL_rise : ∀ {xs ps : List Int} {p : Int}, 1 ≤ p → (∀ x ∈ xs, 2 ≤ x) → prodL p xs = some ps → rise 1 1000000000 (some p) ps = true
  | [], ps, p, _, _, h => by simp [prodL] at h; subst h; rfl
  | x :: xs, ps, p, hp, hx, h => by
    have h1 := hx x (by simp)
    have h2 : p * 2 ≤ p * x := Int.mul_le_mul_of_nonneg_left h1 (by omega)
    by_cases hle : p * x ≤ 1000000000
    · rw [prodL_yes hle] at h
      cases hr : prodL (p * x) xs with
      | none => rw [hr] at h; cases h
      | some qs =>
        rw [hr] at h
        injection h with h
        subst h
        rw [rise_next (by omega) hle (by omega)]
        exact prodL_rise (by omega) (fun x hx' => hx x (by simp [hx'])) hr
    · rw [prodL_no hle] at h; cases h

/- Engel lists -/
/-- the sum of the unit fractions of the products -/
def engS (xs : List Int) : Option (Int × Int) := (prodL 1 xs).bind (sumL 0 1)
def engB (xs : List Int) : Bool := decide (xs.length ≤ 24) && up 0 2 xs && (engS xs).isSome
def engN (xs : List Int) : Int := if engB xs = true then ((engS xs).getD (0, 0)).1 else 0
def engD (xs : List Int) : Int := if engB xs = true then ((engS xs).getD (0, 0)).2 else 0
theorem engB_long {xs : List Int} (h : ¬ xs.length ≤ 24) : engB xs = false := by simp [engB, h]
theorem engB_up {xs : List Int} (h : up 0 2 xs = false) : engB xs = false := by simp [engB, h]
theorem engB_none {xs : List Int} (h : engS xs = none) : engB xs = false := by simp [engB, h]
theorem engB_yes {xs : List Int} {n d : Int} (h1 : xs.length ≤ 24) (h2 : up 0 2 xs = true) (h3 : engS xs = some (n, d)) : engB xs = true := by simp [engB, h1, h2, h3]
theorem engB_parts {xs : List Int} (h : engB xs = true) : xs.length ≤ 24 ∧ up 0 2 xs = true ∧ engS xs = some (engN xs, engD xs) := by
  have h0 := h
  simp only [engB, Bool.and_eq_true, decide_eq_true_eq] at h
  refine ⟨h.1.1, h.1.2, ?_⟩
  cases hs : engS xs with
  | none => rw [hs] at h; cases h.2
  | some p => simp [engN, engD, hs, h0]
theorem eng_no {xs : List Int} (h : engB xs = false) : engN xs = 0 ∧ engD xs = 0 := by simp [engN, engD, h]
theorem eng_of {xs : List Int} {n d : Int} (h : engB xs = true) (h3 : engS xs = some (n, d)) : engN xs = n ∧ engD xs = d := by simp [engN, engD, h, h3]
/-- products of an Engel list: an expansion exactly if the sum is told -/
theorem eng_exp {xs ps : List Int} (hl : xs.length ≤ 24) (hu : up 0 2 xs = true) (h : prodL 1 xs = some ps) : expB ps = (sumL 0 1 ps).isSome := by
  have hr := prodL_rise (by omega) (fun x hx => (up_in (by omega) hu x hx).1) h
  have h1 : rise 1 1000000000 none ps = true := by
    cases ps with
    | nil => rfl
    | cons q qs =>
      unfold rise at hr ⊢
      simp only [Bool.and_eq_true, decide_eq_true_eq, and_true] at hr ⊢
      exact ⟨hr.1.1, hr.2⟩
  have h2 := prodL_len h
  simp [expB, h1, h2, hl]

/- Pierce lists -/
/-- sums and differences in turn from n / d on, of the unit fractions of numbers -/
def altL : Bool → Int → Int → List Int → Option (Int × Int)
  | _, n, d, [] => some (n, d)
  | true, n, d, t :: ts => if redB (n * t + d) (d * t) = true then altL false (redN (n * t + d) (d * t)) (redD (n * t + d) (d * t)) ts else none
  | false, n, d, t :: ts => if d ≤ n * t ∧ redB (n * t - d) (d * t) = true then altL true (redN (n * t - d) (d * t)) (redD (n * t - d) (d * t)) ts else none
theorem altL_add {n d t : Int} {ts : List Int} (h : redB (n * t + d) (d * t) = true) : altL true n d (t :: ts) = altL false (redN (n * t + d) (d * t)) (redD (n * t + d) (d * t)) ts := by simp [altL, h]
theorem altL_add_no {n d t : Int} {ts : List Int} (h : redB (n * t + d) (d * t) = false) : altL true n d (t :: ts) = none := by simp [altL, h]
theorem altL_sub {n d t : Int} {ts : List Int} (hl : d ≤ n * t) (h : redB (n * t - d) (d * t) = true) : altL false n d (t :: ts) = altL true (redN (n * t - d) (d * t)) (redD (n * t - d) (d * t)) ts := by simp [altL, h, hl]
theorem altL_sub_no {n d t : Int} {ts : List Int} (h : d ≤ n * t → redB (n * t - d) (d * t) = false) : altL false n d (t :: ts) = none := by
  simp only [altL]
  rw [if_neg]
  intro hh
  rw [h hh.1] at hh
  cases hh.2
/-- the last number is one more than that before it -/
def nextB : List Int → Bool
  | [] => false
  | [_] => false
  | [x, y] => decide (y = x + 1)
  | _ :: y :: z :: zs => nextB (y :: z :: zs)
def pieS (xs : List Int) : Option (Int × Int) := (prodL 1 xs).bind (altL true 0 1)
def pieB (xs : List Int) : Bool := decide (xs.length ≤ 24) && up 1 1 xs && !nextB xs && (pieS xs).isSome
def pieN (xs : List Int) : Int := if pieB xs = true then ((pieS xs).getD (0, 0)).1 else 0
def pieD (xs : List Int) : Int := if pieB xs = true then ((pieS xs).getD (0, 0)).2 else 0
theorem pieB_long {xs : List Int} (h : ¬ xs.length ≤ 24) : pieB xs = false := by simp [pieB, h]
theorem pieB_up {xs : List Int} (h : up 1 1 xs = false) : pieB xs = false := by simp [pieB, h]
theorem pieB_next {xs : List Int} (h : nextB xs = true) : pieB xs = false := by simp [pieB, h]
theorem pieB_none {xs : List Int} (h : pieS xs = none) : pieB xs = false := by simp [pieB, h]
theorem pieB_yes {xs : List Int} {n d : Int} (h1 : xs.length ≤ 24) (h2 : up 1 1 xs = true) (h4 : nextB xs = false) (h3 : pieS xs = some (n, d)) : pieB xs = true := by simp [pieB, h1, h2, h3, h4]
theorem pieB_parts {xs : List Int} (h : pieB xs = true) : xs.length ≤ 24 ∧ up 1 1 xs = true ∧ nextB xs = false ∧ pieS xs = some (pieN xs, pieD xs) := by
  have h0 := h
  simp only [pieB, Bool.and_eq_true, decide_eq_true_eq, Bool.not_eq_true'] at h
  refine ⟨h.1.1.1, h.1.1.2, h.1.2, ?_⟩
  cases hs : pieS xs with
  | none => rw [hs] at h; cases h.2
  | some p => simp [pieN, pieD, hs, h0]
theorem pie_no {xs : List Int} (h : pieB xs = false) : pieN xs = 0 ∧ pieD xs = 0 := by simp [pieN, pieD, h]
theorem pie_of {xs : List Int} {n d : Int} (h : pieB xs = true) (h3 : pieS xs = some (n, d)) : pieN xs = n ∧ pieD xs = d := by simp [pieN, pieD, h, h3]
theorem nextB_short {xs : List Int} (h : xs.length ≤ 1) : nextB xs = false := by
  match xs, h with
  | [], _ => rfl
  | [_], _ => rfl
theorem nextB_last : ∀ {xs : List Int} {k : Nat} {x y : Int}, xs.length = k + 2 → xs[k]? = some x → xs[k + 1]? = some y → nextB xs = decide (y = x + 1)
  | [a, b], k, x, y, hl, hx, hy => by
    simp at hl
    subst hl
    simp at hx hy
    subst hx hy
    rfl
  | a :: b :: c :: zs, k, x, y, hl, hx, hy => by
    match k, hl, hx, hy with
    | 0, hl, _, _ => simp at hl
    | k + 1, hl, hx, hy => exact nextB_last (xs := b :: c :: zs) (k := k) (by simpa using hl) (by simpa using hx) (by simpa using hy)
  | [], k, x, y, hl, _, _ => by simp at hl
  | [_], k, x, y, hl, _, _ => by simp at hl

/- growth -/
def growsL : List Int → Bool
  | x :: y :: ys => decide (x * (x - 1) < y) && growsL (y :: ys)
  | _ => true
theorem growsL_short {xs : List Int} (h : xs.length ≤ 1) : growsL xs = true := by
  match xs, h with
  | [], _ => rfl
  | [_], _ => rfl
theorem growsL_step {xs : List Int} {k : Nat} {x y : Int} (hx : xs[k]? = some x) (hy : xs[k + 1]? = some y) : growsL (xs.drop k) = (decide (x * (x - 1) < y) && growsL (xs.drop (k + 1))) := by
  rw [drop_at hx, drop_at hy, growsL]
end Go.Proofs.YtbjblkfibinenadGreatDoor
