
/-
  Contracts of the program's test of a list that rises or does not fall, and of the sum of the unit fractions of a list.
-/
import Derived.Test.YtbjblkfibinenadGreatSum
import Derived.Test.YtbjblkfibinenadGreatProdP
namespace Go.Proofs.YtbjblkfibinenadGreat
open Go.RowKit
set_option maxHeartbeats 2000000 in
theorem isRising_any (w : World) (lo s : Int) (Axs : Option Addr) (cxs : Nat) (xs : List Int) (hxs : Reads w Axs xs) (lxs : xs.length ≤ 1048576) (r64 : ∀ (i : Nat) (x : Int), xs[i]? = some x → -9223372036854775808 ≤ x ∧ x ≤ 9223372036854775807) (hl0 : 1 ≤ lo) (hl1 : lo ≤ 1000) (hs0 : 0 ≤ s) (hs1 : s ≤ 1000) : Calls Tryz.prog 64 #[.slice Axs xs.length cxs, .int .i64 lo, .int .i64 s] w (RetQ (.bool (decide (xs.length ≤ 24) && up s lo xs)) w) := by
  have Hxs := Lib.hid hxs
  have Hr64 := Lib.hid r64
  clear hxs r64
  by_cases hl : xs.length ≤ 24
  · have E : Hid ((decide (xs.length ≤ 24) && up s lo xs) = up s lo xs) := Lib.hid (by simp [hl])
    go_enter Tryz.func64, Tryz.ntmps64
    go_wp2
    go_loopw [1, 14] (fun v1 v14 wr => ∃ (k : Nat) (l : Int), k ≤ xs.length ∧ v14 = .int .i64 k ∧ v1 = .int .i64 l ∧ 1 ≤ l ∧ l ≤ 1000001000 ∧ up s lo xs = up s l (xs.drop k) ∧ ∃ n, wr = w.drewN n) (fun _ v14 _ => xs.length - (intOf v14).toNat)
    case atStart => exact ⟨0, lo, Nat.zero_le _, rfl, rfl, by omega, by omega, rfl, 0, rfl⟩
    case round =>
      obtain ⟨k, l, hk, rfl, rfl, l1, l2, hr, n, rfl⟩ := hrel
      have Hr := Lib.hid hr
      clear hr
      by_cases hlt : k < xs.length
      · obtain ⟨b, o, x, rfl, hb, hx, hcell⟩ := Hxs.out.at_ hlt
        have hx6 := Hr64.out k x hx
        have Hx := Lib.hid hx
        clear hx
        by_cases h1 : l ≤ x
        · by_cases h2 : x ≤ 1000000000
          · have Hst := Lib.hid (up_yes (s := s) (xs := xs.drop (k + 1)) h1 h2)
            go_wp2
            go_roundw
            case rel => exact ⟨k + 1, x + s, by omega, by go_num, rfl, by omega, by omega, by rw [Hr.out, drop_at Hx.out, Hst.out], n, rfl⟩
            case measure => simp [intOf]; omega
          · have h2' : 1000000000 < x := by omega
            go_wp2
            go_ret
            exact ⟨ret_bool (by first | (rw [E.out, Hr.out, drop_at Hx.out, up_no (by omega)]; done) | (rw [Hr.out, drop_at Hx.out, up_no (by omega)]; done)), n, rfl⟩
        · have h1' : x < l := by omega
          go_wp2
          go_ret
          exact ⟨ret_bool (by first | (rw [E.out, Hr.out, drop_at Hx.out, up_no (by omega)]; done) | (rw [Hr.out, drop_at Hx.out, up_no (by omega)]; done)), n, rfl⟩
      · obtain rfl : k = xs.length := by omega
        go_wp2
        go_ret
        exact ⟨ret_bool (by first | (rw [E.out, Hr.out, drop_all]; rfl) | (rw [Hr.out, drop_all]; rfl)), n, rfl⟩
  · have E : Hid ((decide (xs.length ≤ 24) && up s lo xs) = false) := Lib.hid (by simp [hl])
    have hl' : 24 < (xs.length : Int) := by omega
    go_enter Tryz.func64, Tryz.ntmps64
    go_wp2
    go_ret
    exact ⟨ret_bool E.out.symm, 0, rfl⟩
set_option maxHeartbeats 4000000 in
theorem addUnits_any (w : World) (Axs : Option Addr) (cxs : Nat) (xs : List Int) (hxs : Reads w Axs xs) (lxs : xs.length ≤ 1048576) (hin : ∀ (i : Nat) (x : Int), xs[i]? = some x → 1 ≤ x ∧ x ≤ 1000000000) :
    Calls Tryz.prog 65 #[.slice Axs xs.length cxs] w (Ret (.tuple #[.agg #[.int .i64 (sumN xs), .int .i64 (sumD xs)], .bool ((sumL 0 1 xs).isSome)]) w) := by
  have lt02 : w.heap.size < w.heap.size + 1 + 1 := by omega
  have lt03 : w.heap.size < w.heap.size + 1 + 1 + 1 := by omega
  have ne02 : w.heap.size ≠ w.heap.size + 1 + 1 := by omega
  have ne20 : w.heap.size + 1 + 1 ≠ w.heap.size := by omega
  have ne03 : w.heap.size ≠ w.heap.size + 1 + 1 + 1 := by omega
  have ne30 : w.heap.size + 1 + 1 + 1 ≠ w.heap.size := by omega
  have lt13 : w.heap.size + 1 < w.heap.size + 1 + 1 + 1 := by omega
  go_enter Tryz.func65, Tryz.ntmps65
  go_wp2
  go_loopw [12] (fun v12 wr => ∃ (k : Nat) (n d : Int), k ≤ xs.length ∧ v12 = .int .i64 k ∧ goodB n d = true ∧ sumL 0 1 xs = sumL n d (xs.drop k) ∧ TwoAt wr w.heap.size 0 0 ∧ TwoAt wr (w.heap.size + 1) n d ∧ Below w.heap.size w wr) (fun v12 _ => xs.length - (intOf v12).toNat)
  case atStart => exact ⟨0, 0, 1, Nat.zero_le _, rfl, good_zero, rfl, by (refine ⟨?_, ?_, ?_, ?_, ?_⟩ <;> first | (simp only [World.size_alloc]; omega) | (first | (simp [*, World.cell?_alloc_some]; done) | (simp [go_sem, *]; done))), by (refine ⟨?_, ?_, ?_, ?_, ?_⟩ <;> first | (simp only [World.size_alloc]; omega) | (first | (simp [*]; done) | (simp [go_sem, *]; done))), by (repeat' (first | (with_reducible exact Below.refl _ _) | (with_reducible assumption) | (with_reducible refine Below.drew ?_) | (with_reducible refine belowDrewN ?_ _) | (with_reducible refine Below.alloc ?_ ?_ _) | (with_reducible refine Below.setCell ?_ ?_ _) | (with_reducible refine belowStep (by assumption) ?_ ?_) | (with_reducible exact Below.size (by assumption)) | go_size))⟩
  case round =>
    obtain ⟨k, n, d, hk, rfl, hg, hs, ⟨c1, c2, f1, f2, z1⟩, ⟨c3, c4, f3, f4, z2⟩, hbr⟩ := hrel
    have Hg := Lib.hid hg
    have Hs := Lib.hid hs
    obtain ⟨n1, n2, d1, d2⟩ := good_bounds hg
    clear hg hs
    have Hin := Lib.hid hin
    have Hxs := Lib.hid hxs
    clear hin hxs
    by_cases hlt : k < xs.length
    · obtain ⟨b, o, x, rfl, hb, hx, hcell⟩ := (Hxs.out.below hbr).at_ hlt
      obtain ⟨x1, x2⟩ := Hin.out k x hx
      have Hx := Lib.hid hx
      clear hx
      have p2 := mul_pos1 d1 x1
      cases hred : redB (n * x + d) (d * x) with
      | true =>
        have Hred := Lib.hid hred
        have hnn : 0 ≤ n * x + d := by have := mul_bounds n1 n2 (by omega : 0 ≤ x) x2; omega
        have Hnn := Lib.hid hnn
        clear hnn
        go_wp2_with (go_at_call 79; refine (add_yes _ _ _ _ _ Hg.out (good_unit x1 x2)).mono ?_; rintro e w1 ⟨rfl, hb1⟩; obtain ⟨hc1, hf1⟩ := bcellB hb1; have hz1 := hb1.size; (try simp only [World.size_alloc, World.size_setCell, World.size_drew, World.heap_drewN] at hc1 hf1 hz1); (try have hy1_r_0 : wr.heap.size < w1.heap.size := by omega); (try have hn1_r_0 : wr.heap.size ≠ w1.heap.size := by omega); (try have hm1_r_0 : w1.heap.size ≠ wr.heap.size := by omega); (try have hy1_r_1 : wr.heap.size + 1 < w1.heap.size := by omega); (try have hn1_r_1 : wr.heap.size + 1 ≠ w1.heap.size := by omega); (try have hm1_r_1 : w1.heap.size ≠ wr.heap.size + 1 := by omega); (try have hy1_r_2 : wr.heap.size + 1 + 1 < w1.heap.size := by omega); (try have hp1_r_1 : wr.heap.size < w1.heap.size + 1 := by omega); (try have hp1_r_2 : wr.heap.size < w1.heap.size + 1 + 1 := by omega); (try have hy1_0_0 : w.heap.size < w1.heap.size := by omega); (try have hn1_0_0 : w.heap.size ≠ w1.heap.size := by omega); (try have hm1_0_0 : w1.heap.size ≠ w.heap.size := by omega); (try have hy1_0_1 : w.heap.size + 1 < w1.heap.size := by omega); (try have hn1_0_1 : w.heap.size + 1 ≠ w1.heap.size := by omega); (try have hm1_0_1 : w1.heap.size ≠ w.heap.size + 1 := by omega); (try have hy1_0_2 : w.heap.size + 1 + 1 < w1.heap.size := by omega); (try have hp1_0_1 : w.heap.size < w1.heap.size + 1 := by omega); (try have hp1_0_2 : w.heap.size < w1.heap.size + 1 + 1 := by omega); (try have hg1_g1 : g1 < w1.heap.size := by omega); (try have hi1_g1 : g1 ≠ w1.heap.size := by omega); (try have hj1_g1 : w1.heap.size ≠ g1 := by omega); (try have hk1_g1 : g1 < w1.heap.size + 1 := by omega); (try have hg1_g2 : g2 < w1.heap.size := by omega); (try have hi1_g2 : g2 ≠ w1.heap.size := by omega); (try have hj1_g2 : w1.heap.size ≠ g2 := by omega); (try have hk1_g2 : g2 < w1.heap.size + 1 := by omega))
        go_roundw
        case rel => exact ⟨k + 1, redN (n * x + d) (d * x), redD (n * x + d) (d * x), by omega, by go_num, good_of_redB Hnn.out p2 Hred.out, by rw [Hs.out, drop_at Hx.out, sumL_yes Hred.out], by (refine ⟨?_, ?_, ?_, ?_, ?_⟩ <;> first | (simp only [World.size_alloc, World.size_setCell]; omega) | (first | (simp [*, World.cell?_alloc_some, World.cell?_setCell_far]; done) | (simp [go_sem, *]; done))), by (refine ⟨?_, ?_, ?_, ?_, ?_⟩ <;> first | (simp only [World.size_alloc, World.size_setCell]; omega) | (first | (simp [*, World.cell?_alloc_some, World.cell?_setCell_far]; done) | (simp [go_sem, *]; done))), by (repeat' (first | (with_reducible exact Below.refl _ _) | (with_reducible assumption) | (with_reducible refine Below.drew ?_) | (with_reducible refine belowDrewN ?_ _) | (with_reducible refine Below.alloc ?_ ?_ _) | (with_reducible refine Below.setCell ?_ ?_ _) | (with_reducible refine belowStep (by assumption) ?_ ?_) | (with_reducible exact Below.size (by assumption)) | go_size))⟩
        case measure => simp [intOf]; omega
      | false =>
        have Hred := Lib.hid hred
        have Hnone : Hid (sumL 0 1 xs = none) := by
          have := Hs.out
          rw [drop_at Hx.out, sumL_no Hred.out] at this
          exact this
        go_wp2_with (go_at_call 79; refine (add_yes _ _ _ _ _ Hg.out (good_unit x1 x2)).mono ?_; rintro e w1 ⟨rfl, hb1⟩; obtain ⟨hc1, hf1⟩ := bcellB hb1; have hz1 := hb1.size; (try simp only [World.size_alloc, World.size_setCell, World.size_drew, World.heap_drewN] at hc1 hf1 hz1); (try have hy1_r_0 : wr.heap.size < w1.heap.size := by omega); (try have hn1_r_0 : wr.heap.size ≠ w1.heap.size := by omega); (try have hm1_r_0 : w1.heap.size ≠ wr.heap.size := by omega); (try have hy1_r_1 : wr.heap.size + 1 < w1.heap.size := by omega); (try have hn1_r_1 : wr.heap.size + 1 ≠ w1.heap.size := by omega); (try have hm1_r_1 : w1.heap.size ≠ wr.heap.size + 1 := by omega); (try have hy1_r_2 : wr.heap.size + 1 + 1 < w1.heap.size := by omega); (try have hp1_r_1 : wr.heap.size < w1.heap.size + 1 := by omega); (try have hp1_r_2 : wr.heap.size < w1.heap.size + 1 + 1 := by omega); (try have hy1_0_0 : w.heap.size < w1.heap.size := by omega); (try have hn1_0_0 : w.heap.size ≠ w1.heap.size := by omega); (try have hm1_0_0 : w1.heap.size ≠ w.heap.size := by omega); (try have hy1_0_1 : w.heap.size + 1 < w1.heap.size := by omega); (try have hn1_0_1 : w.heap.size + 1 ≠ w1.heap.size := by omega); (try have hm1_0_1 : w1.heap.size ≠ w.heap.size + 1 := by omega); (try have hy1_0_2 : w.heap.size + 1 + 1 < w1.heap.size := by omega); (try have hp1_0_1 : w.heap.size < w1.heap.size + 1 := by omega); (try have hp1_0_2 : w.heap.size < w1.heap.size + 1 + 1 := by omega); (try have hg1_g1 : g1 < w1.heap.size := by omega); (try have hi1_g1 : g1 ≠ w1.heap.size := by omega); (try have hj1_g1 : w1.heap.size ≠ g1 := by omega); (try have hk1_g1 : g1 < w1.heap.size + 1 := by omega); (try have hg1_g2 : g2 < w1.heap.size := by omega); (try have hi1_g2 : g2 ≠ w1.heap.size := by omega); (try have hj1_g2 : w1.heap.size ≠ g2 := by omega); (try have hk1_g2 : g2 < w1.heap.size + 1 := by omega))
        refine bodyPost_ret (by simp [results, Tryz.results65, go_sem, *]; try rfl) rfl ?_
        exact ⟨ret_fr (by rw [sumN, Hnone.out]; rfl) (by rw [sumD, Hnone.out]; rfl) (by rw [Hnone.out]; rfl), by (repeat' (first | (with_reducible exact Below.refl _ _) | (with_reducible assumption) | (with_reducible refine Below.drew ?_) | (with_reducible refine belowDrewN ?_ _) | (with_reducible refine Below.alloc ?_ ?_ _) | (with_reducible refine Below.setCell ?_ ?_ _) | (with_reducible refine belowStep (by assumption) ?_ ?_) | (with_reducible exact Below.size (by assumption)) | go_size))⟩
    · obtain rfl : k = xs.length := by omega
      rw [drop_all] at Hs
      go_wp2
      refine bodyPost_ret (by simp [results, Tryz.results65, go_sem, *]; try rfl) rfl ?_
      exact ⟨ret_fr (sumN_of Hs.out).symm (sumD_of Hs.out).symm (by rw [Hs.out]; rfl), by (repeat' (first | (with_reducible exact Below.refl _ _) | (with_reducible assumption) | (with_reducible refine Below.drew ?_) | (with_reducible refine belowDrewN ?_ _) | (with_reducible refine Below.alloc ?_ ?_ _) | (with_reducible refine Below.setCell ?_ ?_ _) | (with_reducible refine belowStep (by assumption) ?_ ?_) | (with_reducible exact Below.size (by assumption)) | go_size))⟩
end Go.Proofs.YtbjblkfibinenadGreat
