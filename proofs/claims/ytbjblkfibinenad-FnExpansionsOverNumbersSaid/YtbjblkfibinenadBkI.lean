
/-
  Contracts of BreakOf, in the program.
-/
import Derived.Test.YtbjblkfibinenadBkC
namespace Go.Proofs.Ytbjblkfibinenad
open Go.RowKit
set_option maxRecDepth 100000 in
set_option maxHeartbeats 4000000 in
theorem breakOf_any (n : Int) (w : World) : Calls Try.prog 65 #[.int .i64 n] w (Ret (bkV (brO n)) w) := by
  cases hn : numB n with
  | false =>
    have E := Lib.hid (brO_no hn)
    have HPP : Hid (∀ w, Calls Try.prog 81 #[.int .i64 n] w (RetPP [] false w)) := Lib.hid fun w => by have := primePowers_any n w; rwa [ppO_no hn] at this
    unfold RetPP at HPP
    clear hn
    go_enter Try.func65, Try.ntmps65
    go_wp2_with fail
    refine (HPP.out _).mono ?_; rintro e w2 ⟨va, vb, rfl, ho, hq, hs, hb2⟩; obtain ⟨A2, c2, rfl, hra⟩ := ho.form; obtain ⟨B2, d2, rfl, hrb⟩ := hq.form
    have hz2 := hb2.size
    clear ho hq hra hrb hs
    have h0 : (fsts []).length = 0 := rfl
    rw [h0]
    go_wp2
    go_loopw [8, 21] (fun v8 v21 wr => v8 = .int .i64 1 ∧ v21 = .int .i64 0 ∧ wr = w2) (fun _ _ _ => 0)
    case atStart => exact ⟨rfl, rfl, rfl⟩
    case round =>
      obtain ⟨rfl, rfl, rfl⟩ := hrel
      go_wp2
      go_ret3
      rw [E.out]
      exact ⟨rfl, by (repeat' (first | (with_reducible exact Below.refl _ _) | (with_reducible assumption) | (with_reducible refine Below.drew ?_) | (with_reducible refine belowDrewN ?_ _) | (with_reducible refine Below.alloc ?_ ?_ _) | (with_reducible refine Below.setCell ?_ ?_ _) | (with_reducible refine belowStep (by assumption) ?_ ?_) | (with_reducible exact Below.size (by assumption)) | go_size))⟩
  | true =>
    obtain ⟨N, rfl, h1, h2⟩ := numB_nat hn
    have EO := Lib.hid (brO_yes hn)
    have hL := ppO_len (N : Int)
    rw [ppO_yes hn] at hL
    simp only [Option.getD_some] at hL
    have hf1 := fsts_len (pps N)
    have hs1 := snds_len (pps N)
    have B0 := Lib.hid (Bk.start h1 h2)
    obtain ⟨ys, hys⟩ : ∃ ys, ys = fsts (pps N) := ⟨_, rfl⟩
    obtain ⟨zs, hzs⟩ : ∃ zs, zs = snds (pps N) := ⟨_, rfl⟩
    rw [← hys] at hf1
    rw [← hzs] at hs1
    obtain ⟨f2, f3⟩ : ys.length ≤ (pps N).length ∧ (pps N).length ≤ ys.length := by omega
    obtain ⟨s2, s3⟩ : zs.length ≤ (pps N).length ∧ (pps N).length ≤ zs.length := by omega
    have Hys := Lib.hid hys
    have Hzs := Lib.hid hzs
    clear hf1 hs1 hys hzs
    have HPP : Hid (∀ w, Calls Try.prog 81 #[.int .i64 (N : Int)] w (fun e w' => ∃ va vb, e = .returned (.tuple #[va, vb, .bool true]) ∧ OwnI w' w.heap.size va ys ∧ OwnI w' w.heap.size vb zs ∧ Below w.heap.size w w')) := Lib.hid fun w => by
      refine (primePowers_any (N : Int) w).mono ?_
      rw [ppO_yes hn]
      rintro e w' ⟨va, vb, rfl, a, b, _, d⟩
      rw [Hys.out, Hzs.out]
      exact ⟨va, vb, rfl, a, b, d⟩
    clear hn
    go_enter Try.func65, Try.ntmps65
    go_wp2_with fail
    refine (HPP.out _).mono ?_; rintro e w2 ⟨va, vb, rfl, ho, hq, hb2⟩; obtain ⟨A2, c2, rfl, hra⟩ := ho.form; obtain ⟨B2, d2, rfl, hrb⟩ := hq.form
    have RA := Lib.hid hra
    have RB := Lib.hid hrb
    have hz2 := hb2.size
    (try simp only [World.size_alloc, World.size_setCell, World.size_drew, World.heap_drewN] at hz2)
    clear ho hq hra hrb
    go_wp2
    go_loopw [8, 21] (fun v5 v21 wr => ∃ (k m : Nat), v5 = .int .i64 (m : Int) ∧ v21 = .int .i64 (k : Int) ∧ k ≤ ys.length ∧ Bk N k m ∧ Below w2.heap.size w2 wr) (fun _ v21 _ => ys.length - (intOf v21).toNat)
    case atStart => exact ⟨0, 1, rfl, rfl, Nat.zero_le _, B0.out, by (repeat' (first | (with_reducible exact Below.refl _ _) | (with_reducible assumption) | (with_reducible refine Below.drew ?_) | (with_reducible refine belowDrewN ?_ _) | (with_reducible refine Below.alloc ?_ ?_ _) | (with_reducible refine Below.setCell ?_ ?_ _) | (with_reducible refine belowStep (by assumption) ?_ ?_) | (with_reducible exact Below.size (by assumption)) | go_size))⟩
    case round =>
      obtain ⟨k, m, rfl, rfl, hk, hB, hbr⟩ := hrel
      have HB := Lib.hid hB
      have hm1 := hB.one
      have hm2 := hB.top
      have hzr := hbr.size
      clear hB
      by_cases hlt : k < ys.length
      · obtain ⟨⟨p, c⟩, hx⟩ : ∃ x, (pps N)[k]? = some x := ⟨_, List.getElem?_eq_getElem (show k < (pps N).length by omega)⟩
        obtain ⟨hp1, hp2, hc1, hc2⟩ := HB.out.small hx
        obtain ⟨b, o, x, rfl, hbb, hy, hcell⟩ := (RA.out.below hbr).at_ hlt
        obtain ⟨b', o', x', rfl, hbb', hy', hcell'⟩ := (RB.out.below hbr).at_ (show k < zs.length by omega)
        rw [Hys.out, fsts_at hx] at hy
        rw [Hzs.out, snds_at hx] at hy'
        injection hy with hy
        injection hy' with hy'
        subst hy hy'
        have hki : (k : Int) < (ys.length : Int) := by omega
        have hkz : (k : Int) < (zs.length : Int) := by omega
        have HS : Hid (∀ w, Calls Try.prog 77 #[.int .i64 (m : Int)] w (Ret (.tuple #[.int .i64 (sig m : Int), .bool true]) w)) := Lib.hid fun w => by
          have := divisorSum_any (m : Int) w
          rwa [sgR_yes (numB_of hm1 hm2), numB_of hm1 hm2] at this
        have hsg := sig_small hm2
        by_cases hs : sig m + 1 < p
        · have E := Lib.hid (HB.out.hit hx hs)
          have hs' : (sig m : Int) + 1 < (p : Int) := by omega
          generalize sig m = sm at *
          clear hx
          go_wp2_with fail
          refine (HS.out _).mono ?_; rintro e w3 ⟨rfl, hb3⟩; have hz3 := hb3.size; (try simp only [World.size_alloc, World.size_setCell, World.size_drew, World.heap_drewN] at hz3)
          go_wp2
          go_ret3
          rw [EO.out, E.out]
          exact ⟨rfl, by (repeat' (first | (with_reducible exact Below.refl _ _) | (with_reducible assumption) | (with_reducible refine Below.drew ?_) | (with_reducible refine belowDrewN ?_ _) | (with_reducible refine Below.alloc ?_ ?_ _) | (with_reducible refine Below.setCell ?_ ?_ _) | (with_reducible refine belowStep (by assumption) ?_ ?_) | (with_reducible exact Below.size (by assumption)) | go_size))⟩
        · have hnx := HB.out.next hx hs
          have ht := hnx.top
          have HX := Lib.hid hnx
          have hs' : ¬ (sig m : Int) + 1 < (p : Int) := by omega
          generalize sig m = sm at *
          clear hx hnx hs
          go_wp2_with fail
          refine (HS.out _).mono ?_; rintro e w3 ⟨rfl, hb3⟩; have hz3 := hb3.size; (try simp only [World.size_alloc, World.size_setCell, World.size_drew, World.heap_drewN] at hz3)
          obtain ⟨hc3, hf3⟩ := bcellB hb3; have hz3 := hb3.size; (try simp only [World.size_alloc, World.size_setCell, World.size_drew, World.heap_drewN] at hc3 hf3 hz3); (try have hy3_r_0 : wr.heap.size < w3.heap.size := by omega); (try have hn3_r_0 : wr.heap.size ≠ w3.heap.size := by omega); (try have hm3_r_0 : w3.heap.size ≠ wr.heap.size := by omega); (try have hy3_r_1 : wr.heap.size + 1 < w3.heap.size := by omega); (try have hn3_r_1 : wr.heap.size + 1 ≠ w3.heap.size := by omega); (try have hm3_r_1 : w3.heap.size ≠ wr.heap.size + 1 := by omega); (try have hy3_r_2 : wr.heap.size + 1 + 1 < w3.heap.size := by omega); (try have hp3_r_1 : wr.heap.size < w3.heap.size + 1 := by omega); (try have hp3_r_2 : wr.heap.size < w3.heap.size + 1 + 1 := by omega); (try have hy3_0_0 : w.heap.size < w3.heap.size := by omega); (try have hn3_0_0 : w.heap.size ≠ w3.heap.size := by omega); (try have hm3_0_0 : w3.heap.size ≠ w.heap.size := by omega); (try have hy3_0_1 : w.heap.size + 1 < w3.heap.size := by omega); (try have hn3_0_1 : w.heap.size + 1 ≠ w3.heap.size := by omega); (try have hm3_0_1 : w3.heap.size ≠ w.heap.size + 1 := by omega); (try have hy3_0_2 : w.heap.size + 1 + 1 < w3.heap.size := by omega); (try have hp3_0_1 : w.heap.size < w3.heap.size + 1 := by omega); (try have hp3_0_2 : w.heap.size < w3.heap.size + 1 + 1 := by omega); (try have hy3_1_0 : w1.heap.size < w3.heap.size := by omega); (try have hn3_1_0 : w1.heap.size ≠ w3.heap.size := by omega); (try have hm3_1_0 : w3.heap.size ≠ w1.heap.size := by omega); (try have hy3_1_1 : w1.heap.size + 1 < w3.heap.size := by omega); (try have hn3_1_1 : w1.heap.size + 1 ≠ w3.heap.size := by omega); (try have hm3_1_1 : w3.heap.size ≠ w1.heap.size + 1 := by omega); (try have hy3_1_2 : w1.heap.size + 1 + 1 < w3.heap.size := by omega); (try have hp3_1_1 : w1.heap.size < w3.heap.size + 1 := by omega); (try have hp3_1_2 : w1.heap.size < w3.heap.size + 1 + 1 := by omega); (try have hy3_2_0 : w2.heap.size < w3.heap.size := by omega); (try have hn3_2_0 : w2.heap.size ≠ w3.heap.size := by omega); (try have hm3_2_0 : w3.heap.size ≠ w2.heap.size := by omega); (try have hy3_2_1 : w2.heap.size + 1 < w3.heap.size := by omega); (try have hn3_2_1 : w2.heap.size + 1 ≠ w3.heap.size := by omega); (try have hm3_2_1 : w3.heap.size ≠ w2.heap.size + 1 := by omega); (try have hy3_2_2 : w2.heap.size + 1 + 1 < w3.heap.size := by omega); (try have hp3_2_1 : w2.heap.size < w3.heap.size + 1 := by omega); (try have hp3_2_2 : w2.heap.size < w3.heap.size + 1 + 1 := by omega); (try have hg3_g1 : g1 < w3.heap.size := by omega); (try have hi3_g1 : g1 ≠ w3.heap.size := by omega); (try have hj3_g1 : w3.heap.size ≠ g1 := by omega); (try have hk3_g1 : g1 < w3.heap.size + 1 := by omega); (try have hg3_g2 : g2 < w3.heap.size := by omega); (try have hi3_g2 : g2 ≠ w3.heap.size := by omega); (try have hj3_g2 : w3.heap.size ≠ g2 := by omega); (try have hk3_g2 : g2 < w3.heap.size + 1 := by omega)
          go_wp2
          go_loopw [8, 41] (fun v5 v10 wq => ∃ j : Nat, j ≤ c ∧ v5 = .int .i64 ((m * p ^ j : Nat) : Int) ∧ v10 = .int .i64 (j : Int) ∧ ∃ i, wq = w3.drewN i) (fun _ v10 _ => c - (intOf v10).toNat)
          case atStart => exact ⟨0, Nat.zero_le _, by simp, by simp, 0, rfl⟩
          case round =>
            obtain ⟨j, hj, rfl, rfl, i, rfl⟩ := hrel
            by_cases hjt : j < c
            · obtain ⟨e1, e2⟩ := pow_way hp1 hjt ht
              have hcj : (j : Int) < (c : Int) := by omega
              have e3 : ((m * p ^ j : Nat) : Int) * (p : Int) = ((m * p ^ (j + 1) : Nat) : Int) := by rw [← e1, Int.natCast_mul (m * p ^ j) p]
              have e4 : m * p ^ j ≤ 2000 := Nat.le_trans (Nat.mul_le_mul_left m (Nat.pow_le_pow_right (by omega) (by omega))) e2
              have hw : IntKind.i64.wrap (((m * p ^ j : Nat) : Int) * (p : Int)) = ((m * p ^ (j + 1) : Nat) : Int) := by rw [e3]; exact IntWalk.i64_in _ (by omega)
              clear e1 e3
              obtain ⟨z, hz9⟩ : ∃ z, z = m * p ^ (j + 1) := ⟨_, rfl⟩
              rw [← hz9] at e2 hw
              have EZ := Lib.hid hz9
              clear hz9
              generalize m * p ^ j = y at *
              go_wp2
              go_roundw
              case rel => exact ⟨j + 1, by omega, by rw [← EZ.out], by go_num, i, rfl⟩
              case measure => simp [intOf]; omega
            · obtain rfl : j = c := by omega
              generalize m * p ^ j = y at *
              go_wp2
              go_roundw
              case rel => exact ⟨k + 1, y, rfl, by go_num, by omega, HX.out, by (repeat' (first | (with_reducible exact Below.refl _ _) | (with_reducible assumption) | (with_reducible refine Below.drew ?_) | (with_reducible refine belowDrewN ?_ _) | (with_reducible refine Below.alloc ?_ ?_ _) | (with_reducible refine Below.setCell ?_ ?_ _) | (with_reducible refine belowStep (by assumption) ?_ ?_) | (with_reducible exact Below.size (by assumption)) | go_size))⟩
              case measure => simp [intOf]; omega
      · have E := Lib.hid (HB.out.done (show (pps N).length ≤ k by omega))
        have hki : ¬ (k : Int) < (ys.length : Int) := by omega
        go_wp2
        go_ret3
        rw [EO.out, E.out]
        exact ⟨rfl, by (repeat' (first | (with_reducible exact Below.refl _ _) | (with_reducible assumption) | (with_reducible refine Below.drew ?_) | (with_reducible refine belowDrewN ?_ _) | (with_reducible refine Below.alloc ?_ ?_ _) | (with_reducible refine Below.setCell ?_ ?_ _) | (with_reducible refine belowStep (by assumption) ?_ ?_) | (with_reducible exact Below.size (by assumption)) | go_size))⟩
end Go.Proofs.Ytbjblkfibinenad
