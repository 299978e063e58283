
/-
  Contract of IsPrimitive in the program.
-/
import Derived.Test.YtiapljimgnhgoacPrimC
namespace Go.Proofs.Ytiapljimgnhgoac
open Go.RowKit
set_option maxRecDepth 100000 in
set_option maxHeartbeats 4000000 in
theorem isPrimitive_any (n : Int) (w : World) : Calls Try.prog 23 #[.int .i64 n] w (Ret (.tuple #[.bool (pmB n), .bool (numB n)]) w) := by
  cases hn : numB n with
  | false =>
    have E : Hid (pmB n = false) := Lib.hid (by unfold pmB; rw [prcB_no hn]; rfl)
    have HPP : Hid (∀ w, Calls Try.prog 26 #[.int .i64 n] w (RetPP [] false w)) := Lib.hid fun w => by have := primePowers_any n w; rwa [ppO_no hn] at this
    have HI : Hid (∀ w, Calls Try.prog 14 #[.int .i64 n] w (Ret (.tuple #[.bool false, .bool false]) w)) := Lib.hid fun w => by
      have := isPractical_any n w
      rwa [prcB_no hn, hn] at this
    unfold RetPP at HPP
    clear hn
    go_enter Try.func23, Try.ntmps23
    go_wp2_with fail
    refine (HPP.out _).mono ?_; rintro e w2 ⟨va, vb, rfl, ho, hq, hs, hb2⟩
    have hz2 := hb2.size
    clear ho hq hs
    go_wp2_with fail
    refine (HI.out _).mono ?_; rintro e w3 ⟨rfl, hb3⟩; have hz3 := hb3.size; (try simp only [World.size_alloc, World.size_setCell, World.size_drew, World.heap_drewN] at hz3)
    go_wp2
    go_ret2
    rw [E.out]
    exact ⟨rfl, by (repeat' (first | (with_reducible exact Below.refl _ _) | (with_reducible assumption) | (with_reducible refine Below.drew ?_) | (with_reducible refine belowDrewN ?_ _) | (with_reducible refine Below.alloc ?_ ?_ _) | (with_reducible refine Below.setCell ?_ ?_ _) | (with_reducible refine belowStep (by assumption) ?_ ?_) | (with_reducible exact Below.size (by assumption)) | go_size))⟩
  | true =>
    obtain ⟨N, rfl, h1, h2⟩ := numB_nat hn
    have hL := ppO_len (N : Int)
    rw [ppO_yes hn] at hL
    simp only [Option.getD_some] at hL
    have hf1 := fsts_len (pps N)
    obtain ⟨ys, hys⟩ : ∃ ys, ys = fsts (pps N) := ⟨_, rfl⟩
    rw [← hys] at hf1
    obtain ⟨f2, f3⟩ : ys.length ≤ (pps N).length ∧ (pps N).length ≤ ys.length := by omega
    have Hys := Lib.hid hys
    clear hf1 hys
    have HPP : Hid (∀ w, Calls Try.prog 26 #[.int .i64 (N : Int)] w (fun e w' => ∃ va vb, e = .returned (.tuple #[va, vb, .bool true]) ∧ OwnI w' w.heap.size va ys ∧ Below w.heap.size w w')) := Lib.hid fun w => by
      refine (primePowers_any (N : Int) w).mono ?_
      rw [ppO_yes hn]
      rintro e w' ⟨va, vb, rfl, a, b, _, d⟩
      rw [Hys.out]
      exact ⟨va, vb, rfl, a, d⟩
    have HI : Hid (∀ w, Calls Try.prog 14 #[.int .i64 (N : Int)] w (Ret (.tuple #[.bool (prcB (N : Int)), .bool true]) w)) := Lib.hid fun w => by
      have := isPractical_any (N : Int) w
      rwa [hn] at this
    clear hn
    cases hp : prcB (N : Int) with
    | false =>
      have E := Lib.hid (pmB_broken hp)
      rw [hp] at HI
      clear hp
      go_enter Try.func23, Try.ntmps23
      go_wp2_with fail
      refine (HPP.out _).mono ?_; rintro e w2 ⟨va, vb, rfl, ho, hb2⟩
      have hz2 := hb2.size
      clear ho
      go_wp2_with fail
      refine (HI.out _).mono ?_; rintro e w3 ⟨rfl, hb3⟩; have hz3 := hb3.size; (try simp only [World.size_alloc, World.size_setCell, World.size_drew, World.heap_drewN] at hz3)
      go_wp2
      go_ret2
      rw [E.out]
      exact ⟨rfl, by (repeat' (first | (with_reducible exact Below.refl _ _) | (with_reducible assumption) | (with_reducible refine Below.drew ?_) | (with_reducible refine belowDrewN ?_ _) | (with_reducible refine Below.alloc ?_ ?_ _) | (with_reducible refine Below.setCell ?_ ?_ _) | (with_reducible refine belowStep (by assumption) ?_ ?_) | (with_reducible exact Below.size (by assumption)) | go_size))⟩
    | true =>
      have EO := Lib.hid (pmB_whole hp)
      rw [hp] at HI
      clear hp
      go_enter Try.func23, Try.ntmps23
      go_wp2_with fail
      refine (HPP.out _).mono ?_; rintro e w2 ⟨va, vb, rfl, ho, hb2⟩; obtain ⟨A2, c2, rfl, hra⟩ := ho.form
      have RA := Lib.hid hra
      have hz2 := hb2.size
      (try simp only [World.size_alloc, World.size_setCell, World.size_drew, World.heap_drewN] at hz2)
      clear ho hra
      go_wp2_with fail
      refine (HI.out _).mono ?_; rintro e w3 ⟨rfl, hb3⟩; have hz3 := hb3.size; (try simp only [World.size_alloc, World.size_setCell, World.size_drew, World.heap_drewN] at hz3)
      go_wp2
      go_loopw [29] (fun v29 wr => ∃ k : Nat, v29 = .int .i64 (k : Int) ∧ k ≤ ys.length ∧ pmF N (pps N) = pmF N ((pps N).drop k) ∧ Below w3.heap.size w3 wr) (fun v29 _ => ys.length - (intOf v29).toNat)
      case atStart => exact ⟨0, rfl, Nat.zero_le _, rfl, by (repeat' (first | (with_reducible exact Below.refl _ _) | (with_reducible assumption) | (with_reducible refine Below.drew ?_) | (with_reducible refine belowDrewN ?_ _) | (with_reducible refine Below.alloc ?_ ?_ _) | (with_reducible refine Below.setCell ?_ ?_ _) | (with_reducible refine belowStep (by assumption) ?_ ?_) | (with_reducible exact Below.size (by assumption)) | go_size))⟩
      case round =>
        obtain ⟨k, rfl, hk, he, hbr⟩ := hrel
        have HE := Lib.hid he
        have hzr := hbr.size
        clear he
        by_cases hlt : k < ys.length
        · obtain ⟨⟨p, c⟩, hx⟩ : ∃ x, (pps N)[k]? = some x := ⟨_, List.getElem?_eq_getElem (show k < (pps N).length by omega)⟩
          obtain ⟨hp1, hp2, hq1, hq2, hc1, hc2⟩ := quo_in h1 h2 hx
          obtain ⟨b, o, x, rfl, hbb, hy, hcell⟩ := ((RA.out.below hb3).below hbr).at_ hlt
          rw [Hys.out, fsts_at hx] at hy
          injection hy with hy
          subst hy
          have hd := dropAt hx
          have hki : (k : Int) < (ys.length : Int) := by omega
          have hne : (p : Int) ≠ 0 := by omega
          obtain ⟨_, _, e3, e4⟩ := @remv N p
          have HQ : Hid (∀ w, Calls Try.prog 14 #[.int .i64 ((N / p : Nat) : Int)] w (Ret (.tuple #[.bool (brkO (N / p)).isNone, .bool true]) w)) := Lib.hid fun w => by
            have := isPractical_any ((N / p : Nat) : Int) w
            rwa [prcB_yes hq1 hq2, numB_of hq1 hq2] at this
          by_cases hb : brkO (N / p) = none
          · rw [(isNone_yes hb).1] at HQ
            by_cases hN : N = p
            · have E : Hid (pmF N (pps N) = pmF N ((pps N).drop (k + 1))) := Lib.hid (by rw [HE.out, hd, pmF_no (fun h => h.2 hN)])
              have hN' : ((N : Int) != (p : Int)) = false := by simp; omega
              clear hx hd hb hN
              generalize N / p = q at *
              go_wp2_with fail
              refine (HQ.out _).mono ?_; rintro e w4 ⟨rfl, hb4⟩; have hz4 := hb4.size; (try simp only [World.size_alloc, World.size_setCell, World.size_drew, World.heap_drewN] at hz4)
              go_wp2
              go_roundw
              case rel => exact ⟨k + 1, by go_num, by omega, E.out, by (repeat' (first | (with_reducible exact Below.refl _ _) | (with_reducible assumption) | (with_reducible refine Below.drew ?_) | (with_reducible refine belowDrewN ?_ _) | (with_reducible refine Below.alloc ?_ ?_ _) | (with_reducible refine Below.setCell ?_ ?_ _) | (with_reducible refine belowStep (by assumption) ?_ ?_) | (with_reducible exact Below.size (by assumption)) | go_size))⟩
              case measure => simp [intOf]; omega
            · have E : Hid (pmF N (pps N) = false) := Lib.hid (by rw [HE.out, hd, pmF_yes hb hN])
              have hN' : ((N : Int) != (p : Int)) = true := by simp; omega
              have hN2 : ¬ (N : Int) = (p : Int) := by omega
              clear hx hd hb
              generalize N / p = q at *
              go_wp2_with fail
              refine (HQ.out _).mono ?_; rintro e w4 ⟨rfl, hb4⟩; have hz4 := hb4.size; (try simp only [World.size_alloc, World.size_setCell, World.size_drew, World.heap_drewN] at hz4)
              go_wp2
              go_ret2
              rw [EO.out, E.out]
              exact ⟨rfl, by (repeat' (first | (with_reducible exact Below.refl _ _) | (with_reducible assumption) | (with_reducible refine Below.drew ?_) | (with_reducible refine belowDrewN ?_ _) | (with_reducible refine Below.alloc ?_ ?_ _) | (with_reducible refine Below.setCell ?_ ?_ _) | (with_reducible refine belowStep (by assumption) ?_ ?_) | (with_reducible exact Below.size (by assumption)) | go_size))⟩
          · rw [(isNone_no hb).1] at HQ
            have E : Hid (pmF N (pps N) = pmF N ((pps N).drop (k + 1))) := Lib.hid (by rw [HE.out, hd, pmF_no (fun h => hb h.1)])
            clear hx hd hb
            generalize N / p = q at *
            go_wp2_with fail
            refine (HQ.out _).mono ?_; rintro e w4 ⟨rfl, hb4⟩; have hz4 := hb4.size; (try simp only [World.size_alloc, World.size_setCell, World.size_drew, World.heap_drewN] at hz4)
            go_wp2
            go_roundw
            case rel => exact ⟨k + 1, by go_num, by omega, E.out, by (repeat' (first | (with_reducible exact Below.refl _ _) | (with_reducible assumption) | (with_reducible refine Below.drew ?_) | (with_reducible refine belowDrewN ?_ _) | (with_reducible refine Below.alloc ?_ ?_ _) | (with_reducible refine Below.setCell ?_ ?_ _) | (with_reducible refine belowStep (by assumption) ?_ ?_) | (with_reducible exact Below.size (by assumption)) | go_size))⟩
            case measure => simp [intOf]; omega
        · have E : Hid (pmF N (pps N) = true) := Lib.hid (by rw [HE.out, List.drop_of_length_le (by omega)]; rfl)
          have hki : ¬ (k : Int) < (ys.length : Int) := by omega
          go_wp2
          go_ret2
          rw [EO.out, E.out]
          exact ⟨rfl, by (repeat' (first | (with_reducible exact Below.refl _ _) | (with_reducible assumption) | (with_reducible refine Below.drew ?_) | (with_reducible refine belowDrewN ?_ _) | (with_reducible refine Below.alloc ?_ ?_ _) | (with_reducible refine Below.setCell ?_ ?_ _) | (with_reducible refine belowStep (by assumption) ?_ ?_) | (with_reducible exact Below.size (by assumption)) | go_size))⟩
end Go.Proofs.Ytiapljimgnhgoac
