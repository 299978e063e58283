
/-
  Contract of IsPrimitive in the model.
-/
import Derived.Test.YtiapljimgnhgoacPrimI
namespace Go.Proofs.Ytiapljimgnhgoac
open Go.RowKit
set_option maxRecDepth 100000 in
set_option maxHeartbeats 4000000 in
theorem spec_isPrimitive_any (n : Int) (w : World) : Calls Try.prog 24 #[.int .i64 n] w (Ret (.tuple #[.bool (pmB n), .bool (numB n)]) w) := by
  cases hn : numB n with
  | false =>
    have E : Hid (pmB n = false) := Lib.hid (by unfold pmB; rw [prcB_no hn]; rfl)
    have HN : Hid (∀ w, Calls Try.prog 39 #[.int .i64 n] w (RetQ (.bool false) w)) := Lib.hid fun w => by have := prNumber_any n w; rwa [hn] at this
    clear hn
    go_enter Try.func24, Try.ntmps24
    go_wp2_with fail
    refine (HN.out _).mono ?_; rintro e w1 ⟨rfl, k1, rfl⟩
    go_wp2
    go_ret2
    rw [E.out]
    exact ⟨rfl, by (repeat' (first | (with_reducible exact Below.refl _ _) | (with_reducible assumption) | (with_reducible refine Below.drew ?_) | (with_reducible refine belowDrewN ?_ _) | (with_reducible refine Below.alloc ?_ ?_ _) | (with_reducible refine Below.setCell ?_ ?_ _) | (with_reducible refine belowStep (by assumption) ?_ ?_) | (with_reducible exact Below.size (by assumption)) | go_size))⟩
  | true =>
    obtain ⟨N, rfl, h1, h2⟩ := numB_nat hn
    have HN : Hid (∀ w, Calls Try.prog 39 #[.int .i64 (N : Int)] w (RetQ (.bool true) w)) := Lib.hid fun w => by have := prNumber_any (N : Int) w; rwa [hn] at this
    have hL := ppO_len (N : Int)
    rw [ppO_yes hn] at hL
    simp only [Option.getD_some] at hL
    have hf1 := fsts_len (pps N)
    have hs1 := snds_len (pps N)
    obtain ⟨ys, hys⟩ : ∃ ys, ys = fsts (pps N) := ⟨_, rfl⟩
    obtain ⟨zs, hzs⟩ : ∃ zs, zs = snds (pps N) := ⟨_, rfl⟩
    rw [← hys] at hf1
    rw [← hzs] at hs1
    obtain ⟨f2, f3⟩ : ys.length ≤ (pps N).length ∧ (pps N).length ≤ ys.length := by omega
    obtain ⟨s2, s3⟩ : zs.length ≤ (pps N).length ∧ (pps N).length ≤ zs.length := by omega
    have Hys := Lib.hid hys
    have Hzs := Lib.hid hzs
    clear hf1 hs1 hys hzs
    have HPP : Hid (∀ w, Calls Try.prog 61 #[.int .i64 (N : Int)] w (fun e w' => ∃ va vb, e = .returned (.tuple #[va, vb]) ∧ OwnI w' w.heap.size va ys ∧ OwnI w' w.heap.size vb zs ∧ Below w.heap.size w w')) := Lib.hid fun w => by
      refine (prPowers_any N w h1 h2).mono ?_
      rintro e w' ⟨va, vb, rfl, a, b, _, d⟩
      rw [Hys.out, Hzs.out]
      exact ⟨va, vb, rfl, a, b, d⟩
    have hpb : prcB (N : Int) = !(brO (N : Int)).isSome := by unfold prcB; rw [hn]; cases brO (N : Int) <;> rfl
    have HI : Hid (∀ w, Calls Try.prog 60 #[.int .i64 (N : Int)] w (Ret (.bool (brO (N : Int)).isSome) w)) := Lib.hid fun w => prBroken_any (N : Int) w
    clear hn
    cases hp : (brO (N : Int)).isSome with
    | true =>
      rw [hp] at HI hpb
      have E := Lib.hid (pmB_broken hpb)
      clear hp hpb
      go_enter Try.func24, Try.ntmps24
      go_wp2_with fail
      refine (HN.out _).mono ?_; rintro e w1 ⟨rfl, k1, rfl⟩
      go_wp2_with fail
      refine (HPP.out _).mono ?_; rintro e w2 ⟨va, vb, rfl, ho, hq, hb2⟩
      have hz2 := hb2.size
      (try simp only [World.size_alloc, World.size_setCell, World.size_drew, World.heap_drewN] at hz2)
      clear ho hq
      go_wp2_with fail
      refine (HI.out _).mono ?_; rintro e w3 ⟨rfl, hb3⟩; have hz3 := hb3.size; (try simp only [World.size_alloc, World.size_setCell, World.size_drew, World.heap_drewN] at hz3)
      go_wp2
      go_ret2
      rw [E.out]
      exact ⟨rfl, by (repeat' (first | (with_reducible exact Below.refl _ _) | (with_reducible assumption) | (with_reducible refine Below.drew ?_) | (with_reducible refine belowDrewN ?_ _) | (with_reducible refine Below.alloc ?_ ?_ _) | (with_reducible refine Below.setCell ?_ ?_ _) | (with_reducible refine belowStep (by assumption) ?_ ?_) | (with_reducible exact Below.size (by assumption)) | go_size))⟩
    | false =>
      rw [hp] at HI hpb
      have EO := Lib.hid (pmB_whole hpb)
      clear hp hpb
      go_enter Try.func24, Try.ntmps24
      go_wp2_with fail
      refine (HN.out _).mono ?_; rintro e w1 ⟨rfl, k1, rfl⟩
      go_wp2_with fail
      refine (HPP.out _).mono ?_; rintro e w2 ⟨va, vb, rfl, ho, hq, hb2⟩; obtain ⟨A2, c2, rfl, hra⟩ := ho.form; obtain ⟨B2, d2, rfl, hrb⟩ := hq.form
      have RA := Lib.hid hra
      have RB := Lib.hid hrb
      have hz2 := hb2.size
      (try simp only [World.size_alloc, World.size_setCell, World.size_drew, World.heap_drewN] at hz2)
      clear ho hq hra hrb
      go_wp2_with fail
      refine (HI.out _).mono ?_; rintro e w3 ⟨rfl, hb3⟩; have hz3 := hb3.size; (try simp only [World.size_alloc, World.size_setCell, World.size_drew, World.heap_drewN] at hz3)
      go_wp2
      go_loopw [20] (fun v29 wr => ∃ k : Nat, v29 = .int .i64 (k : Int) ∧ k ≤ ys.length ∧ pmF N (pps N) = pmF N ((pps N).drop k) ∧ Below w3.heap.size w3 wr) (fun v29 _ => ys.length - (intOf v29).toNat)
      case atStart => exact ⟨0, rfl, Nat.zero_le _, rfl, by (repeat' (first | (with_reducible exact Below.refl _ _) | (with_reducible assumption) | (with_reducible refine Below.drew ?_) | (with_reducible refine belowDrewN ?_ _) | (with_reducible refine Below.alloc ?_ ?_ _) | (with_reducible refine Below.setCell ?_ ?_ _) | (with_reducible refine belowStep (by assumption) ?_ ?_) | (with_reducible exact Below.size (by assumption)) | go_size))⟩
      case round =>
        obtain ⟨k, rfl, hk, he, hbr⟩ := hrel
        have HE := Lib.hid he
        have hzr := hbr.size
        clear he
        by_cases hlt : k < ys.length
        · obtain ⟨⟨p, c⟩, hx⟩ : ∃ x, (pps N)[k]? = some x := ⟨_, List.getElem?_eq_getElem (show k < (pps N).length by omega)⟩
          obtain ⟨hp1, hp2, hq1, hq2, hc1, hc2⟩ := quo_in h1 h2 hx
          obtain ⟨b, o, x, rfl, hbb, hy, hcell⟩ := ((RA.out.below hb3).below hbr).at_ hlt
          obtain ⟨b', o', x', rfl, hbb', hy', hcell'⟩ := ((RB.out.below hb3).below hbr).at_ (show k < zs.length by omega)
          rw [Hys.out, fsts_at hx] at hy
          rw [Hzs.out, snds_at hx] at hy'
          injection hy with hy
          injection hy' with hy'
          subst hy hy'
          have hd := dropAt hx
          have hon := only_one (pps_pows h1 h2) (List.mem_of_getElem? hx)
          have hki : (k : Int) < (ys.length : Int) := by omega
          have hkz : (k : Int) < (zs.length : Int) := by omega
          have hne : (p : Int) ≠ 0 := by omega
          obtain ⟨_, _, e3, e4⟩ := @remv N p
          have HQ : Hid (∀ w, Calls Try.prog 60 #[.int .i64 ((N / p : Nat) : Int)] w (Ret (.bool (brkO (N / p)).isSome) w)) := Lib.hid fun w => by
            have := prBroken_any ((N / p : Nat) : Int) w
            rwa [brO_yes (numB_of hq1 hq2)] at this
          by_cases hN : N = p
          · have E : Hid (pmF N (pps N) = pmF N ((pps N).drop (k + 1))) := Lib.hid (by rw [HE.out, hd, pmF_no (fun h => h.2 hN)])
            have h9 := hon.1 hN
            have hc' : ¬ (1 : Int) < (c : Int) := by omega
            have hl' : ¬ (1 : Int) < (ys.length : Int) := by omega
            clear hx hd hon h9
            go_wp2
            go_roundw
            case rel => exact ⟨k + 1, by go_num, by omega, E.out, by (repeat' (first | (with_reducible exact Below.refl _ _) | (with_reducible assumption) | (with_reducible refine Below.drew ?_) | (with_reducible refine belowDrewN ?_ _) | (with_reducible refine Below.alloc ?_ ?_ _) | (with_reducible refine Below.setCell ?_ ?_ _) | (with_reducible refine belowStep (by assumption) ?_ ?_) | (with_reducible exact Below.size (by assumption)) | go_size))⟩
            case measure => simp [intOf]; omega
          · have h9 : 1 < c ∨ 1 < (pps N).length := by
              by_cases h8 : 1 < c ∨ 1 < (pps N).length
              · exact h8
              · exact absurd (hon.2 h8) hN
            by_cases hb : brkO (N / p) = none
            · rw [(isNone_yes hb).2] at HQ
              have E : Hid (pmF N (pps N) = false) := Lib.hid (by rw [HE.out, hd, pmF_yes hb hN])
              clear hx hd hb hon
              generalize N / p = q at *
              by_cases hc : 1 < c
              · have hc' : (1 : Int) < (c : Int) := by omega
                go_wp2_with fail
                refine (HQ.out _).mono ?_; rintro e w4 ⟨rfl, hb4⟩; have hz4 := hb4.size; (try simp only [World.size_alloc, World.size_setCell, World.size_drew, World.heap_drewN] at hz4)
                go_wp2
                go_ret2
                rw [EO.out, E.out]
                exact ⟨rfl, by (repeat' (first | (with_reducible exact Below.refl _ _) | (with_reducible assumption) | (with_reducible refine Below.drew ?_) | (with_reducible refine belowDrewN ?_ _) | (with_reducible refine Below.alloc ?_ ?_ _) | (with_reducible refine Below.setCell ?_ ?_ _) | (with_reducible refine belowStep (by assumption) ?_ ?_) | (with_reducible exact Below.size (by assumption)) | go_size))⟩
              · have hc' : ¬ (1 : Int) < (c : Int) := by omega
                have hl' : (1 : Int) < (ys.length : Int) := by omega
                go_wp2_with fail
                refine (HQ.out _).mono ?_; rintro e w4 ⟨rfl, hb4⟩; have hz4 := hb4.size; (try simp only [World.size_alloc, World.size_setCell, World.size_drew, World.heap_drewN] at hz4)
                go_wp2
                go_ret2
                rw [EO.out, E.out]
                exact ⟨rfl, by (repeat' (first | (with_reducible exact Below.refl _ _) | (with_reducible assumption) | (with_reducible refine Below.drew ?_) | (with_reducible refine belowDrewN ?_ _) | (with_reducible refine Below.alloc ?_ ?_ _) | (with_reducible refine Below.setCell ?_ ?_ _) | (with_reducible refine belowStep (by assumption) ?_ ?_) | (with_reducible exact Below.size (by assumption)) | go_size))⟩
            · rw [(isNone_no hb).2] at HQ
              have E : Hid (pmF N (pps N) = pmF N ((pps N).drop (k + 1))) := Lib.hid (by rw [HE.out, hd, pmF_no (fun h => hb h.1)])
              clear hx hd hb hon
              generalize N / p = q at *
              by_cases hc : 1 < c
              · have hc' : (1 : Int) < (c : Int) := by omega
                go_wp2_with fail
                refine (HQ.out _).mono ?_; rintro e w4 ⟨rfl, hb4⟩; have hz4 := hb4.size; (try simp only [World.size_alloc, World.size_setCell, World.size_drew, World.heap_drewN] at hz4)
                go_wp2
                go_roundw
                case rel => exact ⟨k + 1, by go_num, by omega, E.out, by (repeat' (first | (with_reducible exact Below.refl _ _) | (with_reducible assumption) | (with_reducible refine Below.drew ?_) | (with_reducible refine belowDrewN ?_ _) | (with_reducible refine Below.alloc ?_ ?_ _) | (with_reducible refine Below.setCell ?_ ?_ _) | (with_reducible refine belowStep (by assumption) ?_ ?_) | (with_reducible exact Below.size (by assumption)) | go_size))⟩
                case measure => simp [intOf]; omega
              · have hc' : ¬ (1 : Int) < (c : Int) := by omega
                have hl' : (1 : Int) < (ys.length : Int) := by omega
                go_wp2_with fail
                refine (HQ.out _).mono ?_; rintro e w4 ⟨rfl, hb4⟩; have hz4 := hb4.size; (try simp only [World.size_alloc, World.size_setCell, World.size_drew, World.heap_drewN] at hz4)
                go_wp2
                go_roundw
                case rel => exact ⟨k + 1, by go_num, by omega, E.out, by (repeat' (first | (with_reducible exact Below.refl _ _) | (with_reducible assumption) | (with_reducible refine Below.drew ?_) | (with_reducible refine belowDrewN ?_ _) | (with_reducible refine Below.alloc ?_ ?_ _) | (with_reducible refine Below.setCell ?_ ?_ _) | (with_reducible refine belowStep (by assumption) ?_ ?_) | (with_reducible exact Below.size (by assumption)) | go_size))⟩
                case measure => simp [intOf]; omega
        · have E : Hid (pmF N (pps N) = true) := Lib.hid (by rw [HE.out, List.drop_of_length_le (by omega)]; rfl)
          have hki : ¬ (k : Int) < (ys.length : Int) := by omega
          go_wp2
          go_ret2
          rw [EO.out, E.out]
          exact ⟨rfl, by (repeat' (first | (with_reducible exact Below.refl _ _) | (with_reducible assumption) | (with_reducible refine Below.drew ?_) | (with_reducible refine belowDrewN ?_ _) | (with_reducible refine Below.alloc ?_ ?_ _) | (with_reducible refine Below.setCell ?_ ?_ _) | (with_reducible refine belowStep (by assumption) ?_ ?_) | (with_reducible exact Below.size (by assumption)) | go_size))⟩
end Go.Proofs.Ytiapljimgnhgoac
