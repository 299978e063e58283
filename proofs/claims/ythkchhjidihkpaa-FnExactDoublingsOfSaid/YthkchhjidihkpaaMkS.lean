
/-
  Contracts of the functions on marks in the model.
-/
import Derived.Test.YthkchhjidihkpaaMkC
namespace Go.Proofs.Ythkchhjidihkpaa
open Go.RowKit
theorem OwnI.oneM (w : World) (base : Nat) (x : Int) (hb : base ≤ w.heap.size) : OwnI (w.alloc (.cells #[.int .i64 x] 3)) base (.slice (some ⟨w.heap.size, 0, none⟩) 1 1) [x] :=
  World.ownsRow_lit w #[.int .i64 x] 1 hb (by unfold maxLen; omega) rfl
theorem bt_odd {k i n : Nat} (h : n % 2 = 1) : bt (k + 1) i n = i :: bt k (i + 1) (n / 2) := by rw [bt, if_pos h]; rfl
theorem bt_even {k i n : Nat} (h : ¬ n % 2 = 1) : bt (k + 1) i n = bt k (i + 1) (n / 2) := by rw [bt, if_neg h]; rfl
set_option maxRecDepth 100000 in
set_option maxHeartbeats 4000000 in
theorem scMarks_any (N : Nat) (w : World) (hN : N ≤ 1000000) : Calls Try.prog 45 #[.int .i64 (N : Int)] w (RetL (ints (mk N)) w) := by
  have HM := Lib.hid (bt_mk (n := N) (by omega))
  go_enter Try.func45, Try.ntmps45
  go_wp2
  go_loopw [0, 3, 4] (fun v0 v3 v4 wr => ∃ (k n : Nat) (fs : List Nat), k ≤ 20 ∧ v4 = .int .i64 (k : Int) ∧ v0 = .int .i64 (n : Int) ∧ n ≤ N ∧ Hid (n < 2 ^ (20 - k)) ∧ Hid (mk N = fs ++ bt (20 - k) k n) ∧ fs.length ≤ k ∧ OwnI wr w.heap.size v3 (ints fs) ∧ Below w.heap.size w wr) (fun _ _ v4 _ => 20 - (intOf v4).toNat)
  case atStart => exact ⟨0, N, [], by omega, rfl, rfl, Nat.le_refl _, Lib.hid (by omega), Lib.hid HM.out.symm, Nat.le_refl _, OwnI.empty _ _, by (repeat' (first | (with_reducible exact Below.refl _ _) | (with_reducible assumption) | (with_reducible refine Below.drew ?_) | (with_reducible refine belowDrewN ?_ _) | (with_reducible refine Below.alloc ?_ ?_ _) | (with_reducible refine Below.setCell ?_ ?_ _) | (with_reducible refine belowStep (by assumption) ?_ ?_) | (with_reducible exact Below.size (by assumption)) | go_size))⟩
  case round =>
    obtain ⟨k, n, fs, hk, rfl, rfl, hn, HP, HF, hfl, ho, hbr⟩ := hrel
    have hzr := hbr.size
    have Ho := Lib.hid ho
    have hfi : (ints fs).length ≤ 20 := by rw [ints_len]; omega
    clear ho HM
    by_cases h0 : n = 0
    · subst h0
      have EF : Hid (mk N = fs) := Lib.hid (by rw [HF.out, bt_zero, List.append_nil])
      go_wp2
      go_ret
      rw [EF.out]
      exact ⟨_, rfl, Ho.out, hbr⟩
    · have hlt : k < 20 := by
        rcases Nat.lt_or_ge k 20 with h | h
        · exact h
        · exfalso
          have := HP.out
          rw [show 20 - k = 0 from by omega] at this
          omega
      have hni : (0 : Int) < (n : Int) := by omega
      obtain ⟨m, hm⟩ : ∃ m : Nat, m + k = 19 := ⟨19 - k, by omega⟩
      have hkm : 20 - k = m + 1 := by omega
      have hkm2 : 20 - (k + 1) = m := by omega
      rw [hkm] at HF HP
      have HP2 : Hid (n / 2 < 2 ^ (20 - (k + 1))) := Lib.hid (by
        have := HP.out
        rw [hkm2]
        rw [Nat.pow_succ] at this
        omega)
      have ht : (n : Int).tdiv 2 = ((n / 2 : Nat) : Int) := by rw [Int.tdiv_eq_ediv_of_nonneg (by omega)]; omega
      have ht2 : (n : Int).tmod 2 = ((n % 2 : Nat) : Int) := by rw [Int.tmod_eq_emod_of_nonneg (by omega)]; omega
      have ht3 : (n : Int) / 2 = ((n / 2 : Nat) : Int) := by omega
      have ht4 : (n : Int) % 2 = ((n % 2 : Nat) : Int) := by omega
      have hq2 : n / 2 ≤ n := by omega
      by_cases ho2 : n % 2 = 1
      · have HF2 : Hid (mk N = (fs ++ [k]) ++ bt (20 - (k + 1)) (k + 1) (n / 2)) := Lib.hid (by rw [HF.out, bt_odd ho2, hkm2]; simp)
        rw [ho2] at ht2 ht4
        clear HF HP hkm hkm2
        generalize n / 2 = q at *
        go_wp2_with (at_builtin; refine wpList_app _ (o := ⟨some 15, _, _, _, _, _⟩) (ys := [(k : Int)]) rfl _ _ rfl rfl (OwnI.below Ho.out ((Below.refl _ _).alloc (Nat.le_refl _) _)) (1) (1) (by first | (simp; done) | (simp; omega)) rfl (Reads.one _ (k : Int)) (by (try simp only [List.length_nil, List.length_cons]); omega) (by first | exact Nat.le_refl _ | ((try simp only [World.size_alloc]); omega)) ?_; intro v6 w6 ho6 hb6 hg6 ht6; clear hg6 ht6; have hz6 := hb6.size; (try simp only [World.size_alloc] at hz6))
        go_roundw
        case rel => exact ⟨k + 1, q, fs ++ [k], by omega, by go_num, rfl, by omega, HP2, HF2, by simp; omega, by rw [ints_snoc]; exact ho6, by (repeat' (first | (with_reducible exact Below.refl _ _) | (with_reducible assumption) | (with_reducible refine Below.drew ?_) | (with_reducible refine belowDrewN ?_ _) | (with_reducible refine Below.alloc ?_ ?_ _) | (with_reducible refine Below.setCell ?_ ?_ _) | (with_reducible refine belowStep (by assumption) ?_ ?_) | (with_reducible exact Below.size (by assumption)) | go_size))⟩
        case measure => simp [intOf]; omega
      · have HF2 : Hid (mk N = fs ++ bt (20 - (k + 1)) (k + 1) (n / 2)) := Lib.hid (by rw [HF.out, bt_even ho2, hkm2])
        have ho3 : n % 2 = 0 := by omega
        rw [ho3] at ht2 ht4
        clear HF HP hkm hkm2 ho2
        generalize n / 2 = q at *
        go_wp2
        go_roundw
        case rel => exact ⟨k + 1, q, fs, by omega, by go_num, rfl, by omega, HP2, HF2, by omega, Ho.out, hbr⟩
        case measure => simp [intOf]; omega
set_option maxRecDepth 100000 in
theorem spec_marksOf_any (n : Int) (w : World) : Calls Try.prog 13 #[.int .i64 n] w (RetLB (moL n) (facB n) w) := by
  have HA := Lib.hid fun (w : World) => scFactor_any n w
  cases hf : facB n with
  | false =>
    rw [moL_no hf]
    rw [hf] at HA
    clear hf
    go_enter Try.func13, Try.ntmps13
    go_wp2_with fail
    refine (HA.out _).mono ?_; rintro e w1 ⟨rfl, k1, rfl⟩
    go_wp2
    go_ret2
    exact ⟨_, rfl, OwnI.empty _ _, by (repeat' (first | (with_reducible exact Below.refl _ _) | (with_reducible assumption) | (with_reducible refine Below.drew ?_) | (with_reducible refine belowDrewN ?_ _) | (with_reducible refine Below.alloc ?_ ?_ _) | (with_reducible refine Below.setCell ?_ ?_ _) | (with_reducible refine belowStep (by assumption) ?_ ?_) | (with_reducible exact Below.size (by assumption)) | go_size))⟩
  | true =>
    obtain ⟨N, rfl, hN⟩ := facB_nat hf
    rw [moL_yes hf]
    rw [hf] at HA
    clear hf
    have HS := Lib.hid fun (w : World) => scMarks_any N w hN
    generalize ints (mk N) = ys at *
    go_enter Try.func13, Try.ntmps13
    go_wp2_with fail
    refine (HA.out _).mono ?_; rintro e w1 ⟨rfl, k1, rfl⟩
    go_wp2_with fail
    refine (HS.out _).mono ?_; rintro e w2 ⟨v2, rfl, ho2, hb2⟩; have hz2 := hb2.size; (try simp only [World.heap_drewN] at hz2)
    go_wp2
    go_ret2
    exact ⟨_, rfl, ho2.mono (by (first | (go_size; done) | ((try simp only [World.size_alloc, World.size_setCell, World.size_drew, World.heap_drewN]); omega))), by (repeat' (first | (with_reducible exact Below.refl _ _) | (with_reducible assumption) | (with_reducible refine Below.drew ?_) | (with_reducible refine belowDrewN ?_ _) | (with_reducible refine Below.alloc ?_ ?_ _) | (with_reducible refine Below.setCell ?_ ?_ _) | (with_reducible refine belowStep (by assumption) ?_ ?_) | (with_reducible exact Below.size (by assumption)) | go_size))⟩
set_option maxRecDepth 100000 in
set_option maxHeartbeats 4000000 in
theorem spec_divideMarks_any (a b : Int) (w : World) : Calls Try.prog 25 #[.int .i64 a, .int .i64 b] w (RetLIB (dqL a b) (dqZ a b) (quoB a b) w) := by
  have HA := Lib.hid fun (w : World) => scFactor_any a w
  cases hq : quoB a b with
  | false =>
    obtain ⟨e1, e2⟩ := dq_no hq
    rw [e1, e2]
    cases ha : facB a with
    | false =>
      rw [ha] at HA
      clear hq ha e1 e2
      go_enter Try.func25, Try.ntmps25
      go_wp2_with fail
      refine (HA.out _).mono ?_; rintro e w1 ⟨rfl, k1, rfl⟩
      go_wp2
      go_ret3
      exact ⟨_, rfl, OwnI.empty _ _, by (repeat' (first | (with_reducible exact Below.refl _ _) | (with_reducible assumption) | (with_reducible refine Below.drew ?_) | (with_reducible refine belowDrewN ?_ _) | (with_reducible refine Below.alloc ?_ ?_ _) | (with_reducible refine Below.setCell ?_ ?_ _) | (with_reducible refine belowStep (by assumption) ?_ ?_) | (with_reducible exact Below.size (by assumption)) | go_size))⟩
    | true =>
      have hb : ¬ (1 ≤ b ∧ b ≤ 1000000) := fun h => by
        have h1 := (facB_iff b).2 ⟨by omega, h.2⟩
        unfold quoB at hq
        rw [ha, h1] at hq
        simp at hq
        omega
      rw [ha] at HA
      clear hq ha e1 e2
      go_enter Try.func25, Try.ntmps25
      go_wp2_with fail
      refine (HA.out _).mono ?_; rintro e w1 ⟨rfl, k1, rfl⟩
      go_wp2_with fail
      refine (l1In_no _ _ _ _ hb).mono ?_; rintro e w2 ⟨rfl, k2, rfl⟩
      go_wp2
      go_ret3
      exact ⟨_, rfl, OwnI.empty _ _, by (repeat' (first | (with_reducible exact Below.refl _ _) | (with_reducible assumption) | (with_reducible refine Below.drew ?_) | (with_reducible refine belowDrewN ?_ _) | (with_reducible refine Below.alloc ?_ ?_ _) | (with_reducible refine Below.setCell ?_ ?_ _) | (with_reducible refine belowStep (by assumption) ?_ ?_) | (with_reducible exact Below.size (by assumption)) | go_size))⟩
  | true =>
    obtain ⟨A, B, rfl, rfl, a1, b1, b2⟩ := quoB_nat hq
    obtain ⟨e1, e2⟩ := dq_yes hq
    rw [e1, e2]
    have ha : facB (A : Int) = true := (facB_iff _).2 ⟨by omega, by omega⟩
    rw [ha] at HA
    have hb1 : (1 : Int) ≤ (B : Int) := by omega
    have hb2 : (B : Int) ≤ 1000000 := by omega
    clear hq e1 e2 ha
    go_enter Try.func25, Try.ntmps25
    go_wp2_with fail
    refine (HA.out _).mono ?_; rintro e w1 ⟨rfl, k1, rfl⟩
    go_wp2_with fail
    refine (l1In_yes _ _ _ _ hb1 hb2).mono ?_; rintro e w2 ⟨rfl, k2, rfl⟩
    go_wp2
    go_loopw [0, 7, 8] (fun v0 v7 v8 wr => ∃ (k l : Nat) (fs : List Nat), k ≤ 20 ∧ v8 = .int .i64 ((k : Int) - 1) ∧ v0 = .int .i64 (l : Int) ∧ l ≤ A ∧ Hid (dvF B 20 A = fs ++ dvF B k l) ∧ Hid (dvR B 20 A = dvR B k l) ∧ fs.length + k ≤ 20 ∧ OwnI wr w.heap.size v7 (ints fs.reverse) ∧ Below w.heap.size w wr) (fun _ _ v8 _ => ((intOf v8) + 1).toNat)
    case atStart => exact ⟨20, A, [], by omega, rfl, rfl, Nat.le_refl _, Lib.hid rfl, Lib.hid rfl, by simp, OwnI.empty _ _, by (repeat' (first | (with_reducible exact Below.refl _ _) | (with_reducible assumption) | (with_reducible refine Below.drew ?_) | (with_reducible refine belowDrewN ?_ _) | (with_reducible refine Below.alloc ?_ ?_ _) | (with_reducible refine Below.setCell ?_ ?_ _) | (with_reducible refine belowStep (by assumption) ?_ ?_) | (with_reducible exact Below.size (by assumption)) | go_size))⟩
    case round =>
      obtain ⟨k, l, fs, hk, rfl, rfl, hl, HF, HR, hfl, ho, hbr⟩ := hrel
      have hzr := hbr.size
      have Ho := Lib.hid ho
      have hfi : (ints fs.reverse).length ≤ 20 := by rw [ints_len, List.length_reverse]; omega
      clear ho
      by_cases h0 : k = 0
      · subst h0
        have EF : Hid (dvF B 20 A = fs) := Lib.hid (by rw [HF.out]; simp [dvF])
        have ER : Hid (dvR B 20 A = l) := Lib.hid (by rw [HR.out]; simp [dvR])
        clear HF HR
        go_wp2
        go_ret3
        rw [EF.out, ER.out]
        exact ⟨_, rfl, Ho.out, by (repeat' (first | (with_reducible exact Below.refl _ _) | (with_reducible assumption) | (with_reducible refine Below.drew ?_) | (with_reducible refine belowDrewN ?_ _) | (with_reducible refine Below.alloc ?_ ?_ _) | (with_reducible refine Below.setCell ?_ ?_ _) | (with_reducible refine belowStep (by assumption) ?_ ?_) | (with_reducible exact Below.size (by assumption)) | go_size))⟩
      · obtain ⟨m, rfl⟩ : ∃ m, k = m + 1 := ⟨k - 1, by omega⟩
        have hmi : ((m + 1 : Nat) : Int) - 1 = (m : Int) := by omega
        rw [hmi]
        have hm0 : 0 ≤ (m : Int) := by omega
        have hS := shl_nat (show m < 20 by omega) b2
        have p1 : 0 ≤ (B : Int) * 2 ^ m ∧ (B : Int) * 2 ^ m ≤ 524288000000 := by
          rw [show (B : Int) * 2 ^ m = ((B * 2 ^ m : Nat) : Int) from by simp]
          omega
        have hpe : (B : Int) * 2 ^ m = ((B * 2 ^ m : Nat) : Int) := by simp
        by_cases hc : B * 2 ^ m ≤ l
        · obtain ⟨y1, y2⟩ := dvF_yes hc
          have HF2 : Hid (dvF B 20 A = (fs ++ [m]) ++ dvF B m (l - B * 2 ^ m)) := Lib.hid (by rw [HF.out, y1]; simp)
          have HR2 : Hid (dvR B 20 A = dvR B m (l - B * 2 ^ m)) := Lib.hid (by rw [HR.out, y2])
          clear y1 y2 HF HR
          obtain ⟨d, hd⟩ : ∃ d, d = B * 2 ^ m := ⟨_, rfl⟩
          rw [← hd] at hS hpe hc HF2 HR2
          have hci : (B : Int) * 2 ^ m ≤ (l : Int) := by omega
          obtain ⟨A7, c7, rfl, hr7⟩ := Ho.out.form
          have R7 := Lib.hid hr7
          have HPE := Lib.hid hpe
          clear hr7 hd hpe Ho
          go_wp2_with (at_builtin; refine wpList_app _ (o := ⟨some 29, _, _, _, _, _⟩) (ys := ints fs.reverse) rfl _ _ rfl rfl (OwnI.oneM wr w.heap.size (m : Int) hzr) (_) (c7) (by first | (simp; done) | (simp; omega)) rfl ((R7.out.below (by (repeat' (first | (with_reducible exact Below.refl _ _) | (with_reducible assumption) | (with_reducible refine Below.drew ?_) | (with_reducible refine belowDrewN ?_ _) | (with_reducible refine Below.alloc ?_ ?_ _) | (with_reducible refine Below.setCell ?_ ?_ _) | (with_reducible refine belowStep (by assumption) ?_ ?_) | (with_reducible exact Below.size (by assumption)) | go_size))))) (by (try simp only [List.length_nil, List.length_cons]); omega) (by first | exact Nat.le_refl _ | ((try simp only [World.size_alloc]); omega)) ?_; intro v6 w6 ho6 hb6 hg6 ht6; clear hg6 ht6; have hz6 := hb6.size; (try simp only [World.size_alloc] at hz6))
          go_roundw
          case rel => exact ⟨m, l - d, fs ++ [m], by omega, by go_num, by rw [HPE.out, show ((l - d : Nat) : Int) = (l : Int) - (d : Int) from by omega], by omega, HF2, HR2, by simp; omega, by rw [List.reverse_append]; exact ho6, by (repeat' (first | (with_reducible exact Below.refl _ _) | (with_reducible assumption) | (with_reducible refine Below.drew ?_) | (with_reducible refine belowDrewN ?_ _) | (with_reducible refine Below.alloc ?_ ?_ _) | (with_reducible refine Below.setCell ?_ ?_ _) | (with_reducible refine belowStep (by assumption) ?_ ?_) | (with_reducible exact Below.size (by assumption)) | go_size))⟩
          case measure => simp [intOf]
        · obtain ⟨y1, y2⟩ := dvF_no hc
          have HF2 : Hid (dvF B 20 A = fs ++ dvF B m l) := Lib.hid (by rw [HF.out, y1])
          have HR2 : Hid (dvR B 20 A = dvR B m l) := Lib.hid (by rw [HR.out, y2])
          clear y1 y2 HF HR
          have hci : ¬ (B : Int) * 2 ^ m ≤ (l : Int) := by omega
          clear hpe
          go_wp2
          go_roundw
          case rel => exact ⟨m, l, fs, by omega, by go_num, rfl, hl, HF2, HR2, by omega, Ho.out, hbr⟩
          case measure => simp [intOf]
end Go.Proofs.Ythkchhjidihkpaa
