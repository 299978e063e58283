
/-
  Contracts of FromMarks, MultiplyMarks and DoublingsOf in the model.
-/
import Derived.Test.YthkchhjidihkpaaFmC
namespace Go.Proofs.Ythkchhjidihkpaa
open Go.RowKit
theorem natL_take {xs : List Int} {k : Nat} {x : Int} (h : xs[k]? = some x) : pw (natL (xs.take (k + 1))) = pw (natL (xs.take k)) + 2 ^ x.toNat := by
  rw [List.take_add_one, h]
  unfold natL
  rw [List.map_append, pw_append]
  simp [pw]
theorem pw_le {l : List Nat} (h : ∀ x ∈ l, x < 20) (hl : l.length ≤ 20) : pw l ≤ 20000000 := by
  have h2 : ∀ ls : List Nat, (∀ x ∈ ls, x < 20) → pw ls ≤ ls.length * 524288 := by
    intro ls
    induction ls with
    | nil => intro _; simp [pw]
    | cons l ls ih =>
      intro hh
      have a := ih (fun x hx => hh x (by simp [hx]))
      have b := pow20 (hh l (by simp))
      rw [pw_cons, List.length_cons]
      omega
  have := h2 l h
  omega
set_option maxRecDepth 100000 in
set_option maxHeartbeats 4000000 in
theorem spec_fromMarks_any (w : World) (Axs : Option Addr) (cxs : Nat) (xs : List Int) (hxs : Reads w Axs xs) (lxs : xs.length ≤ 1048576) : Calls Try.prog 18 #[.slice Axs xs.length cxs] w (Ret (.tuple #[.int .i64 (fmZ xs), .bool (fmB xs)]) w) := by
  have Hxs := Lib.hid hxs
  have HR := Lib.hid fun (w : World) (h : Reads w Axs xs) => l1Rising_any w 0 19 Axs cxs xs h lxs
  clear hxs
  cases hr : rise 0 19 none xs with
  | false =>
    have E := Lib.hid (fm_rise hr)
    rw [hr] at HR
    clear hr
    rw [fm_no E.out, E.out]
    go_enter Try.func18, Try.ntmps18
    go_wp2_with fail
    refine (HR.out _ Hxs.out).mono ?_; rintro e w1 ⟨rfl, k1, rfl⟩
    go_wp2
    go_ret2
    exact ⟨rfl, by (repeat' (first | (with_reducible exact Below.refl _ _) | (with_reducible assumption) | (with_reducible refine Below.drew ?_) | (with_reducible refine belowDrewN ?_ _) | (with_reducible refine Below.alloc ?_ ?_ _) | (with_reducible refine Below.setCell ?_ ?_ _) | (with_reducible refine belowStep (by assumption) ?_ ?_) | (with_reducible exact Below.size (by assumption)) | go_size))⟩
  | true =>
    obtain ⟨n1, n2, n3, n4⟩ := rise_nat hr
    obtain ⟨i1, i2, _, _⟩ := at_in n4
    have HIN := Lib.hid i2
    have HN2 := Lib.hid n2
    have HPW : Hid (∀ k, pw (natL (xs.take k)) ≤ 20000000) := Lib.hid fun k => pw_le (fun x hx => by
      obtain ⟨y, hy, rfl⟩ := List.mem_map.1 hx
      exact n2 _ (List.mem_map.2 ⟨y, List.mem_of_mem_take hy, rfl⟩)) (by rw [natL_len, List.length_take]; omega)
    have HF := Lib.hid fun h => fm_in (xs := xs) h
    have HRT := Lib.hid hr
    have HG := Lib.hid fun h => fm_big (xs := xs) h
    rw [hr] at HR
    clear hr n1 n2 n3 n4 i2
    go_enter Try.func18, Try.ntmps18
    go_wp2_with fail
    refine (HR.out _ Hxs.out).mono ?_; rintro e w1 ⟨rfl, k1, rfl⟩
    go_wp2
    go_loopw [4, 12] (fun v4 v12 wr => ∃ k : Nat, k ≤ xs.length ∧ v12 = .int .i64 (k : Int) ∧ v4 = .int .i64 ((pw (natL (xs.take k)) : Nat) : Int) ∧ Below w.heap.size w wr) (fun _ v12 _ => xs.length - (intOf v12).toNat)
    case atStart => exact ⟨0, Nat.zero_le _, rfl, rfl, by (repeat' (first | (with_reducible exact Below.refl _ _) | (with_reducible assumption) | (with_reducible refine Below.drew ?_) | (with_reducible refine belowDrewN ?_ _) | (with_reducible refine Below.alloc ?_ ?_ _) | (with_reducible refine Below.setCell ?_ ?_ _) | (with_reducible refine belowStep (by assumption) ?_ ?_) | (with_reducible exact Below.size (by assumption)) | go_size))⟩
    case round =>
      obtain ⟨k, hk, rfl, rfl, hbr⟩ := hrel
      have hzr := hbr.size
      have hpk := HPW.out k
      by_cases hlt : k < xs.length
      · obtain ⟨b9, o9, x, rfl, hbb, hx, hcell⟩ := (Hxs.out.below hbr).at_ hlt
        obtain ⟨x1, x2⟩ := HIN.out x (List.mem_of_getElem? hx)
        have hT := natL_take hx
        clear hx
        obtain ⟨X, rfl⟩ := Int.eq_ofNat_of_zero_le x1
        have hp20 := pow20 (show X < 20 by omega)
        have hpe : (2 : Int) ^ X = ((2 ^ X : Nat) : Int) := by simp
        have HT : Hid (((pw (natL (xs.take (k + 1))) : Nat) : Int) = ((pw (natL (xs.take k)) : Nat) : Int) + (2 : Int) ^ X) := Lib.hid (by rw [hT, hpe]; simp)
        obtain ⟨P, hP⟩ : ∃ P, P = 2 ^ X := ⟨_, rfl⟩
        rw [← hP] at hpe hp20
        have p1 : 0 ≤ (2 : Int) ^ X ∧ (2 : Int) ^ X ≤ 524288 := by rw [hpe]; omega
        clear hpe hP hT
        generalize pw (natL (xs.take k)) = s at *
        go_wp2
        go_roundw
        case rel => exact ⟨k + 1, by omega, by go_num, by rw [HT.out], by (repeat' (first | (with_reducible exact Below.refl _ _) | (with_reducible assumption) | (with_reducible refine Below.drew ?_) | (with_reducible refine belowDrewN ?_ _) | (with_reducible refine Below.alloc ?_ ?_ _) | (with_reducible refine Below.setCell ?_ ?_ _) | (with_reducible refine belowStep (by assumption) ?_ ?_) | (with_reducible exact Below.size (by assumption)) | go_size))⟩
        case measure => simp [intOf]; omega
      · obtain rfl : k = xs.length := by omega
        rw [List.take_length] at hpk
        have EZ : Hid (fmZ xs = if fmB xs = true then ((pw (natL xs) : Nat) : Int) else 0) := Lib.hid rfl
        by_cases hs : pw (natL xs) ≤ 1000000
        · have E : Hid (fmB xs = true) := Lib.hid (by rw [HF.out hs]; exact HRT.out)
          have E2 := Lib.hid (fm_yes E.out)
          clear HF HG EZ
          rw [List.take_length]
          generalize pw (natL xs) = s at *
          go_wp2
          go_ret2
          rw [E.out, E2.out]
          exact ⟨rfl, by (repeat' (first | (with_reducible exact Below.refl _ _) | (with_reducible assumption) | (with_reducible refine Below.drew ?_) | (with_reducible refine belowDrewN ?_ _) | (with_reducible refine Below.alloc ?_ ?_ _) | (with_reducible refine Below.setCell ?_ ?_ _) | (with_reducible refine belowStep (by assumption) ?_ ?_) | (with_reducible exact Below.size (by assumption)) | go_size))⟩
        · have E := Lib.hid (HG.out hs)
          have E2 := Lib.hid (fm_no E.out)
          clear HF HG EZ
          rw [List.take_length]
          generalize pw (natL xs) = s at *
          go_wp2
          go_ret2
          rw [E.out, E2.out]
          exact ⟨rfl, by (repeat' (first | (with_reducible exact Below.refl _ _) | (with_reducible assumption) | (with_reducible refine Below.drew ?_) | (with_reducible refine belowDrewN ?_ _) | (with_reducible refine Below.alloc ?_ ?_ _) | (with_reducible refine Below.setCell ?_ ?_ _) | (with_reducible refine belowStep (by assumption) ?_ ?_) | (with_reducible exact Below.size (by assumption)) | go_size))⟩
set_option maxRecDepth 100000 in
set_option maxHeartbeats 4000000 in
theorem spec_multiplyMarks_any (a b : Int) (w : World) : Calls Try.prog 23 #[.int .i64 a, .int .i64 b] w (RetLIB (mmL a b) (mmZ a b) (mmB a b) w) := by
  have HA := Lib.hid fun (w : World) => scFactor_any a w
  have HB := Lib.hid fun (w : World) => scFactor_any b w
  cases ha : facB a with
  | false =>
    have e3 : mmB a b = false := by unfold mmB; rw [ha, Bool.false_and]
    obtain ⟨e1, e2⟩ := mm_no e3
    rw [e1, e2, e3]
    rw [ha] at HA
    clear ha e1 e2 e3
    go_enter Try.func23, Try.ntmps23
    go_wp2_with fail
    refine (HA.out _).mono ?_; rintro e w1 ⟨rfl, k1, rfl⟩
    go_wp2
    go_ret3
    exact ⟨_, rfl, OwnI.empty _ _, by (repeat' (first | (with_reducible exact Below.refl _ _) | (with_reducible assumption) | (with_reducible refine Below.drew ?_) | (with_reducible refine belowDrewN ?_ _) | (with_reducible refine Below.alloc ?_ ?_ _) | (with_reducible refine Below.setCell ?_ ?_ _) | (with_reducible refine belowStep (by assumption) ?_ ?_) | (with_reducible exact Below.size (by assumption)) | go_size))⟩
  | true =>
    cases hb : facB b with
    | false =>
      have e3 : mmB a b = false := by unfold mmB; rw [hb, Bool.and_false]
      obtain ⟨e1, e2⟩ := mm_no e3
      rw [e1, e2, e3]
      rw [ha] at HA
      rw [hb] at HB
      clear ha hb e1 e2 e3
      go_enter Try.func23, Try.ntmps23
      go_wp2_with fail
      refine (HA.out _).mono ?_; rintro e w1 ⟨rfl, k1, rfl⟩
      go_wp2_with fail
      refine (HB.out _).mono ?_; rintro e w2 ⟨rfl, k2, rfl⟩
      go_wp2
      go_ret3
      exact ⟨_, rfl, OwnI.empty _ _, by (repeat' (first | (with_reducible exact Below.refl _ _) | (with_reducible assumption) | (with_reducible refine Below.drew ?_) | (with_reducible refine belowDrewN ?_ _) | (with_reducible refine Below.alloc ?_ ?_ _) | (with_reducible refine Below.setCell ?_ ?_ _) | (with_reducible refine belowStep (by assumption) ?_ ?_) | (with_reducible exact Below.size (by assumption)) | go_size))⟩
    | true =>
      have e3 : mmB a b = true := by unfold mmB; rw [ha, hb]; rfl
      obtain ⟨e1, e2⟩ := mm_yes e3
      obtain ⟨A, rfl, a1⟩ := facB_nat ha
      obtain ⟨B, rfl, b1⟩ := facB_nat hb
      rw [e1, e2, e3, moL_yes hb]
      rw [ha] at HA
      rw [hb] at HB
      have HS := Lib.hid fun (w : World) => scMarks_any B w b1
      have HMM := Lib.hid fun x (hx : x ∈ mk B) => mk_mem hx
      have hml := mk_len B
      have HPB := Lib.hid (mk_pw (n := B) (by omega))
      have HPW : Hid (∀ k, A * pw ((mk B).take k) ≤ 20000000000000) := Lib.hid fun k => by
        have h1 := pw_le (l := (mk B).take k) (fun x hx => mk_mem (List.mem_of_mem_take hx)) (by rw [List.length_take]; omega)
        exact Nat.le_trans (Nat.mul_le_mul a1 h1) (by omega)
      clear ha hb e1 e2 e3
      generalize mk B = ms at *
      have hmi : (ints ms).length ≤ 20 := by rw [ints_len]; exact hml
      go_enter Try.func23, Try.ntmps23
      go_wp2_with fail
      refine (HA.out _).mono ?_; rintro e w1 ⟨rfl, k1, rfl⟩
      go_wp2_with fail
      refine (HB.out _).mono ?_; rintro e w2 ⟨rfl, k2, rfl⟩
      go_wp2_with fail
      refine (HS.out _).mono ?_; rintro e w3 ⟨v3, rfl, ho3, hb3⟩; have hz3 := hb3.size; (try simp only [World.heap_drewN] at hz3)
      obtain ⟨A3, c3, rfl, hr3⟩ := ho3.form
      have O3 := Lib.hid ho3
      have R3 := Lib.hid hr3
      have hbw : Below w.heap.size w w3 := by (repeat' (first | (with_reducible exact Below.refl _ _) | (with_reducible assumption) | (with_reducible refine Below.drew ?_) | (with_reducible refine belowDrewN ?_ _) | (with_reducible refine Below.alloc ?_ ?_ _) | (with_reducible refine Below.setCell ?_ ?_ _) | (with_reducible refine belowStep (by assumption) ?_ ?_) | (with_reducible exact Below.size (by assumption)) | go_size))
      clear ho3 hr3
      go_wp2
      go_loopw [8, 23] (fun v8 v23 wr => ∃ k : Nat, k ≤ ms.length ∧ v23 = .int .i64 (k : Int) ∧ v8 = .int .i64 ((A * pw (ms.take k) : Nat) : Int) ∧ Below w3.heap.size w3 wr) (fun _ v23 _ => ms.length - (intOf v23).toNat)
      case atStart => exact ⟨0, Nat.zero_le _, rfl, by simp [pw], by (repeat' (first | (with_reducible exact Below.refl _ _) | (with_reducible assumption) | (with_reducible refine Below.drew ?_) | (with_reducible refine belowDrewN ?_ _) | (with_reducible refine Below.alloc ?_ ?_ _) | (with_reducible refine Below.setCell ?_ ?_ _) | (with_reducible refine belowStep (by assumption) ?_ ?_) | (with_reducible exact Below.size (by assumption)) | go_size))⟩
      case round =>
        obtain ⟨k, hk, rfl, rfl, hbr⟩ := hrel
        have hzr := hbr.size
        have hpk := HPW.out k
        have hle := ints_len ms
        have hle1 : (ints ms).length ≤ ms.length := by omega
        have hle2 : ms.length ≤ (ints ms).length := by omega
        clear hle
        by_cases hlt : k < ms.length
        · obtain ⟨b9, o9, x, rfl, hbb, hx, hcell⟩ := (R3.out.below hbr).at_ (show k < (ints ms).length by omega)
          obtain ⟨X, rfl, hX⟩ := ints_at hx
          have hX20 := HMM.out X (List.mem_of_getElem? hX)
          have HT : Hid (pw (ms.take (k + 1)) = pw (ms.take k) + 2 ^ X) := Lib.hid (by rw [List.take_add_one, hX, pw_append]; simp [pw])
          have hS := shl_nat hX20 a1
          have hpe : (A : Int) * 2 ^ X = ((A * 2 ^ X : Nat) : Int) := by simp
          have p1 : 0 ≤ (A : Int) * 2 ^ X ∧ (A : Int) * 2 ^ X ≤ 524288000000 := by rw [hpe]; omega
          have HPE := Lib.hid hpe
          have hki : (k : Int) < ((ints ms).length : Int) := by omega
          clear hpe hx hX
          have HS2 : Hid (((A * pw (ms.take (k + 1)) : Nat) : Int) = ((A * pw (ms.take k) : Nat) : Int) + ((A * 2 ^ X : Nat) : Int)) := Lib.hid (by rw [HT.out, Nat.mul_add]; omega)
          generalize A * pw (ms.take k) = s at *
          go_wp2
          go_roundw
          case rel => exact ⟨k + 1, by omega, by go_num, by rw [HS2.out, HPE.out], by (repeat' (first | (with_reducible exact Below.refl _ _) | (with_reducible assumption) | (with_reducible refine Below.drew ?_) | (with_reducible refine belowDrewN ?_ _) | (with_reducible refine Below.alloc ?_ ?_ _) | (with_reducible refine Below.setCell ?_ ?_ _) | (with_reducible refine belowStep (by assumption) ?_ ?_) | (with_reducible exact Below.size (by assumption)) | go_size))⟩
          case measure => simp [intOf]; omega
        · obtain rfl : k = ms.length := by omega
          have hki : ¬ ((ms.length : Nat) : Int) < ((ints ms).length : Int) := by omega
          have E : Hid (((A * pw (ms.take ms.length) : Nat) : Int) = (A : Int) * (B : Int)) := Lib.hid (by rw [List.take_length, HPB.out, Int.natCast_mul])
          generalize A * pw (ms.take ms.length) = s at *
          go_wp2
          go_ret3
          rw [← E.out]
          exact ⟨_, rfl, OwnI.mono (O3.out.below hbr) (by (first | (go_size; done) | ((try simp only [World.size_alloc, World.size_setCell, World.size_drew, World.heap_drewN]); omega))), by (repeat' (first | (with_reducible exact Below.refl _ _) | (with_reducible assumption) | (with_reducible refine Below.drew ?_) | (with_reducible refine belowDrewN ?_ _) | (with_reducible refine Below.alloc ?_ ?_ _) | (with_reducible refine Below.setCell ?_ ?_ _) | (with_reducible refine belowStep (by assumption) ?_ ?_) | (with_reducible exact Below.size (by assumption)) | go_size))⟩
theorem dbl_snoc (a k : Nat) : dbl a (k + 1) = dbl a k ++ [((a * 2 ^ k : Nat) : Int)] := by
  unfold dbl
  rw [List.range_succ, List.map_append]
  rfl
set_option maxRecDepth 100000 in
set_option maxHeartbeats 4000000 in
theorem spec_doublingsOf_any (a n : Int) (w : World) : Calls Try.prog 21 #[.int .i64 a, .int .i64 n] w (RetLB (doL a n) (doB a n) w) := by
  have HA := Lib.hid fun (w : World) => scFactor_any a w
  cases ha : facB a with
  | false =>
    have E := Lib.hid (do_a (n := n) ha)
    rw [ha] at HA
    clear ha
    rw [do_no E.out, E.out]
    go_enter Try.func21, Try.ntmps21
    go_wp2_with fail
    refine (HA.out _).mono ?_; rintro e w1 ⟨rfl, k1, rfl⟩
    go_wp2
    go_ret2
    exact ⟨_, rfl, OwnI.empty _ _, by (repeat' (first | (with_reducible exact Below.refl _ _) | (with_reducible assumption) | (with_reducible refine Below.drew ?_) | (with_reducible refine belowDrewN ?_ _) | (with_reducible refine Below.alloc ?_ ?_ _) | (with_reducible refine Below.setCell ?_ ?_ _) | (with_reducible refine belowStep (by assumption) ?_ ?_) | (with_reducible exact Below.size (by assumption)) | go_size))⟩
  | true =>
    by_cases h12 : 0 ≤ n ∧ n ≤ 20
    · obtain ⟨h1, h2⟩ := h12
      obtain ⟨A, rfl, a1⟩ := facB_nat ha
      obtain ⟨N, rfl⟩ := Int.eq_ofNat_of_zero_le h1
      have hd := do_in ha h1 h2
      rw [do_yes hd, hd]
      rw [ha] at HA
      clear ha hd
      go_enter Try.func21, Try.ntmps21
      go_wp2_with fail
      refine (HA.out _).mono ?_; rintro e w1 ⟨rfl, k1, rfl⟩
      go_wp2_with fail
      refine (l1In_yes _ _ _ _ h1 h2).mono ?_; rintro e w2 ⟨rfl, k2, rfl⟩
      go_wp2
      go_loopw [0, 1, 6] (fun v0 v1 v6 wr => ∃ (k m : Nat), k + m = N ∧ v1 = .int .i64 (m : Int) ∧ v0 = .int .i64 ((A * 2 ^ k : Nat) : Int) ∧ OwnI wr w.heap.size v6 (dbl A k) ∧ Below w.heap.size w wr) (fun _ v1 _ _ => (intOf v1).toNat)
      case atStart => exact ⟨0, N, by omega, rfl, by simp, OwnI.empty _ _, by (repeat' (first | (with_reducible exact Below.refl _ _) | (with_reducible assumption) | (with_reducible refine Below.drew ?_) | (with_reducible refine belowDrewN ?_ _) | (with_reducible refine Below.alloc ?_ ?_ _) | (with_reducible refine Below.setCell ?_ ?_ _) | (with_reducible refine belowStep (by assumption) ?_ ?_) | (with_reducible exact Below.size (by assumption)) | go_size))⟩
      case round =>
        obtain ⟨k, m, hkm, rfl, rfl, ho, hbr⟩ := hrel
        have hzr := hbr.size
        have Ho := Lib.hid ho
        have hdl : (dbl A k).length ≤ 20 := by rw [dbl_len]; omega
        clear ho
        by_cases h0 : m = 0
        · subst h0
          have hk : k = N := by omega
          subst hk
          go_wp2
          go_ret2
          exact ⟨_, rfl, Ho.out, hbr⟩
        · obtain ⟨j, rfl⟩ : ∃ j, m = j + 1 := ⟨m - 1, by omega⟩
          have hS := shl_nat (show k < 20 by omega) a1
          have HD := Lib.hid (dbl_snoc A k)
          have hp : A * 2 ^ (k + 1) = A * 2 ^ k * 2 := by rw [Nat.pow_succ, Nat.mul_assoc]
          have HP := Lib.hid hp
          have hmi : (0 : Int) < ((j + 1 : Nat) : Int) := by omega
          have hkm2 : k + 1 + j = N := by omega
          clear hp hkm
          generalize A * 2 ^ k = d at *
          generalize dbl A k = ds at *
          go_wp2_with (at_builtin; refine wpList_app _ (o := ⟨some 22, _, _, _, _, _⟩) (ys := [(d : Int)]) rfl _ _ rfl rfl (OwnI.below Ho.out ((Below.refl _ _).alloc (Nat.le_refl _) _)) (1) (1) (by first | (simp; done) | (simp; omega)) rfl (Reads.one _ (d : Int)) (by (try simp only [List.length_nil, List.length_cons]); omega) (by first | exact Nat.le_refl _ | ((try simp only [World.size_alloc]); omega)) ?_; intro v16 w16 ho16 hb16 hg16 ht16; clear hg16 ht16; have hz16 := hb16.size; (try simp only [World.size_alloc] at hz16))
          go_roundw
          case rel => exact ⟨k + 1, j, hkm2, by go_num, by rw [HP.out, Int.natCast_mul]; rfl, by rw [HD.out]; exact ho16, by (repeat' (first | (with_reducible exact Below.refl _ _) | (with_reducible assumption) | (with_reducible refine Below.drew ?_) | (with_reducible refine belowDrewN ?_ _) | (with_reducible refine Below.alloc ?_ ?_ _) | (with_reducible refine Below.setCell ?_ ?_ _) | (with_reducible refine belowStep (by assumption) ?_ ?_) | (with_reducible exact Below.size (by assumption)) | go_size))⟩
          case measure => simp [intOf]
    · have E := Lib.hid (do_n (a := a) (n := n) h12)
      rw [ha] at HA
      clear ha
      rw [do_no E.out, E.out]
      go_enter Try.func21, Try.ntmps21
      go_wp2_with fail
      refine (HA.out _).mono ?_; rintro e w1 ⟨rfl, k1, rfl⟩
      go_wp2_with fail
      refine (l1In_no _ _ _ _ h12).mono ?_; rintro e w2 ⟨rfl, k2, rfl⟩
      go_wp2
      go_ret2
      exact ⟨_, rfl, OwnI.empty _ _, by (repeat' (first | (with_reducible exact Below.refl _ _) | (with_reducible assumption) | (with_reducible refine Below.drew ?_) | (with_reducible refine belowDrewN ?_ _) | (with_reducible refine Below.alloc ?_ ?_ _) | (with_reducible refine Below.setCell ?_ ?_ _) | (with_reducible refine belowStep (by assumption) ?_ ?_) | (with_reducible exact Below.size (by assumption)) | go_size))⟩
end Go.Proofs.Ythkchhjidihkpaa
