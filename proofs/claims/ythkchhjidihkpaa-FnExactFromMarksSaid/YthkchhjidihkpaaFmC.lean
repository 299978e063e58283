
/-
  The contract of FromMarks in the program.
-/
import Derived.Test.YthkchhjidihkpaaFmP
import Derived.Test.YthkchhjidihkpaaRowEq
namespace Go.Proofs.Ythkchhjidihkpaa
open Go.RowKit
set_option maxRecDepth 100000 in
set_option maxHeartbeats 8000000 in
theorem fromMarks_any (w : World) (Axs : Option Addr) (cxs : Nat) (xs : List Int) (hxs : Reads w Axs xs) (lxs : xs.length ≤ 1048576) (r64 : In64 xs) : Calls Try.prog 20 #[.slice Axs xs.length cxs] w (Ret (.tuple #[.int .i64 (fmZ xs), .bool (fmB xs)]) w) := by
  have Hxs := Lib.hid hxs
  have HD : Hid (∀ w, Calls Try.prog 47 #[.int .i64 1] w (Ret (rowV (dblR 1 20)) w)) := Lib.hid fun w => doublingsFrom_any 1 w (by omega)
  have HA := Lib.hid fun (w : World) (h : Reads w Axs xs) => at_any (dblR 1 20) w (dblR_len (Nat.le_refl _)) Axs cxs xs h lxs r64
  have HL := Lib.hid (dblR_len (a := 1) (Nat.le_refl 20))
  clear hxs r64
  cases hb : atB xs with
  | false =>
    have E : Hid (fmB xs = false) := Lib.hid (fm_rise (by
      cases hr : rise 0 19 none xs with
      | false => rfl
      | true => rw [(rise_nat hr).2.2.2] at hb; cases hb))
    rw [fm_no E.out, E.out]
    have HA2 : Hid (∀ w, Reads w Axs xs → Calls Try.prog 48 #[rowV (dblR 1 20), .slice Axs xs.length cxs] w (Ret (.tuple #[rowV zr, .bool false]) w)) := Lib.hid fun w h => by
      have := HA.out w h
      rwa [atV_no hb, hb] at this
    clear HA hb
    generalize dblR 1 20 = row at *
    go_enter Try.func20, Try.ntmps20
    go_wp2_with (first
      | (go_at_call 47; refine (HD.out _).mono ?_; rintro e w1 ⟨rfl, hb1⟩; have hz1 := hb1.size)
      | (with_reducible show wpList _ _ _ _ _ _; refine step_allocR (o := ⟨some 4, _, _, _, _, _⟩) rfl rfl ?_; intro w2 hR2 hb2 hz2)
      | (with_reducible show wpList _ _ _ _ _ _; refine step_storeR (w1.heap.size) (row) hR2 HL.out (.tmp 4) (.tmp 11) rfl rfl rfl rfl ?_; intro w3 hR3 hb3 hz3 hn3)
      | (with_reducible show wpList _ _ _ _ _ _; refine step_loadR (w1.heap.size) (row) hR3 (.tmp 4) (o := ⟨some 13, _, _, _, _, _⟩) rfl rfl rfl ?_)
      | (go_at_call 48; refine (HA2.out _ (Hxs.out.below (by (repeat' (first | (with_reducible exact Below.refl _ _) | (with_reducible assumption) | (with_reducible refine Below.drew ?_) | (with_reducible refine belowDrewN ?_ _) | (with_reducible refine Below.alloc ?_ ?_ _) | (with_reducible refine Below.setCell ?_ ?_ _) | (with_reducible refine belowStep (by assumption) ?_ ?_) | (with_reducible exact Below.size (by assumption)) | go_size))))).mono ?_; rintro e w4 ⟨rfl, hb4⟩; have hz4 := hb4.size)
      | (with_reducible show wpList _ _ _ _ _ _; refine step_allocR (o := ⟨some 5, _, _, _, _, _⟩) rfl rfl ?_; intro w5 hR5 hb5 hz5)
      | (with_reducible show wpList _ _ _ _ _ _; refine step_storeR (w4.heap.size) (zr) hR5 rfl (.tmp 5) (.tmp 16) rfl rfl rfl rfl ?_; intro w6 hR6 hb6 hz6 hn6))
    go_ret2
    exact ⟨rfl, by (repeat' (first | (with_reducible exact Below.refl _ _) | (with_reducible assumption) | (with_reducible refine Below.drew ?_) | (with_reducible refine belowDrewN ?_ _) | (with_reducible refine Below.alloc ?_ ?_ _) | (with_reducible refine Below.setCell ?_ ?_ _) | (with_reducible refine belowStep (by assumption) ?_ ?_) | (with_reducible exact Below.size (by assumption)) | go_size))⟩
  | true =>
    obtain ⟨i1, i2, i3, i4⟩ := at_in hb
    have HA2 : Hid (∀ w, Reads w Axs xs → Calls Try.prog 48 #[rowV (dblR 1 20), .slice Axs xs.length cxs] w (Ret (.tuple #[rowV (atR (dblR 1 20) (natL xs)), .bool true]) w)) := Lib.hid fun w h => by
      have := HA.out w h
      rwa [atV_yes hb, hb] at this
    have HT : Hid (∀ w, Calls Try.prog 49 #[rowV (atR (dblR 1 20) (natL xs))] w (Ret (.int .i64 ((pw (natL xs) : Nat) : Int)) w)) := Lib.hid fun w => by
      have := total_any (atR (dblR 1 20) (natL xs)) w (atR_len (by rw [natL_len]; exact i1)) (atR_in (by omega) i3)
      rwa [sumI_at i3, Nat.one_mul] at this
    have HL2 := Lib.hid (atR_len (row := dblR 1 20) (ls := natL xs) (by rw [natL_len]; exact i1))
    have hsb : pw (natL xs) ≤ 20000000 := by
      have := sumI_bounds (xs := (natL xs).map (fun i => ((1 * 2 ^ i : Nat) : Int))) (fun x hx => by
        obtain ⟨i, hi, rfl⟩ := List.mem_map.1 hx
        have := shl_nat (i3 i hi) (show 1 ≤ 1000000 by omega)
        omega)
      have h2 : ∀ ls : List Nat, (∀ x ∈ ls, x < 20) → pw ls ≤ ls.length * 524288 := by
        intro ls
        induction ls with
        | nil => intro _; simp [pw]
        | cons l ls ih =>
          intro hh
          have a := ih (fun x hx => hh x (by simp [hx]))
          have b := pow20 (hh l (by simp))
          rw [pw_cons, List.length_cons]
          omega
      have h3 := h2 (natL xs) i3
      rw [natL_len] at h3
      omega
    have HM := Lib.hid fun (w : World) => marksOf_any ((pw (natL xs) : Nat) : Int) w
    by_cases hs : pw (natL xs) ≤ 1000000
    · have hf : facB ((pw (natL xs) : Nat) : Int) = true := (facB_iff _).2 ⟨by omega, by omega⟩
      have HM2 : Hid (∀ w, Calls Try.prog 14 #[.int .i64 ((pw (natL xs) : Nat) : Int)] w (RetLB (ints (mk (pw (natL xs)))) true w)) := Lib.hid fun w => by
        have := HM.out w
        rwa [moL_yes hf, hf] at this
      have HA3 : Hid (∀ w A c, Reads w A (ints (mk (pw (natL xs)))) → Calls Try.prog 48 #[rowV (dblR 1 20), .slice A (ints (mk (pw (natL xs)))).length c] w (Ret (.tuple #[rowV (atR (dblR 1 20) (mk (pw (natL xs)))), .bool true]) w)) := Lib.hid fun w A c h => by
        have hm := mk_at (pw (natL xs))
        have := at_any (dblR 1 20) w HL.out A c (ints (mk (pw (natL xs)))) h (by rw [ints_len]; have := mk_len (pw (natL xs)); omega) (In64.of_mem fun x hx => by
          obtain ⟨i, hi, rfl⟩ := List.mem_map.1 hx
          have := mk_mem hi
          omega)
        rwa [atV_yes hm, hm, natL_ints] at this
      have HL3 := Lib.hid (atR_len (row := dblR 1 20) (ls := mk (pw (natL xs))) (mk_len _))
      have E := Lib.hid (fm_iff hb hs)
      have EZ : Hid (fmZ xs = if fmB xs = true then ((pw (natL xs) : Nat) : Int) else 0) := Lib.hid rfl
      clear HA hb i1 i2 i3 i4 HM hf hs
      generalize fmZ xs = fz at *
      generalize fmB xs = fb at *
      generalize atR (dblR 1 20) (natL xs) = r1 at *
      generalize atR (dblR 1 20) (mk (pw (natL xs))) = r2 at *
      generalize ints (mk (pw (natL xs))) = own at *
      generalize pw (natL xs) = s at *
      generalize dblR 1 20 = row at *
      by_cases hr : r1 = r2
      · have E1 : fb = true := by rw [E.out, decide_eq_true hr]
        subst E1
        have E2 : fz = ((s : Nat) : Int) := by rw [EZ.out, if_pos rfl]
        subst E2
        have hne : (!decide (r1 = r2)) = false := by simp [hr]
        have HNE := Lib.hid hne
        clear E EZ hr hne
        go_enter Try.func20, Try.ntmps20
        go_wp2_with (first
          | (go_at_call 47; refine (HD.out _).mono ?_; rintro e w1 ⟨rfl, hb1⟩; have hz1 := hb1.size)
          | (with_reducible show wpList _ _ _ _ _ _; refine step_allocR (o := ⟨some 4, _, _, _, _, _⟩) rfl rfl ?_; intro w2 hR2 hb2 hz2)
          | (with_reducible show wpList _ _ _ _ _ _; refine step_storeR (w1.heap.size) (row) hR2 HL.out (.tmp 4) (.tmp 11) rfl rfl rfl rfl ?_; intro w3 hR3 hb3 hz3 hn3)
          | (with_reducible show wpList _ _ _ _ _ _; refine step_loadR (w1.heap.size) (row) hR3 (.tmp 4) (o := ⟨some 13, _, _, _, _, _⟩) rfl rfl rfl ?_)
          | (go_at_call 48; refine (HA3.out _ _ _ hr8).mono ?_; rintro e w9 ⟨rfl, hb9⟩; have hz9 := hb9.size)
          | (go_at_call 48; refine (HA2.out _ (Hxs.out.below (by (repeat' (first | (with_reducible exact Below.refl _ _) | (with_reducible assumption) | (with_reducible refine Below.drew ?_) | (with_reducible refine belowDrewN ?_ _) | (with_reducible refine Below.alloc ?_ ?_ _) | (with_reducible refine Below.setCell ?_ ?_ _) | (with_reducible refine belowStep (by assumption) ?_ ?_) | (with_reducible exact Below.size (by assumption)) | go_size))))).mono ?_; rintro e w4 ⟨rfl, hb4⟩; have hz4 := hb4.size)
          | (with_reducible show wpList _ _ _ _ _ _; refine step_allocR (o := ⟨some 5, _, _, _, _, _⟩) rfl rfl ?_; intro w5 hR5 hb5 hz5)
          | (with_reducible show wpList _ _ _ _ _ _; refine step_storeR (w4.heap.size) (r1) hR5 HL2.out (.tmp 5) (.tmp 16) rfl rfl rfl rfl ?_; intro w6 hR6 hb6 hz6 hn6)
          | (with_reducible show wpList _ _ _ _ _ _; refine step_loadR (w4.heap.size) (r1) hR6 (.tmp 5) (o := ⟨some 20, _, _, _, _, _⟩) rfl rfl rfl ?_)
          | (go_at_call 49; refine (HT.out _).mono ?_; rintro e w7 ⟨rfl, hb7⟩; have hz7 := hb7.size)
          | (go_at_call 14; refine (HM2.out _).mono ?_; rintro e w8 ⟨v8, rfl, ho8, hb8⟩; obtain ⟨A8, c8, rfl, hr8⟩ := ho8.form; have hz8 := hb8.size; have hR3b : RowAt w8 w1.heap.size row := (hR3.below (by (repeat' (first | (with_reducible exact Below.refl _ _) | (with_reducible assumption) | (with_reducible refine Below.drew ?_) | (with_reducible refine belowDrewN ?_ _) | (with_reducible refine Below.alloc ?_ ?_ _) | (with_reducible refine Below.setCell ?_ ?_ _) | (with_reducible refine belowStep (by assumption) ?_ ?_) | (with_reducible exact Below.size (by assumption)) | go_size)))))
          | (with_reducible show wpList _ _ _ _ _ _; refine step_loadR (w1.heap.size) (row) hR3b (.tmp 4) (o := ⟨some 30, _, _, _, _, _⟩) rfl rfl rfl ?_)
          | (with_reducible show wpList _ _ _ _ _ _; refine step_allocR (o := ⟨some 9, _, _, _, _, _⟩) rfl rfl ?_; intro w10 hR10 hb10 hz10)
          | (with_reducible show wpList _ _ _ _ _ _; refine step_storeR (w9.heap.size) (r2) hR10 HL3.out (.tmp 9) (.tmp 33) rfl rfl rfl rfl ?_; intro w11 hR11 hb11 hz11 hn11)
          | (have hR6b : RowAt w11 w4.heap.size r1 := (hR6.below (by (repeat' (first | (with_reducible exact Below.refl _ _) | (with_reducible assumption) | (with_reducible refine Below.drew ?_) | (with_reducible refine belowDrewN ?_ _) | (with_reducible refine Below.alloc ?_ ?_ _) | (with_reducible refine Below.setCell ?_ ?_ _) | (with_reducible refine belowStep (by assumption) ?_ ?_) | (with_reducible exact Below.size (by assumption)) | go_size)))); (with_reducible show wpList _ _ _ _ _ _; refine step_loadR (w4.heap.size) (r1) hR6b (.tmp 5) (o := ⟨some 35, _, _, _, _, _⟩) rfl rfl rfl ?_))
          | (with_reducible show wpList _ _ _ _ _ _; refine step_loadR (w9.heap.size) (r2) hR11 (.tmp 9) (o := ⟨some 36, _, _, _, _, _⟩) rfl rfl rfl ?_)
          | (with_reducible show wpList _ _ _ _ _ _; refine step_neqR (xs := r1) (ys := r2) HL2.out HL3.out _ _ _ rfl rfl rfl rfl ?_; rw [HNE.out]))
        go_ret2
        exact ⟨rfl, by (repeat' (first | (with_reducible exact Below.refl _ _) | (with_reducible assumption) | (with_reducible refine Below.drew ?_) | (with_reducible refine belowDrewN ?_ _) | (with_reducible refine Below.alloc ?_ ?_ _) | (with_reducible refine Below.setCell ?_ ?_ _) | (with_reducible refine belowStep (by assumption) ?_ ?_) | (with_reducible exact Below.size (by assumption)) | go_size))⟩
      · have E1 : fb = false := by rw [E.out, decide_eq_false hr]
        subst E1
        have E2 : fz = 0 := by rw [EZ.out]; rfl
        subst E2
        have hne : (!decide (r1 = r2)) = true := by simp [hr]
        have HNE := Lib.hid hne
        clear E EZ hr hne
        go_enter Try.func20, Try.ntmps20
        go_wp2_with (first
          | (go_at_call 47; refine (HD.out _).mono ?_; rintro e w1 ⟨rfl, hb1⟩; have hz1 := hb1.size)
          | (with_reducible show wpList _ _ _ _ _ _; refine step_allocR (o := ⟨some 4, _, _, _, _, _⟩) rfl rfl ?_; intro w2 hR2 hb2 hz2)
          | (with_reducible show wpList _ _ _ _ _ _; refine step_storeR (w1.heap.size) (row) hR2 HL.out (.tmp 4) (.tmp 11) rfl rfl rfl rfl ?_; intro w3 hR3 hb3 hz3 hn3)
          | (with_reducible show wpList _ _ _ _ _ _; refine step_loadR (w1.heap.size) (row) hR3 (.tmp 4) (o := ⟨some 13, _, _, _, _, _⟩) rfl rfl rfl ?_)
          | (go_at_call 48; refine (HA3.out _ _ _ hr8).mono ?_; rintro e w9 ⟨rfl, hb9⟩; have hz9 := hb9.size)
          | (go_at_call 48; refine (HA2.out _ (Hxs.out.below (by (repeat' (first | (with_reducible exact Below.refl _ _) | (with_reducible assumption) | (with_reducible refine Below.drew ?_) | (with_reducible refine belowDrewN ?_ _) | (with_reducible refine Below.alloc ?_ ?_ _) | (with_reducible refine Below.setCell ?_ ?_ _) | (with_reducible refine belowStep (by assumption) ?_ ?_) | (with_reducible exact Below.size (by assumption)) | go_size))))).mono ?_; rintro e w4 ⟨rfl, hb4⟩; have hz4 := hb4.size)
          | (with_reducible show wpList _ _ _ _ _ _; refine step_allocR (o := ⟨some 5, _, _, _, _, _⟩) rfl rfl ?_; intro w5 hR5 hb5 hz5)
          | (with_reducible show wpList _ _ _ _ _ _; refine step_storeR (w4.heap.size) (r1) hR5 HL2.out (.tmp 5) (.tmp 16) rfl rfl rfl rfl ?_; intro w6 hR6 hb6 hz6 hn6)
          | (with_reducible show wpList _ _ _ _ _ _; refine step_loadR (w4.heap.size) (r1) hR6 (.tmp 5) (o := ⟨some 20, _, _, _, _, _⟩) rfl rfl rfl ?_)
          | (go_at_call 49; refine (HT.out _).mono ?_; rintro e w7 ⟨rfl, hb7⟩; have hz7 := hb7.size)
          | (go_at_call 14; refine (HM2.out _).mono ?_; rintro e w8 ⟨v8, rfl, ho8, hb8⟩; obtain ⟨A8, c8, rfl, hr8⟩ := ho8.form; have hz8 := hb8.size; have hR3b : RowAt w8 w1.heap.size row := (hR3.below (by (repeat' (first | (with_reducible exact Below.refl _ _) | (with_reducible assumption) | (with_reducible refine Below.drew ?_) | (with_reducible refine belowDrewN ?_ _) | (with_reducible refine Below.alloc ?_ ?_ _) | (with_reducible refine Below.setCell ?_ ?_ _) | (with_reducible refine belowStep (by assumption) ?_ ?_) | (with_reducible exact Below.size (by assumption)) | go_size)))))
          | (with_reducible show wpList _ _ _ _ _ _; refine step_loadR (w1.heap.size) (row) hR3b (.tmp 4) (o := ⟨some 30, _, _, _, _, _⟩) rfl rfl rfl ?_)
          | (with_reducible show wpList _ _ _ _ _ _; refine step_allocR (o := ⟨some 9, _, _, _, _, _⟩) rfl rfl ?_; intro w10 hR10 hb10 hz10)
          | (with_reducible show wpList _ _ _ _ _ _; refine step_storeR (w9.heap.size) (r2) hR10 HL3.out (.tmp 9) (.tmp 33) rfl rfl rfl rfl ?_; intro w11 hR11 hb11 hz11 hn11)
          | (have hR6b : RowAt w11 w4.heap.size r1 := (hR6.below (by (repeat' (first | (with_reducible exact Below.refl _ _) | (with_reducible assumption) | (with_reducible refine Below.drew ?_) | (with_reducible refine belowDrewN ?_ _) | (with_reducible refine Below.alloc ?_ ?_ _) | (with_reducible refine Below.setCell ?_ ?_ _) | (with_reducible refine belowStep (by assumption) ?_ ?_) | (with_reducible exact Below.size (by assumption)) | go_size)))); (with_reducible show wpList _ _ _ _ _ _; refine step_loadR (w4.heap.size) (r1) hR6b (.tmp 5) (o := ⟨some 35, _, _, _, _, _⟩) rfl rfl rfl ?_))
          | (with_reducible show wpList _ _ _ _ _ _; refine step_loadR (w9.heap.size) (r2) hR11 (.tmp 9) (o := ⟨some 36, _, _, _, _, _⟩) rfl rfl rfl ?_)
          | (with_reducible show wpList _ _ _ _ _ _; refine step_neqR (xs := r1) (ys := r2) HL2.out HL3.out _ _ _ rfl rfl rfl rfl ?_; rw [HNE.out]))
        go_ret2
        exact ⟨rfl, by (repeat' (first | (with_reducible exact Below.refl _ _) | (with_reducible assumption) | (with_reducible refine Below.drew ?_) | (with_reducible refine belowDrewN ?_ _) | (with_reducible refine Below.alloc ?_ ?_ _) | (with_reducible refine Below.setCell ?_ ?_ _) | (with_reducible refine belowStep (by assumption) ?_ ?_) | (with_reducible exact Below.size (by assumption)) | go_size))⟩
    · have hf : facB ((pw (natL xs) : Nat) : Int) = false := by
        cases hx : facB ((pw (natL xs) : Nat) : Int) with
        | false => rfl
        | true => have := (facB_iff _).1 hx; omega
      have HM2 : Hid (∀ w, Calls Try.prog 14 #[.int .i64 ((pw (natL xs) : Nat) : Int)] w (RetLB [] false w)) := Lib.hid fun w => by
        have := HM.out w
        rwa [moL_no hf, hf] at this
      have E := Lib.hid (fm_big hs)
      rw [fm_no E.out, E.out]
      clear HA hb i1 i2 i3 i4 HM hf hs E
      generalize atR (dblR 1 20) (natL xs) = r1 at *
      generalize pw (natL xs) = s at *
      generalize dblR 1 20 = row at *
      go_enter Try.func20, Try.ntmps20
      go_wp2_with (first
        | (go_at_call 47; refine (HD.out _).mono ?_; rintro e w1 ⟨rfl, hb1⟩; have hz1 := hb1.size)
        | (with_reducible show wpList _ _ _ _ _ _; refine step_allocR (o := ⟨some 4, _, _, _, _, _⟩) rfl rfl ?_; intro w2 hR2 hb2 hz2)
        | (with_reducible show wpList _ _ _ _ _ _; refine step_storeR (w1.heap.size) (row) hR2 HL.out (.tmp 4) (.tmp 11) rfl rfl rfl rfl ?_; intro w3 hR3 hb3 hz3 hn3)
        | (with_reducible show wpList _ _ _ _ _ _; refine step_loadR (w1.heap.size) (row) hR3 (.tmp 4) (o := ⟨some 13, _, _, _, _, _⟩) rfl rfl rfl ?_)
        | (go_at_call 48; refine (HA2.out _ (Hxs.out.below (by (repeat' (first | (with_reducible exact Below.refl _ _) | (with_reducible assumption) | (with_reducible refine Below.drew ?_) | (with_reducible refine belowDrewN ?_ _) | (with_reducible refine Below.alloc ?_ ?_ _) | (with_reducible refine Below.setCell ?_ ?_ _) | (with_reducible refine belowStep (by assumption) ?_ ?_) | (with_reducible exact Below.size (by assumption)) | go_size))))).mono ?_; rintro e w4 ⟨rfl, hb4⟩; have hz4 := hb4.size)
        | (with_reducible show wpList _ _ _ _ _ _; refine step_allocR (o := ⟨some 5, _, _, _, _, _⟩) rfl rfl ?_; intro w5 hR5 hb5 hz5)
        | (with_reducible show wpList _ _ _ _ _ _; refine step_storeR (w4.heap.size) (r1) hR5 HL2.out (.tmp 5) (.tmp 16) rfl rfl rfl rfl ?_; intro w6 hR6 hb6 hz6 hn6)
        | (with_reducible show wpList _ _ _ _ _ _; refine step_loadR (w4.heap.size) (r1) hR6 (.tmp 5) (o := ⟨some 20, _, _, _, _, _⟩) rfl rfl rfl ?_)
        | (go_at_call 49; refine (HT.out _).mono ?_; rintro e w7 ⟨rfl, hb7⟩; have hz7 := hb7.size)
        | (go_at_call 14; refine (HM2.out _).mono ?_; rintro e w8 ⟨v8, rfl, ho8, hb8⟩; have hz8 := hb8.size))
      go_ret2
      exact ⟨rfl, by (repeat' (first | (with_reducible exact Below.refl _ _) | (with_reducible assumption) | (with_reducible refine Below.drew ?_) | (with_reducible refine belowDrewN ?_ _) | (with_reducible refine Below.alloc ?_ ?_ _) | (with_reducible refine Below.setCell ?_ ?_ _) | (with_reducible refine belowStep (by assumption) ?_ ?_) | (with_reducible exact Below.size (by assumption)) | go_size))⟩
def mmB (a b : Int) : Bool := facB a && facB b
def mmL (a b : Int) : List Int := if mmB a b = true then moL b else []
def mmZ (a b : Int) : Int := if mmB a b = true then a * b else 0
theorem mm_no {a b : Int} (h : mmB a b = false) : mmL a b = [] ∧ mmZ a b = 0 := by unfold mmL mmZ; rw [h]; exact ⟨rfl, rfl⟩
theorem mm_yes {a b : Int} (h : mmB a b = true) : mmL a b = moL b ∧ mmZ a b = a * b := by unfold mmL mmZ; rw [if_pos h, if_pos h]; exact ⟨rfl, rfl⟩
theorem mmL_len (a b : Int) : (mmL a b).length ≤ 20 := by
  unfold mmL
  split
  · exact moL_len b
  · simp
theorem mul_fit {A B : Nat} (ha : A ≤ 1000000) (hb : B ≤ 1000000) : A * B ≤ 1000000000000 := Nat.le_trans (Nat.mul_le_mul ha hb) (by omega)
set_option maxRecDepth 100000 in
set_option maxHeartbeats 4000000 in
theorem multiplyMarks_any (a b : Int) (w : World) : Calls Try.prog 24 #[.int .i64 a, .int .i64 b] w (RetLIB (mmL a b) (mmZ a b) (mmB a b) w) := by
  have HM := Lib.hid fun (w : World) => marksOf_any b w
  have HI := Lib.hid fun (w : World) => isFactor_any a w
  cases hb : facB b with
  | false =>
    obtain ⟨e1, e2⟩ := mm_no (a := a) (b := b) (by unfold mmB; rw [hb, Bool.and_false])
    have e3 : mmB a b = false := by unfold mmB; rw [hb, Bool.and_false]
    rw [e1, e2, e3]
    rw [hb, moL_no hb] at HM
    clear hb e1 e2 e3
    go_enter Try.func24, Try.ntmps24
    go_wp2_with fail
    refine (HM.out _).mono ?_; rintro e w1 ⟨v1, rfl, ho1, hb1⟩; have hz1 := hb1.size; (try simp only [World.size_alloc, World.size_setCell, World.size_drew, World.heap_drewN] at hz1)
    go_wp2
    go_ret3
    exact ⟨_, rfl, OwnI.empty _ _, by (repeat' (first | (with_reducible exact Below.refl _ _) | (with_reducible assumption) | (with_reducible refine Below.drew ?_) | (with_reducible refine belowDrewN ?_ _) | (with_reducible refine Below.alloc ?_ ?_ _) | (with_reducible refine Below.setCell ?_ ?_ _) | (with_reducible refine belowStep (by assumption) ?_ ?_) | (with_reducible exact Below.size (by assumption)) | go_size))⟩
  | true =>
    cases ha : facB a with
    | false =>
      have e3 : mmB a b = false := by unfold mmB; rw [ha, Bool.false_and]
      obtain ⟨e1, e2⟩ := mm_no e3
      rw [e1, e2, e3]
      rw [hb] at HM
      rw [ha] at HI
      clear hb ha e1 e2 e3
      generalize moL b = ms at *
      go_enter Try.func24, Try.ntmps24
      go_wp2_with fail
      refine (HM.out _).mono ?_; rintro e w1 ⟨v1, rfl, ho1, hb1⟩; have hz1 := hb1.size; (try simp only [World.size_alloc, World.size_setCell, World.size_drew, World.heap_drewN] at hz1)
      go_wp2_with fail
      refine (HI.out _).mono ?_; rintro e w2 ⟨rfl, k2, rfl⟩
      go_wp2
      go_ret3
      exact ⟨_, rfl, OwnI.empty _ _, by (repeat' (first | (with_reducible exact Below.refl _ _) | (with_reducible assumption) | (with_reducible refine Below.drew ?_) | (with_reducible refine belowDrewN ?_ _) | (with_reducible refine Below.alloc ?_ ?_ _) | (with_reducible refine Below.setCell ?_ ?_ _) | (with_reducible refine belowStep (by assumption) ?_ ?_) | (with_reducible exact Below.size (by assumption)) | go_size))⟩
    | true =>
      have e3 : mmB a b = true := by unfold mmB; rw [ha, hb]; rfl
      obtain ⟨e1, e2⟩ := mm_yes e3
      obtain ⟨A, rfl, a1⟩ := facB_nat ha
      obtain ⟨B, rfl, b1⟩ := facB_nat hb
      rw [e1, e2, e3, moL_yes hb]
      rw [hb, moL_yes hb] at HM
      rw [ha] at HI
      have HD := Lib.hid fun (w : World) => doublingsFrom_any A w a1
      have hmm : ∀ x ∈ mk B, x < 20 := fun x hx => mk_mem hx
      have HA3 : Hid (∀ w A' c, Reads w A' (ints (mk B)) → Calls Try.prog 48 #[rowV (dblR A 20), .slice A' (ints (mk B)).length c] w (Ret (.tuple #[rowV (atR (dblR A 20) (mk B)), .bool true]) w)) := Lib.hid fun w A' c h => by
        have hm := mk_at B
        have := at_any (dblR A 20) w (dblR_len (Nat.le_refl _)) A' c (ints (mk B)) h (by rw [ints_len]; have := mk_len B; omega) (In64.of_mem fun x hx => by
          obtain ⟨i, hi, rfl⟩ := List.mem_map.1 hx
          have := mk_mem hi
          omega)
        rwa [atV_yes hm, hm, natL_ints] at this
      have HT : Hid (∀ w, Calls Try.prog 49 #[rowV (atR (dblR A 20) (mk B))] w (Ret (.int .i64 ((A : Int) * (B : Int))) w)) := Lib.hid fun w => by
        have := total_any (atR (dblR A 20) (mk B)) w (atR_len (mk_len B)) (atR_in a1 hmm)
        rwa [sumI_at hmm, mk_pw (by omega), Int.natCast_mul] at this
      have HL3 := Lib.hid (atR_len (row := dblR A 20) (ls := mk B) (mk_len B))
      clear hb ha e1 e2 e3 hmm
      generalize atR (dblR A 20) (mk B) = r2 at *
      generalize dblR A 20 = row at *
      generalize ints (mk B) = ms at *
      generalize (A : Int) * (B : Int) = z at *
      go_enter Try.func24, Try.ntmps24
      go_wp2_with fail
      refine (HM.out _).mono ?_; rintro e w1 ⟨v1, rfl, ho1, hb1⟩; have hz1 := hb1.size; (try simp only [World.size_alloc, World.size_setCell, World.size_drew, World.heap_drewN] at hz1)
      obtain ⟨A1, c1, rfl, hr1⟩ := ho1.form
      go_wp2_with fail
      refine (HI.out _).mono ?_; rintro e w2 ⟨rfl, k2, rfl⟩
      go_wp2_with (first
        | (go_at_call 47; refine (HD.out _).mono ?_; rintro e w3 ⟨rfl, hb3⟩; have hz3 := hb3.size; (try simp only [World.heap_drewN] at hz3))
        | (go_at_call 48; refine (HA3.out _ _ _ (Reads.below (hr1.drewN _) hb3)).mono ?_; rintro e w4 ⟨rfl, hb4⟩; have hz4 := hb4.size)
        | (with_reducible show wpList _ _ _ _ _ _; refine step_allocR (o := ⟨some 9, _, _, _, _, _⟩) rfl rfl ?_; intro w5 hR5 hb5 hz5)
        | (with_reducible show wpList _ _ _ _ _ _; refine step_storeR (w4.heap.size) (r2) hR5 HL3.out (.tmp 9) (.tmp 28) rfl rfl rfl rfl ?_; intro w6 hR6 hb6 hz6 hn6)
        | (with_reducible show wpList _ _ _ _ _ _; refine step_loadR (w4.heap.size) (r2) hR6 (.tmp 9) (o := ⟨some 31, _, _, _, _, _⟩) rfl rfl rfl ?_)
        | (go_at_call 49; refine (HT.out _).mono ?_; rintro e w7 ⟨rfl, hb7⟩; have hz7 := hb7.size))
      go_ret3
      exact ⟨_, rfl, OwnI.below ho1 (by (repeat' (first | (with_reducible exact Below.refl _ _) | (with_reducible assumption) | (with_reducible refine Below.drew ?_) | (with_reducible refine belowDrewN ?_ _) | (with_reducible refine Below.alloc ?_ ?_ _) | (with_reducible refine Below.setCell ?_ ?_ _) | (with_reducible refine belowStep (by assumption) ?_ ?_) | (with_reducible exact Below.size (by assumption)) | go_size))), by (repeat' (first | (with_reducible exact Below.refl _ _) | (with_reducible assumption) | (with_reducible refine Below.drew ?_) | (with_reducible refine belowDrewN ?_ _) | (with_reducible refine Below.alloc ?_ ?_ _) | (with_reducible refine Below.setCell ?_ ?_ _) | (with_reducible refine belowStep (by assumption) ?_ ?_) | (with_reducible exact Below.size (by assumption)) | go_size))⟩
def doB (a n : Int) : Bool := facB a && decide (0 ≤ n) && decide (n ≤ 20)
def doL (a n : Int) : List Int := if doB a n = true then dbl a.toNat n.toNat else []
theorem do_no {a n : Int} (h : doB a n = false) : doL a n = [] := by unfold doL; rw [h]; rfl
theorem do_yes {A N : Nat} (h : doB (A : Int) (N : Int) = true) : doL (A : Int) (N : Int) = dbl A N := by unfold doL; rw [if_pos h]; rfl
theorem do_a {a n : Int} (h : facB a = false) : doB a n = false := by simp [doB, h]
theorem do_n {a n : Int} (h : ¬ (0 ≤ n ∧ n ≤ 20)) : doB a n = false := by
  cases hb : doB a n with
  | false => rfl
  | true =>
    unfold doB at hb
    simp only [Bool.and_eq_true, decide_eq_true_eq] at hb
    exact absurd ⟨hb.1.2, hb.2⟩ h
theorem do_in {a n : Int} (h : facB a = true) (h1 : 0 ≤ n) (h2 : n ≤ 20) : doB a n = true := by simp [doB, h, h1, h2]
theorem doL_len (a n : Int) : (doL a n).length ≤ 20 := by
  unfold doL
  split
  · rename_i h
    unfold doB at h
    simp only [Bool.and_eq_true, decide_eq_true_eq] at h
    rw [dbl_len]
    omega
  · simp
theorem dblR_take {a n : Nat} (h : n ≤ 20) : (dblR a 20).take n = dbl a n := by
  apply List.ext_getElem?
  intro i
  rw [List.getElem?_take]
  by_cases hi : i < n
  · rw [if_pos hi, dblR_at (by omega)]
    unfold dbl
    simp [hi]
  · rw [if_neg hi, List.getElem?_eq_none (by rw [dbl_len]; omega)]
theorem Reads.row {w : World} {g : Nat} {xs : List Int} (h : RowAt w g xs) : Reads w (some ⟨g, 0, none⟩) xs := fun _ => ⟨g, 0, rfl, h.lt, fun k x hk => by rw [Nat.zero_add]; exact h.cell hk⟩
set_option maxRecDepth 100000 in
set_option maxHeartbeats 4000000 in
theorem doublingsOf_any (a n : Int) (w : World) : Calls Try.prog 22 #[.int .i64 a, .int .i64 n] w (RetLB (doL a n) (doB a n) w) := by
  have HI := Lib.hid fun (w : World) => isFactor_any a w
  cases ha : facB a with
  | false =>
    have E := Lib.hid (do_a (n := n) ha)
    rw [ha] at HI
    clear ha
    rw [do_no E.out, E.out]
    go_enter Try.func22, Try.ntmps22
    go_wp2_with fail
    refine (HI.out _).mono ?_; rintro e w1 ⟨rfl, k1, rfl⟩
    go_wp2
    go_ret2
    exact ⟨_, rfl, OwnI.empty _ _, by (repeat' (first | (with_reducible exact Below.refl _ _) | (with_reducible assumption) | (with_reducible refine Below.drew ?_) | (with_reducible refine belowDrewN ?_ _) | (with_reducible refine Below.alloc ?_ ?_ _) | (with_reducible refine Below.setCell ?_ ?_ _) | (with_reducible refine belowStep (by assumption) ?_ ?_) | (with_reducible exact Below.size (by assumption)) | go_size))⟩
  | true =>
    by_cases h1 : 0 ≤ n
    · by_cases h2 : n ≤ 20
      · obtain ⟨A, rfl, a1⟩ := facB_nat ha
        obtain ⟨N, rfl⟩ := Int.eq_ofNat_of_zero_le h1
        have hd := do_in ha h1 h2
        rw [do_yes hd, hd]
        rw [ha] at HI
        have hn1 : ¬ (N : Int) < 0 := by omega
        have hn2 : ¬ (20 : Int) < (N : Int) := by omega
        have hn3 : N ≤ 20 := by omega
        have HD := Lib.hid fun (w : World) => doublingsFrom_any A w a1
        have HL := Lib.hid (dblR_len (a := A) (Nat.le_refl 20))
        have HTK := Lib.hid (dblR_take (a := A) hn3)
        have hdl := dbl_len A N
        have HC : Hid (∀ w g, RowAt w g (dblR A 20) → Calls Try.prog 52 #[.slice (some ⟨g, 0, none⟩) N 20] w (RetL (dbl A N) w)) := Lib.hid fun w g h => by
          refine (Try.slices_Clone_int g 0 N 20 (dblR A 20) w (by rw [HL.out]; exact hn3) (by omega) (fun j hj => ?_)).mono ?_
          · rw [Nat.zero_add, h.cell (List.getElem?_eq_getElem hj)]
            simp [List.getD, List.getElem?_eq_getElem hj]
          · rintro e w' ⟨v, rfl, ho, _, hb⟩
            rw [HTK.out] at ho
            refine ⟨v, rfl, ?_, hb⟩
            unfold OwnI
            rw [hdl]
            exact ho
        clear ha hd HTK hdl
        generalize dbl A N = ds at *
        generalize dblR A 20 = row at *
        go_enter Try.func22, Try.ntmps22
        go_wp2_with fail
        refine (HI.out _).mono ?_; rintro e w1 ⟨rfl, k1, rfl⟩
        go_wp2_with (first
          | (go_at_call 47; refine (HD.out _).mono ?_; rintro e w3 ⟨rfl, hb3⟩; have hz3 := hb3.size; (try simp only [World.heap_drewN] at hz3))
          | (with_reducible show wpList _ _ _ _ _ _; refine step_allocR (o := ⟨some 6, _, _, _, _, _⟩) rfl rfl ?_; intro w5 hR5 hb5 hz5)
          | (with_reducible show wpList _ _ _ _ _ _; refine step_storeR (w3.heap.size) (row) hR5 HL.out (.tmp 6) (.tmp 19) rfl rfl rfl rfl ?_; intro w6 hR6 hb6 hz6 hn6)
          | (go_at_call 52; refine (HC.out _ _ hR6).mono ?_; rintro e w7 ⟨v7, rfl, ho7, hb7⟩; have hz7 := hb7.size))
        go_ret2
        exact ⟨_, rfl, ho7.mono (by (first | (go_size; done) | ((try simp only [World.size_alloc, World.size_setCell, World.size_drew, World.heap_drewN]); omega))), by (repeat' (first | (with_reducible exact Below.refl _ _) | (with_reducible assumption) | (with_reducible refine Below.drew ?_) | (with_reducible refine belowDrewN ?_ _) | (with_reducible refine Below.alloc ?_ ?_ _) | (with_reducible refine Below.setCell ?_ ?_ _) | (with_reducible refine belowStep (by assumption) ?_ ?_) | (with_reducible exact Below.size (by assumption)) | go_size))⟩
      · have E := Lib.hid (do_n (a := a) (n := n) (fun h => h2 h.2))
        have hn1 : ¬ n < 0 := by omega
        have hn2 : 20 < n := by omega
        rw [ha] at HI
        clear ha
        rw [do_no E.out, E.out]
        go_enter Try.func22, Try.ntmps22
        go_wp2_with fail
        refine (HI.out _).mono ?_; rintro e w1 ⟨rfl, k1, rfl⟩
        go_wp2
        go_ret2
        exact ⟨_, rfl, OwnI.empty _ _, by (repeat' (first | (with_reducible exact Below.refl _ _) | (with_reducible assumption) | (with_reducible refine Below.drew ?_) | (with_reducible refine belowDrewN ?_ _) | (with_reducible refine Below.alloc ?_ ?_ _) | (with_reducible refine Below.setCell ?_ ?_ _) | (with_reducible refine belowStep (by assumption) ?_ ?_) | (with_reducible exact Below.size (by assumption)) | go_size))⟩
    · have E := Lib.hid (do_n (a := a) (n := n) (fun h => h1 h.1))
      have hn1 : n < 0 := by omega
      rw [ha] at HI
      clear ha
      rw [do_no E.out, E.out]
      go_enter Try.func22, Try.ntmps22
      go_wp2_with fail
      refine (HI.out _).mono ?_; rintro e w1 ⟨rfl, k1, rfl⟩
      go_wp2
      go_ret2
      exact ⟨_, rfl, OwnI.empty _ _, by (repeat' (first | (with_reducible exact Below.refl _ _) | (with_reducible assumption) | (with_reducible refine Below.drew ?_) | (with_reducible refine belowDrewN ?_ _) | (with_reducible refine Below.alloc ?_ ?_ _) | (with_reducible refine Below.setCell ?_ ?_ _) | (with_reducible refine belowStep (by assumption) ?_ ?_) | (with_reducible exact Below.size (by assumption)) | go_size))⟩
end Go.Proofs.Ythkchhjidihkpaa
