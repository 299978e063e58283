
/-
  Contracts of the merge of all that can be, in the program and in the model.
-/
import Derived.Test.YtbjblkfibinenacMergP
import Derived.Test.YtbjblkfibinenacCln
namespace Go.Proofs.Ytbjblkfibinenac
open Go.RowKit
theorem clone_any (w : World) (Axs : Option Addr) (cxs : Nat) (xs : List Int) (hxs : Reads w Axs xs) (lxs : xs.length ≤ 1048576) : Calls Try.prog 94 #[.slice Axs xs.length cxs] w (RetL xs w) := by
  cases xs with
  | nil =>
    cases Axs with
    | none =>
      refine (Try.slices_Clone_int_nil 0 cxs w).mono ?_
      rintro e w' ⟨rfl, rfl⟩
      exact ⟨_, rfl, OwnI.empty _ _, Below.refl _ _⟩
    | some a =>
      refine (Try.slices_Clone_int_zero a cxs w).mono ?_
      rintro e w' ⟨v, rfl, ho, _, hb⟩
      exact ⟨v, rfl, ho, hb⟩
  | cons x xs =>
    obtain ⟨b, o, rfl, hb, hc⟩ := hxs (by simp)
    refine (Try.slices_Clone_int b o (x :: xs).length cxs (x :: xs) w (Nat.le_refl _) (by omega) (fun j hj => ?_)).mono ?_
    · have := hc j _ (List.getElem?_eq_getElem hj)
      rw [this]
      simp [List.getD, List.getElem?_eq_getElem hj]
    · rintro e w' ⟨v, rfl, ho, _, hb⟩
      rw [List.take_length] at ho
      exact ⟨v, rfl, ho, hb⟩
set_option maxRecDepth 100000 in
set_option maxHeartbeats 4000000 in
theorem mergeFirst_any (w : World) (Axs : Option Addr) (cxs : Nat) (xs : List Int) (hxs : Reads w Axs xs) (lxs : xs.length ≤ 1048576) (hx : expB xs = true) : Calls Try.prog 95 #[.slice Axs xs.length cxs] w (RetLB ((mf xs).getD []) (mf xs).isSome w) := by
  have Hxs := Lib.hid hxs
  have hlen := expB_len hx
  have H64 : Hid (In64 xs) := Lib.hid (In64.of_mem fun z hz => by have := expB_small hx z hz; omega)
  clear hxs hx
  go_enter Try.func95, Try.ntmps95
  go_wp2
  go_loopw [10] (fun v10 wr => ∃ i : Nat, i ≤ xs.length ∧ v10 = .int .i64 (i : Int) ∧ mf xs = mfI xs (xs.length - i) i ∧ Below w.heap.size w wr) (fun v10 _ => xs.length - (intOf v10).toNat)
  case atStart => exact ⟨0, Nat.zero_le _, rfl, rfl, by (repeat' (first | (with_reducible exact Below.refl _ _) | (with_reducible assumption) | (with_reducible refine Below.drew ?_) | (with_reducible refine belowDrewN ?_ _) | (with_reducible refine Below.alloc ?_ ?_ _) | (with_reducible refine Below.setCell ?_ ?_ _) | (with_reducible refine belowStep (by assumption) ?_ ?_) | (with_reducible exact Below.size (by assumption)) | go_size))⟩
  case round =>
    obtain ⟨i, hi, rfl, hm, hbr⟩ := hrel
    have Hm := Lib.hid hm
    have hzr := hbr.size
    clear hm
    by_cases hlt : i < xs.length
    · go_wp2
      go_loopw [5] (fun v5 wq => ∃ j : Nat, i + 1 ≤ j ∧ j ≤ xs.length ∧ v5 = .int .i64 (j : Int) ∧ mfJ xs i (xs.length - (i + 1)) (i + 1) = mfJ xs i (xs.length - j) j ∧ Below wr.heap.size wr wq) (fun v5 _ => xs.length - (intOf v5).toNat)
      case atStart => exact ⟨i + 1, Nat.le_refl _, by omega, by go_num, rfl, by (repeat' (first | (with_reducible exact Below.refl _ _) | (with_reducible assumption) | (with_reducible refine Below.drew ?_) | (with_reducible refine belowDrewN ?_ _) | (with_reducible refine Below.alloc ?_ ?_ _) | (with_reducible refine Below.setCell ?_ ?_ _) | (with_reducible refine belowStep (by assumption) ?_ ?_) | (with_reducible exact Below.size (by assumption)) | go_size))⟩
      case round =>
        obtain ⟨j, hj1, hj2, rfl, hmj, hbq⟩ := hrel
        have Hmj := Lib.hid hmj
        have hzq := hbq.size
        have hbw : Below w.heap.size w _ := hbr.trans (hbq.mono hzr)
        clear hmj
        by_cases hjt : j < xs.length
        · have HP := Lib.hid fun (w : World) (h : Reads w Axs xs) => mergePair_any w (i : Int) (j : Int) ⟨by omega, by omega⟩ ⟨by omega, by omega⟩ Axs cxs xs h lxs H64.out
          cases hb : mpB xs i j with
          | true =>
            have E : Hid (mf xs = some (mpL xs i j)) := Lib.hid (by
              rw [Hm.out, show xs.length - i = (xs.length - i - 1) + 1 from by omega, mfI_some (ys := mpL xs i j)]
              rw [Hmj.out, show xs.length - j = (xs.length - j - 1) + 1 from by omega, mfJ_yes hb])
            rw [hb] at HP
            go_wp2_with fail
            refine (HP.out _ (Hxs.out.below (by (repeat' (first | (with_reducible exact Below.refl _ _) | (with_reducible assumption) | (with_reducible refine Below.drew ?_) | (with_reducible refine belowDrewN ?_ _) | (with_reducible refine Below.alloc ?_ ?_ _) | (with_reducible refine Below.setCell ?_ ?_ _) | (with_reducible refine belowStep (by assumption) ?_ ?_) | (with_reducible exact Below.size (by assumption)) | go_size))))).mono ?_; rintro e w3 ⟨v3, rfl, ho3, hb3⟩
            have Ho3 := Lib.hid ho3
            have hz3 := hb3.size
            clear ho3
            go_wp2
            go_ret2
            rw [E.out]
            exact ⟨_, rfl, Ho3.out.mono (by (first | (go_size; done) | ((try simp only [World.size_alloc, World.size_setCell, World.size_drew, World.heap_drewN]); omega))), by (repeat' (first | (with_reducible exact Below.refl _ _) | (with_reducible assumption) | (with_reducible refine Below.drew ?_) | (with_reducible refine belowDrewN ?_ _) | (with_reducible refine Below.alloc ?_ ?_ _) | (with_reducible refine Below.setCell ?_ ?_ _) | (with_reducible refine belowStep (by assumption) ?_ ?_) | (with_reducible exact Below.size (by assumption)) | go_size))⟩
          | false =>
            have E : Hid (mfJ xs i (xs.length - (i + 1)) (i + 1) = mfJ xs i (xs.length - (j + 1)) (j + 1)) := Lib.hid (by
              rw [Hmj.out, show xs.length - j = (xs.length - (j + 1)) + 1 from by omega, mfJ_no hb])
            rw [hb] at HP
            go_wp2_with fail
            refine (HP.out _ (Hxs.out.below (by (repeat' (first | (with_reducible exact Below.refl _ _) | (with_reducible assumption) | (with_reducible refine Below.drew ?_) | (with_reducible refine belowDrewN ?_ _) | (with_reducible refine Below.alloc ?_ ?_ _) | (with_reducible refine Below.setCell ?_ ?_ _) | (with_reducible refine belowStep (by assumption) ?_ ?_) | (with_reducible exact Below.size (by assumption)) | go_size))))).mono ?_; rintro e w3 ⟨v3, rfl, ho3, hb3⟩
            have hz3 := hb3.size
            clear ho3
            go_wp2
            go_roundw
            case rel => exact ⟨j + 1, by omega, by omega, by go_num, E.out, by (repeat' (first | (with_reducible exact Below.refl _ _) | (with_reducible assumption) | (with_reducible refine Below.drew ?_) | (with_reducible refine belowDrewN ?_ _) | (with_reducible refine Below.alloc ?_ ?_ _) | (with_reducible refine Below.setCell ?_ ?_ _) | (with_reducible refine belowStep (by assumption) ?_ ?_) | (with_reducible exact Below.size (by assumption)) | go_size))⟩
            case measure => simp [intOf]; omega
        · obtain rfl : j = xs.length := by omega
          have E : Hid (mf xs = mfI xs (xs.length - (i + 1)) (i + 1)) := Lib.hid (by
            rw [Hm.out, show xs.length - i = (xs.length - (i + 1)) + 1 from by omega, mfI_none]
            rw [Hmj.out, Nat.sub_self]
            rfl)
          go_wp2
          go_roundw
          case rel => exact ⟨i + 1, by omega, by go_num, E.out, by (repeat' (first | (with_reducible exact Below.refl _ _) | (with_reducible assumption) | (with_reducible refine Below.drew ?_) | (with_reducible refine belowDrewN ?_ _) | (with_reducible refine Below.alloc ?_ ?_ _) | (with_reducible refine Below.setCell ?_ ?_ _) | (with_reducible refine belowStep (by assumption) ?_ ?_) | (with_reducible exact Below.size (by assumption)) | go_size))⟩
          case measure => simp [intOf]; omega
    · obtain rfl : i = xs.length := by omega
      have E : Hid (mf xs = none) := Lib.hid (by rw [Hm.out, Nat.sub_self]; rfl)
      go_wp2
      go_ret2
      rw [E.out]
      exact ⟨_, rfl, OwnI.empty _ _, by (repeat' (first | (with_reducible exact Below.refl _ _) | (with_reducible assumption) | (with_reducible refine Below.drew ?_) | (with_reducible refine belowDrewN ?_ _) | (with_reducible refine Below.alloc ?_ ?_ _) | (with_reducible refine Below.setCell ?_ ?_ _) | (with_reducible refine belowStep (by assumption) ?_ ?_) | (with_reducible exact Below.size (by assumption)) | go_size))⟩
set_option maxRecDepth 100000 in
set_option maxHeartbeats 4000000 in
theorem meMerge_any (w : World) (Axs : Option Addr) (cxs : Nat) (xs : List Int) (hxs : Reads w Axs xs) (lxs : xs.length ≤ 1048576) (hx : expB xs = true) : Calls Try.prog 93 #[.slice Axs xs.length cxs] w (RetRB ((mf xs).getD []) (mf xs).isSome w) := by
  have Hxs := Lib.hid hxs
  have hlen := expB_len hx
  have HX := Lib.hid hx
  clear hxs hx
  go_enter Try.func93, Try.ntmps93
  go_wp2
  go_loopw [10] (fun v10 wr => ∃ i : Nat, i ≤ xs.length ∧ v10 = .int .i64 (i : Int) ∧ mf xs = mfI xs (xs.length - i) i ∧ Below w.heap.size w wr) (fun v10 _ => xs.length - (intOf v10).toNat)
  case atStart => exact ⟨0, Nat.zero_le _, rfl, rfl, by (repeat' (first | (with_reducible exact Below.refl _ _) | (with_reducible assumption) | (with_reducible refine Below.drew ?_) | (with_reducible refine belowDrewN ?_ _) | (with_reducible refine Below.alloc ?_ ?_ _) | (with_reducible refine Below.setCell ?_ ?_ _) | (with_reducible refine belowStep (by assumption) ?_ ?_) | (with_reducible exact Below.size (by assumption)) | go_size))⟩
  case round =>
    obtain ⟨i, hi, rfl, hm, hbr⟩ := hrel
    have Hm := Lib.hid hm
    have hzr := hbr.size
    clear hm
    by_cases hlt : i < xs.length
    · go_wp2
      go_loopw [5] (fun v5 wq => ∃ j : Nat, i + 1 ≤ j ∧ j ≤ xs.length ∧ v5 = .int .i64 (j : Int) ∧ mfJ xs i (xs.length - (i + 1)) (i + 1) = mfJ xs i (xs.length - j) j ∧ Below wr.heap.size wr wq) (fun v5 _ => xs.length - (intOf v5).toNat)
      case atStart => exact ⟨i + 1, Nat.le_refl _, by omega, by go_num, rfl, by (repeat' (first | (with_reducible exact Below.refl _ _) | (with_reducible assumption) | (with_reducible refine Below.drew ?_) | (with_reducible refine belowDrewN ?_ _) | (with_reducible refine Below.alloc ?_ ?_ _) | (with_reducible refine Below.setCell ?_ ?_ _) | (with_reducible refine belowStep (by assumption) ?_ ?_) | (with_reducible exact Below.size (by assumption)) | go_size))⟩
      case round =>
        obtain ⟨j, hj1, hj2, rfl, hmj, hbq⟩ := hrel
        have Hmj := Lib.hid hmj
        have hzq := hbq.size
        have hbw : Below w.heap.size w _ := hbr.trans (hbq.mono hzr)
        clear hmj
        by_cases hjt : j < xs.length
        · have HP := Lib.hid fun (w : World) (h : Reads w Axs xs) => spec_mergePair_in w i j Axs cxs xs h lxs HX.out (by omega) hjt
          cases hb : mpB xs i j with
          | true =>
            have E : Hid (mf xs = some (mpL xs i j)) := Lib.hid (by
              rw [Hm.out, show xs.length - i = (xs.length - i - 1) + 1 from by omega, mfI_some (ys := mpL xs i j)]
              rw [Hmj.out, show xs.length - j = (xs.length - j - 1) + 1 from by omega, mfJ_yes hb])
            rw [hb] at HP
            go_wp2_with fail
            refine (HP.out _ (Hxs.out.below (by (repeat' (first | (with_reducible exact Below.refl _ _) | (with_reducible assumption) | (with_reducible refine Below.drew ?_) | (with_reducible refine belowDrewN ?_ _) | (with_reducible refine Below.alloc ?_ ?_ _) | (with_reducible refine Below.setCell ?_ ?_ _) | (with_reducible refine belowStep (by assumption) ?_ ?_) | (with_reducible exact Below.size (by assumption)) | go_size))))).mono ?_; rintro e w3 ⟨A3, c3, rfl, hr3, hb3⟩
            have Hr3 := Lib.hid hr3
            have hz3 := hb3.size
            clear hr3
            go_wp2
            go_ret2
            rw [E.out]
            exact ⟨_, _, rfl, Hr3.out, by (repeat' (first | (with_reducible exact Below.refl _ _) | (with_reducible assumption) | (with_reducible refine Below.drew ?_) | (with_reducible refine belowDrewN ?_ _) | (with_reducible refine Below.alloc ?_ ?_ _) | (with_reducible refine Below.setCell ?_ ?_ _) | (with_reducible refine belowStep (by assumption) ?_ ?_) | (with_reducible exact Below.size (by assumption)) | go_size))⟩
          | false =>
            have E : Hid (mfJ xs i (xs.length - (i + 1)) (i + 1) = mfJ xs i (xs.length - (j + 1)) (j + 1)) := Lib.hid (by
              rw [Hmj.out, show xs.length - j = (xs.length - (j + 1)) + 1 from by omega, mfJ_no hb])
            rw [hb] at HP
            go_wp2_with fail
            refine (HP.out _ (Hxs.out.below (by (repeat' (first | (with_reducible exact Below.refl _ _) | (with_reducible assumption) | (with_reducible refine Below.drew ?_) | (with_reducible refine belowDrewN ?_ _) | (with_reducible refine Below.alloc ?_ ?_ _) | (with_reducible refine Below.setCell ?_ ?_ _) | (with_reducible refine belowStep (by assumption) ?_ ?_) | (with_reducible exact Below.size (by assumption)) | go_size))))).mono ?_; rintro e w3 ⟨A3, c3, rfl, hr3, hb3⟩
            have hz3 := hb3.size
            clear hr3
            go_wp2
            go_roundw
            case rel => exact ⟨j + 1, by omega, by omega, by go_num, E.out, by (repeat' (first | (with_reducible exact Below.refl _ _) | (with_reducible assumption) | (with_reducible refine Below.drew ?_) | (with_reducible refine belowDrewN ?_ _) | (with_reducible refine Below.alloc ?_ ?_ _) | (with_reducible refine Below.setCell ?_ ?_ _) | (with_reducible refine belowStep (by assumption) ?_ ?_) | (with_reducible exact Below.size (by assumption)) | go_size))⟩
            case measure => simp [intOf]; omega
        · obtain rfl : j = xs.length := by omega
          have E : Hid (mf xs = mfI xs (xs.length - (i + 1)) (i + 1)) := Lib.hid (by
            rw [Hm.out, show xs.length - i = (xs.length - (i + 1)) + 1 from by omega, mfI_none]
            rw [Hmj.out, Nat.sub_self]
            rfl)
          go_wp2
          go_roundw
          case rel => exact ⟨i + 1, by omega, by go_num, E.out, by (repeat' (first | (with_reducible exact Below.refl _ _) | (with_reducible assumption) | (with_reducible refine Below.drew ?_) | (with_reducible refine belowDrewN ?_ _) | (with_reducible refine Below.alloc ?_ ?_ _) | (with_reducible refine Below.setCell ?_ ?_ _) | (with_reducible refine belowStep (by assumption) ?_ ?_) | (with_reducible exact Below.size (by assumption)) | go_size))⟩
          case measure => simp [intOf]; omega
    · obtain rfl : i = xs.length := by omega
      have E : Hid (mf xs = none) := Lib.hid (by rw [Hm.out, Nat.sub_self]; rfl)
      go_wp2
      go_ret2
      rw [E.out]
      exact ⟨none, 0, rfl, Reads.nil, by (repeat' (first | (with_reducible exact Below.refl _ _) | (with_reducible assumption) | (with_reducible refine Below.drew ?_) | (with_reducible refine belowDrewN ?_ _) | (with_reducible refine Below.alloc ?_ ?_ _) | (with_reducible refine Below.setCell ?_ ?_ _) | (with_reducible refine belowStep (by assumption) ?_ ?_) | (with_reducible exact Below.size (by assumption)) | go_size))⟩
end Go.Proofs.Ytbjblkfibinenac
