
/-
  For all bytes: a fraction and a list are drawn; the Pierce list of the fraction is the model's, rises and gives the fraction back, and a drawn Pierce list is got back from its fraction. No condition.
-/
import Derived.Test.YtpfpekfpaknlgaaLawK
import Derived.Test.YtpfpekfpaknlgaaDrawQ
import Derived.Test.YtpfpekfpaknlgaaShell
import Derived.Test.YtpfpekfpaknlgaaPieL
namespace Go.Proofs.Ytpfpekfpaknlgaa
open Go.ChangeShapes Go.WideShapes Go.ChangeAt Go.RowKit Go.Joins Go.Deep
theorem RetQ.retL {v : Value} {w : World} {e : Ending} {w' : World} (h : RetQ v w e w') : Ret v w e w' := by
  obtain ⟨rfl, k, rfl⟩ := h
  exact ⟨rfl, by (repeat' (first | (with_reducible exact Below.refl _ _) | (with_reducible assumption) | (with_reducible refine Below.drew ?_) | (with_reducible refine belowDrewN ?_ _) | (with_reducible refine Below.alloc ?_ ?_ _) | (with_reducible refine Below.setCell ?_ ?_ _) | (with_reducible refine belowStep (by assumption) ?_ ?_) | (with_reducible exact Below.size (by assumption)) | go_size))⟩
set_option maxRecDepth 100000 in
set_option maxHeartbeats 32000000 in
theorem FnPierceLists_walk (w : World) (A : Option Addr) (c n : Nat) (B : Option Addr) (d m' : Nat) (hA : ReadsB w A n ∧ n ≤ 9223372036854775807) (hB : ReadsB w B m' ∧ m' ≤ 9223372036854775807) :
    Calls Try.prog 4 #[.slice A n c, .slice B m' d] w (Ret (.bool true) w) := by
  obtain ⟨hA, hn⟩ := hA
  obtain ⟨hB, hm'⟩ := hB
  have HA := Lib.hid hA
  have HB := Lib.hid hB
  clear hA hB
  cases hbig : bigB n m' with
  | true =>
    go_enter Try.func4, Try.ntmps4
    go_wp2_with fail
    refine (big_any _ _ _ _ _ _ _ hn hm').mono ?_; rintro e w1 ⟨rfl, k1, rfl⟩
    go_wp2
    go_ret
    exact ⟨rfl, by (repeat' (first | (with_reducible exact Below.refl _ _) | (with_reducible assumption) | (with_reducible refine Below.drew ?_) | (with_reducible refine belowDrewN ?_ _) | (with_reducible refine Below.alloc ?_ ?_ _) | (with_reducible refine Below.setCell ?_ ?_ _) | (with_reducible refine belowStep (by assumption) ?_ ?_) | (with_reducible exact Below.size (by assumption)) | go_size))⟩
  | false =>
    have hn2 : n ≤ 1048576 ∧ m' ≤ 1048576 := by
      simp only [bigB, Bool.or_eq_false_iff, decide_eq_false_iff_not] at hbig
      omega
    go_enter Try.func4, Try.ntmps4
    go_wp2_with fail
    refine (big_any _ _ _ _ _ _ _ hn hm').mono ?_; rintro e w1 ⟨rfl, k1, rfl⟩
    go_wp2_with fail
    refine (drawPierceOf_any _ A n c (HA.out.below (by (repeat' (first | (with_reducible exact Below.refl _ _) | (with_reducible assumption) | (with_reducible refine Below.drew ?_) | (with_reducible refine belowDrewN ?_ _) | (with_reducible refine Below.alloc ?_ ?_ _) | (with_reducible refine Below.setCell ?_ ?_ _) | (with_reducible refine belowStep (by assumption) ?_ ?_) | (with_reducible exact Below.size (by assumption)) | go_size)))) hn2.1).mono ?_; rintro e w2 ⟨a, b, rfl, ha, hb, hb2⟩
    have hz2 := hb2.size
    (try simp only [World.heap_drewN] at hz2)
    clear hbig
    have TG := Lib.hid (TwoAt.new w2 (a) (b) 25)
    obtain ⟨oG1, oG2, oG3, oG4, oG5⟩ := TG.out
    go_wp2_with fail
    refine (pierceOf_any a b _ ha hb).mono ?_; rintro e w5 ⟨v5, rfl, ho5, hb5⟩; have hz5 := hb5.size; (try simp only [World.size_alloc, World.size_setCell, World.size_drew, World.heap_drewN] at hz5)
    clear oG1 oG2 oG3 oG4 oG5
    have TG := Lib.hid (TG.out.below hb5)
    obtain ⟨A5, c5, rfl, hr5⟩ := ho5.form
    have HR5 := Lib.hid hr5
    clear ho5 hr5
    obtain ⟨oG1, oG2, oG3, oG4, oG5⟩ := TG.out
    go_wp2_with fail
    refine (spec_pierceOf_any a b _).mono ?_; rintro e w6 ⟨A6, c6, rfl, hr6, hb6⟩; have hz6 := hb6.size; (try simp only [World.size_alloc, World.size_setCell, World.size_drew, World.heap_drewN] at hz6)
    clear oG1 oG2 oG3 oG4 oG5
    have TG := Lib.hid (TG.out.below hb6)
    have HR6 := Lib.hid hr6
    have HR5 := Lib.hid (HR5.out.below hb6)
    have hxl := pieO_len a b
    clear hr6
    obtain ⟨oG1, oG2, oG3, oG4, oG5⟩ := TG.out
    go_wp2_with fail
    refine ((pSame_same _ _ _ _ _ _ HR5.out HR6.out (by omega)).mono fun _ _ h => h.retL).mono ?_; rintro e w7 ⟨rfl, hb7⟩
    have hz7 := hb7.size
    clear oG1 oG2 oG3 oG4 oG5
    have TG := Lib.hid (TG.out.below hb7)
    have HR7 := Lib.hid (HR5.out.below hb7)
    have hbw7 : Below w.heap.size w w7 := by (repeat' (first | (with_reducible exact Below.refl _ _) | (with_reducible assumption) | (with_reducible refine Below.drew ?_) | (with_reducible refine belowDrewN ?_ _) | (with_reducible refine Below.alloc ?_ ?_ _) | (with_reducible refine Below.setCell ?_ ?_ _) | (with_reducible refine belowStep (by assumption) ?_ ?_) | (with_reducible exact Below.size (by assumption)) | go_size))
    clear HR6 HR5
    obtain ⟨oG1, oG2, oG3, oG4, oG5⟩ := TG.out
    go_wp2_with fail
    refine (drawFromPierce_any _ B m' d ((HB.out.below hbw7).below (by (repeat' (first | (with_reducible exact Below.refl _ _) | (with_reducible assumption) | (with_reducible refine Below.drew ?_) | (with_reducible refine belowDrewN ?_ _) | (with_reducible refine Below.alloc ?_ ?_ _) | (with_reducible refine Below.setCell ?_ ?_ _) | (with_reducible refine belowStep (by assumption) ?_ ?_) | (with_reducible exact Below.size (by assumption)) | go_size)))) hn2.2).mono ?_; rintro e w8 ⟨A8, c8, zs, rfl, hr8, hl8, h64, hb8⟩
    have hz8 := hb8.size
    (try simp only [World.size_alloc, World.heap_drewN] at hz8)
    clear oG1 oG2 oG3 oG4 oG5
    have TG := Lib.hid (TG.out.below hb8)
    have HZ := Lib.hid hr8
    have Z64 := Lib.hid (In64.of_mem h64)
    have HR8 := Lib.hid (HR7.out.below hb8)
    have hzl : zs.length ≤ 1048576 := by omega
    clear hr8 h64 HR7
    obtain ⟨oG1, oG2, oG3, oG4, oG5⟩ := TG.out
    go_wp2_with fail
    refine (fromPierce_any _ _ _ _ HZ.out hzl Z64.out).mono ?_; rintro e w9 ⟨rfl, hb9⟩; have hz9 := hb9.size; (try simp only [World.size_alloc, World.size_setCell, World.size_drew, World.heap_drewN] at hz9)
    clear oG1 oG2 oG3 oG4 oG5
    have TG := Lib.hid (TG.out.below hb9)
    have HZ := Lib.hid (HZ.out.below hb9)
    have HR9 := Lib.hid (HR8.out.below hb9)
    clear HR8
    have TH := Lib.hid (TwoAt.new w9 (pieN zs) (pieD zs) 25)
    have TG := Lib.hid (TG.out.below ((Below.refl _ _).alloc (Nat.le_refl _) (.cells #[.int .i64 (pieN zs), .int .i64 (pieD zs)] 25)))
    go_wp2_with fail
    refine (spec_fromPierce_any _ _ _ _ (HZ.out.below (by (repeat' (first | (with_reducible exact Below.refl _ _) | (with_reducible assumption) | (with_reducible refine Below.drew ?_) | (with_reducible refine belowDrewN ?_ _) | (with_reducible refine Below.alloc ?_ ?_ _) | (with_reducible refine Below.setCell ?_ ?_ _) | (with_reducible refine belowStep (by assumption) ?_ ?_) | (with_reducible exact Below.size (by assumption)) | go_size)))) hzl).mono ?_; rintro e w10 ⟨rfl, hb10⟩; have hz10 := hb10.size; (try simp only [World.size_alloc, World.size_setCell, World.size_drew, World.heap_drewN] at hz10)
    have TG := Lib.hid (TG.out.below hb10)
    have TH := Lib.hid (TH.out.below hb10)
    have HZ := Lib.hid (HZ.out.below (w' := w10) (by (repeat' (first | (with_reducible exact Below.refl _ _) | (with_reducible assumption) | (with_reducible refine Below.drew ?_) | (with_reducible refine belowDrewN ?_ _) | (with_reducible refine Below.alloc ?_ ?_ _) | (with_reducible refine Below.setCell ?_ ?_ _) | (with_reducible refine belowStep (by assumption) ?_ ?_) | (with_reducible exact Below.size (by assumption)) | go_size))))
    have HR10 := Lib.hid (HR9.out.below (w' := w10) (by (repeat' (first | (with_reducible exact Below.refl _ _) | (with_reducible assumption) | (with_reducible refine Below.drew ?_) | (with_reducible refine belowDrewN ?_ _) | (with_reducible refine Below.alloc ?_ ?_ _) | (with_reducible refine Below.setCell ?_ ?_ _) | (with_reducible refine belowStep (by assumption) ?_ ?_) | (with_reducible exact Below.size (by assumption)) | go_size))))
    clear HR9
    have TI := Lib.hid (TwoAt.new w10 (pieN zs) (pieD zs) 25)
    have TG := Lib.hid (TG.out.below ((Below.refl _ _).alloc (Nat.le_refl _) (.cells #[.int .i64 (pieN zs), .int .i64 (pieD zs)] 25)))
    have TH := Lib.hid (TH.out.below ((Below.refl _ _).alloc (Nat.le_refl _) (.cells #[.int .i64 (pieN zs), .int .i64 (pieD zs)] 25)))
    go_wp2_with fail
    refine (isPierce_any _ _ _ _ (HZ.out.below (by (repeat' (first | (with_reducible exact Below.refl _ _) | (with_reducible assumption) | (with_reducible refine Below.drew ?_) | (with_reducible refine belowDrewN ?_ _) | (with_reducible refine Below.alloc ?_ ?_ _) | (with_reducible refine Below.setCell ?_ ?_ _) | (with_reducible refine belowStep (by assumption) ?_ ?_) | (with_reducible exact Below.size (by assumption)) | go_size)))) hzl Z64.out).mono ?_; rintro e w11 ⟨rfl, hb11⟩; have hz11 := hb11.size; (try simp only [World.size_alloc, World.size_setCell, World.size_drew, World.heap_drewN] at hz11)
    have TG := Lib.hid (TG.out.below hb11)
    have TH := Lib.hid (TH.out.below hb11)
    have TI := Lib.hid (TI.out.below hb11)
    have HZ := Lib.hid (HZ.out.below (w' := w11) (by (repeat' (first | (with_reducible exact Below.refl _ _) | (with_reducible assumption) | (with_reducible refine Below.drew ?_) | (with_reducible refine belowDrewN ?_ _) | (with_reducible refine Below.alloc ?_ ?_ _) | (with_reducible refine Below.setCell ?_ ?_ _) | (with_reducible refine belowStep (by assumption) ?_ ?_) | (with_reducible exact Below.size (by assumption)) | go_size))))
    have HR11 := Lib.hid (HR10.out.below (w' := w11) (by (repeat' (first | (with_reducible exact Below.refl _ _) | (with_reducible assumption) | (with_reducible refine Below.drew ?_) | (with_reducible refine belowDrewN ?_ _) | (with_reducible refine Below.alloc ?_ ?_ _) | (with_reducible refine Below.setCell ?_ ?_ _) | (with_reducible refine belowStep (by assumption) ?_ ?_) | (with_reducible exact Below.size (by assumption)) | go_size))))
    have hbw11 : Below w.heap.size w w11 := by (repeat' (first | (with_reducible exact Below.refl _ _) | (with_reducible assumption) | (with_reducible refine Below.drew ?_) | (with_reducible refine belowDrewN ?_ _) | (with_reducible refine Below.alloc ?_ ?_ _) | (with_reducible refine Below.setCell ?_ ?_ _) | (with_reducible refine belowStep (by assumption) ?_ ?_) | (with_reducible exact Below.size (by assumption)) | go_size))
    clear HR10
    obtain ⟨oH1, oH2, oH3, oH4, oH5⟩ := TH.out
    obtain ⟨oI1, oI2, oI3, oI4, oI5⟩ := TI.out
    have hne : w9.heap.size ≠ w10.heap.size := by omega
    cases hz : pieB zs with
    | false =>
      cases hE : pieO a b with
      | none =>
        clear hE
        go_wp2
        go_ret
        exact ⟨rfl, by (repeat' (first | (with_reducible exact Below.refl _ _) | (with_reducible assumption) | (with_reducible refine Below.drew ?_) | (with_reducible refine belowDrewN ?_ _) | (with_reducible refine Below.alloc ?_ ?_ _) | (with_reducible refine Below.setCell ?_ ?_ _) | (with_reducible refine belowStep (by assumption) ?_ ?_) | (with_reducible exact Below.size (by assumption)) | go_size))⟩
      | some xs =>
        have L0 := Lib.hid (pieO_back hE)
        have E := Lib.hid hE
        have HR := HR11
        rw [E.out] at HR
        have HR := Lib.hid (show Reads w11 A5 xs from HR.out)
        simp only [Option.getD_some, Option.isSome_some]
        have hx24 := L0.out.l24
        have hfew := L0.out.few
        clear hE hxl
        go_wp2_with fail
        refine (fromPierce_any _ A5 c5 xs HR.out (by omega) L0.out.x64).mono ?_; rintro e w20 ⟨rfl, hb20⟩; have hz20 := hb20.size; (try simp only [World.size_alloc, World.size_setCell, World.size_drew, World.heap_drewN] at hz20)
        rw [L0.out.back.1, L0.out.back.2.1, L0.out.back.2.2]
        have TG := Lib.hid (TG.out.below hb20)
        have TJ := Lib.hid (TwoAt.new w20 (a) (b) 25)
        have TG := Lib.hid (TG.out.below ((Below.refl _ _).alloc (Nat.le_refl _) (.cells #[.int .i64 (a), .int .i64 (b)] 25)))
        have HR := Lib.hid (HR.out.below (w' := w20.alloc (.cells #[.int .i64 (a), .int .i64 (b)] 25)) (by (repeat' (first | (with_reducible exact Below.refl _ _) | (with_reducible assumption) | (with_reducible refine Below.drew ?_) | (with_reducible refine belowDrewN ?_ _) | (with_reducible refine Below.alloc ?_ ?_ _) | (with_reducible refine Below.setCell ?_ ?_ _) | (with_reducible refine belowStep (by assumption) ?_ ?_) | (with_reducible exact Below.size (by assumption)) | go_size))))
        obtain ⟨oG1, oG2, oG3, oG4, oG5⟩ := TG.out
        obtain ⟨oJ1, oJ2, oJ3, oJ4, oJ5⟩ := TJ.out
        have hne2 : w2.heap.size ≠ w20.heap.size := by omega
        go_wp2
        go_loopw [21] (fun vi wr => ∃ (k : Nat), k ≤ xs.length ∧ vi = .int .i64 ((k : Int) + 1) ∧ ∃ n, wr = (w20.alloc (.cells #[.int .i64 (a), .int .i64 (b)] 25)).drewN n) (fun vi _ => xs.length + 1 - (intOf vi).toNat)
        case atStart => exact ⟨0, Nat.zero_le _, rfl, 0, rfl⟩
        case round =>
          obtain ⟨k, hk, rfl, nn, rfl⟩ := hrel
          by_cases hlt : k + 1 < xs.length
          · obtain ⟨b1, o1, x, y, rfl, hb1, hx, hy, hcell, hcell2⟩ := HR.out.at2 hlt (show k < xs.length by omega)
            have hxy := L0.out.rise k y x hy hx
            have hki : (k : Int) + 1 < (xs.length : Int) := by omega
            clear hx hy
            go_wp2
            go_quiet (fail)
            go_wp2
            go_roundw
            case rel => exact ⟨k + 1, by omega, by go_num, _, rfl⟩
            case measure => simp [intOf]; omega
          · have hki : ¬ ((k : Int) + 1 < (xs.length : Int)) := by omega
            go_wp2
            go_ret
            exact ⟨rfl, by (repeat' (first | (with_reducible exact Below.refl _ _) | (with_reducible assumption) | (with_reducible refine Below.drew ?_) | (with_reducible refine belowDrewN ?_ _) | (with_reducible refine Below.alloc ?_ ?_ _) | (with_reducible refine Below.setCell ?_ ?_ _) | (with_reducible refine belowStep (by assumption) ?_ ?_) | (with_reducible exact Below.size (by assumption)) | go_size))⟩
    | true =>
      obtain ⟨hag, hr1, hr2⟩ := pieO_again hz
      have HAG := Lib.hid hag
      clear hag
      go_wp2_with fail
      refine (pierceOf_any (pieN zs) (pieD zs) _ hr1 hr2).mono ?_; rintro e w12 ⟨v12, rfl, ho12, hb12⟩; have hz12 := hb12.size; (try simp only [World.size_alloc, World.size_setCell, World.size_drew, World.heap_drewN] at hz12)
      rw [HAG.out] at ho12 ⊢
      obtain ⟨A12, c12, rfl, hr12⟩ := (show OwnI w12 _ v12 zs from ho12).form
      have H12 := Lib.hid hr12
      clear oH1 oH2 oH3 oH4 oH5
      clear oI1 oI2 oI3 oI4 oI5
      have TG := Lib.hid (TG.out.below hb12)
      have HZ := Lib.hid (HZ.out.below hb12)
      have HR12 := Lib.hid (HR11.out.below hb12)
      clear ho12 hr12 HR11
      go_wp2_with fail
      refine ((pSame_same _ _ _ _ _ _ H12.out HZ.out hzl).mono fun _ _ h => h.retL).mono ?_; rintro e w15 ⟨rfl, hb15⟩
      have hz15 := hb15.size
      have TG := Lib.hid (TG.out.below hb15)
      have HR15 := Lib.hid (HR12.out.below hb15)
      have hbw15 : Below w.heap.size w w15 := by (repeat' (first | (with_reducible exact Below.refl _ _) | (with_reducible assumption) | (with_reducible refine Below.drew ?_) | (with_reducible refine belowDrewN ?_ _) | (with_reducible refine Below.alloc ?_ ?_ _) | (with_reducible refine Below.setCell ?_ ?_ _) | (with_reducible refine belowStep (by assumption) ?_ ?_) | (with_reducible exact Below.size (by assumption)) | go_size))
      clear H12 HZ HR12
      cases hE : pieO a b with
      | none =>
        clear hE
        go_wp2
        go_ret
        exact ⟨rfl, by (repeat' (first | (with_reducible exact Below.refl _ _) | (with_reducible assumption) | (with_reducible refine Below.drew ?_) | (with_reducible refine belowDrewN ?_ _) | (with_reducible refine Below.alloc ?_ ?_ _) | (with_reducible refine Below.setCell ?_ ?_ _) | (with_reducible refine belowStep (by assumption) ?_ ?_) | (with_reducible exact Below.size (by assumption)) | go_size))⟩
      | some xs =>
        have L0 := Lib.hid (pieO_back hE)
        have E := Lib.hid hE
        have HR := HR15
        rw [E.out] at HR
        have HR := Lib.hid (show Reads w15 A5 xs from HR.out)
        simp only [Option.getD_some, Option.isSome_some]
        have hx24 := L0.out.l24
        have hfew := L0.out.few
        clear hE hxl
        go_wp2_with fail
        refine (fromPierce_any _ A5 c5 xs HR.out (by omega) L0.out.x64).mono ?_; rintro e w20 ⟨rfl, hb20⟩; have hz20 := hb20.size; (try simp only [World.size_alloc, World.size_setCell, World.size_drew, World.heap_drewN] at hz20)
        rw [L0.out.back.1, L0.out.back.2.1, L0.out.back.2.2]
        have TG := Lib.hid (TG.out.below hb20)
        have TJ := Lib.hid (TwoAt.new w20 (a) (b) 25)
        have TG := Lib.hid (TG.out.below ((Below.refl _ _).alloc (Nat.le_refl _) (.cells #[.int .i64 (a), .int .i64 (b)] 25)))
        have HR := Lib.hid (HR.out.below (w' := w20.alloc (.cells #[.int .i64 (a), .int .i64 (b)] 25)) (by (repeat' (first | (with_reducible exact Below.refl _ _) | (with_reducible assumption) | (with_reducible refine Below.drew ?_) | (with_reducible refine belowDrewN ?_ _) | (with_reducible refine Below.alloc ?_ ?_ _) | (with_reducible refine Below.setCell ?_ ?_ _) | (with_reducible refine belowStep (by assumption) ?_ ?_) | (with_reducible exact Below.size (by assumption)) | go_size))))
        obtain ⟨oG1, oG2, oG3, oG4, oG5⟩ := TG.out
        obtain ⟨oJ1, oJ2, oJ3, oJ4, oJ5⟩ := TJ.out
        have hne2 : w2.heap.size ≠ w20.heap.size := by omega
        go_wp2
        go_loopw [21] (fun vi wr => ∃ (k : Nat), k ≤ xs.length ∧ vi = .int .i64 ((k : Int) + 1) ∧ ∃ n, wr = (w20.alloc (.cells #[.int .i64 (a), .int .i64 (b)] 25)).drewN n) (fun vi _ => xs.length + 1 - (intOf vi).toNat)
        case atStart => exact ⟨0, Nat.zero_le _, rfl, 0, rfl⟩
        case round =>
          obtain ⟨k, hk, rfl, nn, rfl⟩ := hrel
          by_cases hlt : k + 1 < xs.length
          · obtain ⟨b1, o1, x, y, rfl, hb1, hx, hy, hcell, hcell2⟩ := HR.out.at2 hlt (show k < xs.length by omega)
            have hxy := L0.out.rise k y x hy hx
            have hki : (k : Int) + 1 < (xs.length : Int) := by omega
            clear hx hy
            go_wp2
            go_quiet (fail)
            go_wp2
            go_roundw
            case rel => exact ⟨k + 1, by omega, by go_num, _, rfl⟩
            case measure => simp [intOf]; omega
          · have hki : ¬ ((k : Int) + 1 < (xs.length : Int)) := by omega
            go_wp2
            go_ret
            exact ⟨rfl, by (repeat' (first | (with_reducible exact Below.refl _ _) | (with_reducible assumption) | (with_reducible refine Below.drew ?_) | (with_reducible refine belowDrewN ?_ _) | (with_reducible refine Below.alloc ?_ ?_ _) | (with_reducible refine Below.setCell ?_ ?_ _) | (with_reducible refine belowStep (by assumption) ?_ ?_) | (with_reducible exact Below.size (by assumption)) | go_size))⟩

set_option maxRecDepth 100000 in
theorem FnPierceLists_lifted (os : Os) (started : os.Started) (H : Type) (enc : TypeId × Value → H) :
    ReturnsInHanded {} Try.checked os 4 .any (Rows.fnPierceListsSpec.pre6 enc Try.prog Try.f4 Rows.fnPierceListsRow.domain false) (Rows.fnPierceListsSpec.post enc Try.prog Try.f4 false true false false) := by
  refine returnsInHanded_of_change (C := Try.checked) own started (by kernel_rfl) Try.func4
    (ChangeSpec.witness6 (enc := enc) (C := Try.checked) false ⟨#[], #[.slice none 0 0, .slice none 0 0], []⟩ 8 (by kernel_rfl) (by kernel_rfl) (by kernel_rfl) (by kernel_rfl)) ?_
  intro W base args ds gs before hval0 hW hcnd _
  have hval : ∀ (j : Nat) t v, Try.f4.params[j]? = some t → args[j]? = some v → Value.okWide Try.prog W .any base t v := hval0
  have hW' := hW
  have hlt : ∀ p ∈ before, p.block < W.heap.size := fun p hp => hW'.lt p hp
  obtain ⟨p, q, hA0, hV, rfl, hfz, hnd⟩ := hW
  have hA : DataW.TrodAll enc Try.prog W 0 (fun _ => true) true Try.f4.params.toList args.toList ds p := hA0
  rw [Try.params4] at hA hval
  obtain ⟨v0, vs0, d0, ds0, p0, q0, hargs, rfl, rfl, h0, r0⟩ := trodAll_cons hA
  obtain ⟨v1, vs1, d1, ds1, p1, q1, rfl, rfl, rfl, h1, r1⟩ := trodAll_cons r0
  obtain ⟨rfl, rfl, rfl⟩ := trodAll_nil r1
  obtain rfl : args = #[v0, v1] := by cases args; simp_all
  obtain ⟨rfl, rfl⟩ := trodVars_none hV
  obtain ⟨Aa, ca, na, rfl, ha⟩ := open_bytes_reads Try.underlying22 Try.underlying5 (by kernel_rfl) (hval 0 22 v0 rfl rfl) h0 (fun y hy => hlt y (by simp [hy]))
  obtain ⟨Ab, cb, nb, rfl, hb⟩ := open_bytes_reads Try.underlying22 Try.underlying5 (by kernel_rfl) (hval 1 22 v1 rfl rfl) h1 (fun y hy => hlt y (by simp [hy]))
  refine (FnPierceLists_walk W Aa ca na Ab cb nb ha hb).mono fun e W' ⟨he, hg⟩ => ?_
  subst he
  exact ⟨_, rfl, law_post laidOut (by rw [Try.params4]; intro t ht; simp only [List.mem_cons, List.not_mem_nil, or_false] at ht; rcases ht with rfl | rfl <;> exact ⟨by kernel_rfl, of_decide_eq_true (by kernel_rfl)⟩) (by kernel_rfl) Try.underlying4 rfl hW' rfl hg⟩

theorem FnPierceLists_closed : joinedFacts Try.prog 4 Try.f4 Rows.fnPierceListsSpec Rows.fnPierceListsRow = true := by
  unfold joinedFacts
  rw [mayEnter_eq, lifts_eq, make_eq]
  kernel_rfl

theorem FnPierceLists_holds : Rows.FnPierceListsSaid :=
  OpenClaim.holds_of_wide 4 Try.f4 rfl rfl rfl rfl rfl rfl rfl ⟨rfl, rfl, rfl, rfl, rfl⟩ rfl rfl rfl rfl rfl (by kernel_rfl) Try.func4 FnPierceLists_closed
    (of_decide_eq_true (by kernel_rfl)) (by unfold Func.isWrapper; first | (rw [if_pos (by decide +kernel)]; kernel_rfl) | (rw [if_neg (by decide +kernel)]; exact ⟨rfl, rfl⟩))
    (fun os started H enc _ => FnPierceLists_lifted os started H enc)

end Go.Proofs.Ytpfpekfpaknlgaa
