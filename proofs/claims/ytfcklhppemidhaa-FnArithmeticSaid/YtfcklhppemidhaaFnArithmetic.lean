
/-
  For all bytes: two fractions are drawn; sums and differences, products and quotients undo each other, and the order is that of differences. No condition.
-/
import Derived.Test.YtfcklhppemidhaaArithP
import Derived.Test.YtfcklhppemidhaaArithD
import Derived.Test.YtfcklhppemidhaaOrder
import Derived.Test.YtfcklhppemidhaaFloorOf
import Derived.Test.YtfcklhppemidhaaCeilingOf
import Derived.Test.YtfcklhppemidhaaShell
import Derived.Test.YtfcklhppemidhaaLawK
namespace Go.Proofs.Ytfcklhppemidhaa
open Go.ChangeShapes Go.WideShapes Go.ChangeAt Go.RowKit Go.Joins Go.Deep
set_option maxRecDepth 100000 in
set_option maxHeartbeats 32000000 in
theorem FnArithmetic_walk (w : World) (A : Option Addr) (c n0 : Nat) (B : Option Addr) (c' m0 : Nat) (hA : ReadsB w A n0 ∧ n0 ≤ 9223372036854775807) (hB : ReadsB w B m0 ∧ m0 ≤ 9223372036854775807) :
    Calls Try.prog 3 #[.slice A n0 c, .slice B m0 c'] w (Ret (.bool true) w) := by
  obtain ⟨hA, hn⟩ := hA
  obtain ⟨hB, hm⟩ := hB
  have HA := Lib.hid hA
  clear hA hB
  cases hbig : bigB n0 m0 with
  | true =>
    go_enter Try.func3, Try.ntmps3
    go_wp2_with fail
    refine (big_any _ _ _ _ _ _ _ hn hm).mono ?_; rintro e w1 ⟨rfl, k1, rfl⟩
    go_wp2
    go_ret
    exact ⟨rfl, by (repeat' (first | (with_reducible exact Below.refl _ _) | (with_reducible assumption) | (with_reducible refine Below.drew ?_) | (with_reducible refine belowDrewN ?_ _) | (with_reducible refine Below.alloc ?_ ?_ _) | (with_reducible refine Below.setCell ?_ ?_ _) | (with_reducible refine belowStep (by assumption) ?_ ?_) | (with_reducible exact Below.size (by assumption)) | go_size))⟩
  | false =>
    have hn2 : n0 ≤ 1048576 := by
      simp only [bigB, Bool.or_eq_false_iff, decide_eq_false_iff_not] at hbig
      omega
    go_enter Try.func3, Try.ntmps3
    go_wp2_with fail
    refine (big_any _ _ _ _ _ _ _ hn hm).mono ?_; rintro e w1 ⟨rfl, k1, rfl⟩
    go_wp2_with fail
    refine (drawAdd_any _ A n0 c (HA.out.below (by (repeat' (first | (with_reducible exact Below.refl _ _) | (with_reducible assumption) | (with_reducible refine Below.drew ?_) | (with_reducible refine belowDrewN ?_ _) | (with_reducible refine Below.alloc ?_ ?_ _) | (with_reducible refine Below.setCell ?_ ?_ _) | (with_reducible refine belowStep (by assumption) ?_ ?_) | (with_reducible exact Below.size (by assumption)) | go_size)))) hn2).mono ?_; rintro e w2 ⟨n, d, m, e', rfl, rn, rd, rm, re, hb2⟩
    have hz2 := hb2.size
    (try simp only [World.heap_drewN] at hz2)
    clear hbig
    by_cases h : goodB n d = true ∧ goodB m e' = true
    · obtain ⟨ha, hb⟩ := h
      have Ha := Lib.hid ha
      have Hb := Lib.hid hb
      obtain ⟨n1, n2, d1, d2⟩ := good_bounds ha
      obtain ⟨m1, m2, e1, e2⟩ := good_bounds hb
      have HW := Lib.hid (whole_parts ha)
      have p0 := mul_pos1 d1 e1
      have Hp0 := Lib.hid p0
      clear ha hb p0
      have TA := Lib.hid ((TwoAt.new w2 n d 25).below ((Below.refl _ _).alloc (Nat.le_refl _) (.cells #[.int .i64 (m), .int .i64 (e')] 25)))
      have TB := Lib.hid (TwoAt.new (w2.alloc (.cells #[.int .i64 (n), .int .i64 (d)] 25)) m e' 25)
      simp only [World.size_alloc] at TB
      obtain ⟨a1, a2, _, _, a5⟩ := TA.out
      obtain ⟨q1, q2, _, _, q5⟩ := TB.out
      go_wp2_with fail
      refine (add_yes _ _ _ _ _ Ha.out Hb.out).mono ?_; rintro e w3 ⟨rfl, hb3⟩; have hz3 := hb3.size; (try simp only [World.size_alloc, World.size_setCell, World.size_drew, World.heap_drewN] at hz3)
      clear a1 a2 a5 q1 q2 q5
      have TA := Lib.hid (TA.out.below hb3)
      have TB := Lib.hid (TB.out.below hb3)
      skip
      have TA := Lib.hid (TA.out.below ((Below.refl _ _).alloc (Nat.le_refl _) (.cells #[.int .i64 (redN (n * e' + m * d) (d * e')), .int .i64 (redD (n * e' + m * d) (d * e'))] 25)))
      have TB := Lib.hid (TB.out.below ((Below.refl _ _).alloc (Nat.le_refl _) (.cells #[.int .i64 (redN (n * e' + m * d) (d * e')), .int .i64 (redD (n * e' + m * d) (d * e'))] 25)))
      have T3 := Lib.hid (TwoAt.new w3 (redN (n * e' + m * d) (d * e')) (redD (n * e' + m * d) (d * e')) 25)
      obtain ⟨a1, a2, _, _, a5⟩ := TA.out
      obtain ⟨q1, q2, _, _, q5⟩ := TB.out
      go_wp2_with fail
      refine (spec_add_yes _ _ _ _ _ Ha.out Hb.out).mono ?_; rintro e w4 ⟨rfl, hb4⟩; have hz4 := hb4.size; (try simp only [World.size_alloc, World.size_setCell, World.size_drew, World.heap_drewN] at hz4)
      clear a1 a2 a5 q1 q2 q5
      have TA := Lib.hid (TA.out.below hb4)
      have TB := Lib.hid (TB.out.below hb4)
      skip
      have T3 := Lib.hid (T3.out.below hb4)
      have T3 := Lib.hid (T3.out.below ((Below.refl _ _).alloc (Nat.le_refl _) (.cells #[.int .i64 (redN (n * e' + m * d) (d * e')), .int .i64 (redD (n * e' + m * d) (d * e'))] 25)))
      have TA := Lib.hid (TA.out.below ((Below.refl _ _).alloc (Nat.le_refl _) (.cells #[.int .i64 (redN (n * e' + m * d) (d * e')), .int .i64 (redD (n * e' + m * d) (d * e'))] 25)))
      have TB := Lib.hid (TB.out.below ((Below.refl _ _).alloc (Nat.le_refl _) (.cells #[.int .i64 (redN (n * e' + m * d) (d * e')), .int .i64 (redD (n * e' + m * d) (d * e'))] 25)))
      have T4 := Lib.hid (TwoAt.new w4 (redN (n * e' + m * d) (d * e')) (redD (n * e' + m * d) (d * e')) 25)
      obtain ⟨a1, a2, _, _, a5⟩ := TA.out
      obtain ⟨q1, q2, _, _, q5⟩ := TB.out
      go_wp2_with fail
      refine (mul_yes _ _ _ _ _ Ha.out Hb.out).mono ?_; rintro e w5 ⟨rfl, hb5⟩; have hz5 := hb5.size; (try simp only [World.size_alloc, World.size_setCell, World.size_drew, World.heap_drewN] at hz5)
      clear a1 a2 a5 q1 q2 q5
      have TA := Lib.hid (TA.out.below hb5)
      have TB := Lib.hid (TB.out.below hb5)
      skip
      have T3 := Lib.hid (T3.out.below hb5)
      have T4 := Lib.hid (T4.out.below hb5)
      have T3 := Lib.hid (T3.out.below ((Below.refl _ _).alloc (Nat.le_refl _) (.cells #[.int .i64 (redN (n * m) (d * e')), .int .i64 (redD (n * m) (d * e'))] 25)))
      have T4 := Lib.hid (T4.out.below ((Below.refl _ _).alloc (Nat.le_refl _) (.cells #[.int .i64 (redN (n * m) (d * e')), .int .i64 (redD (n * m) (d * e'))] 25)))
      have TA := Lib.hid (TA.out.below ((Below.refl _ _).alloc (Nat.le_refl _) (.cells #[.int .i64 (redN (n * m) (d * e')), .int .i64 (redD (n * m) (d * e'))] 25)))
      have TB := Lib.hid (TB.out.below ((Below.refl _ _).alloc (Nat.le_refl _) (.cells #[.int .i64 (redN (n * m) (d * e')), .int .i64 (redD (n * m) (d * e'))] 25)))
      have T5 := Lib.hid (TwoAt.new w5 (redN (n * m) (d * e')) (redD (n * m) (d * e')) 25)
      obtain ⟨a1, a2, _, _, a5⟩ := TA.out
      obtain ⟨q1, q2, _, _, q5⟩ := TB.out
      go_wp2_with fail
      refine (spec_mul_yes _ _ _ _ _ Ha.out Hb.out).mono ?_; rintro e w6 ⟨rfl, hb6⟩; have hz6 := hb6.size; (try simp only [World.size_alloc, World.size_setCell, World.size_drew, World.heap_drewN] at hz6)
      clear a1 a2 a5 q1 q2 q5
      have TA := Lib.hid (TA.out.below hb6)
      have TB := Lib.hid (TB.out.below hb6)
      skip
      have T3 := Lib.hid (T3.out.below hb6)
      have T4 := Lib.hid (T4.out.below hb6)
      have T5 := Lib.hid (T5.out.below hb6)
      have T3 := Lib.hid (T3.out.below ((Below.refl _ _).alloc (Nat.le_refl _) (.cells #[.int .i64 (redN (n * m) (d * e')), .int .i64 (redD (n * m) (d * e'))] 25)))
      have T4 := Lib.hid (T4.out.below ((Below.refl _ _).alloc (Nat.le_refl _) (.cells #[.int .i64 (redN (n * m) (d * e')), .int .i64 (redD (n * m) (d * e'))] 25)))
      have T5 := Lib.hid (T5.out.below ((Below.refl _ _).alloc (Nat.le_refl _) (.cells #[.int .i64 (redN (n * m) (d * e')), .int .i64 (redD (n * m) (d * e'))] 25)))
      have TA := Lib.hid (TA.out.below ((Below.refl _ _).alloc (Nat.le_refl _) (.cells #[.int .i64 (redN (n * m) (d * e')), .int .i64 (redD (n * m) (d * e'))] 25)))
      have TB := Lib.hid (TB.out.below ((Below.refl _ _).alloc (Nat.le_refl _) (.cells #[.int .i64 (redN (n * m) (d * e')), .int .i64 (redD (n * m) (d * e'))] 25)))
      have T6 := Lib.hid (TwoAt.new w6 (redN (n * m) (d * e')) (redD (n * m) (d * e')) 25)
      obtain ⟨a1, a2, _, _, a5⟩ := TA.out
      obtain ⟨q1, q2, _, _, q5⟩ := TB.out
      go_wp2_with fail
      refine (cmp_yes _ _ _ _ _ Ha.out Hb.out).mono ?_; rintro e w7 ⟨rfl, hb7⟩; have hz7 := hb7.size; (try simp only [World.size_alloc, World.size_setCell, World.size_drew, World.heap_drewN] at hz7)
      clear a1 a2 a5 q1 q2 q5
      have TA := Lib.hid (TA.out.below hb7)
      have TB := Lib.hid (TB.out.below hb7)
      skip
      have T3 := Lib.hid (T3.out.below hb7)
      have T4 := Lib.hid (T4.out.below hb7)
      have T5 := Lib.hid (T5.out.below hb7)
      have T6 := Lib.hid (T6.out.below hb7)
      obtain ⟨a1, a2, _, _, a5⟩ := TA.out
      obtain ⟨q1, q2, _, _, q5⟩ := TB.out
      go_wp2_with fail
      refine (spec_cmp_yes _ _ _ _ _ Ha.out Hb.out).mono ?_; rintro e w8 ⟨rfl, hb8⟩; have hz8 := hb8.size; (try simp only [World.size_alloc, World.size_setCell, World.size_drew, World.heap_drewN] at hz8)
      clear a1 a2 a5 q1 q2 q5
      have TA := Lib.hid (TA.out.below hb8)
      have TB := Lib.hid (TB.out.below hb8)
      skip
      have T3 := Lib.hid (T3.out.below hb8)
      have T4 := Lib.hid (T4.out.below hb8)
      have T5 := Lib.hid (T5.out.below hb8)
      have T6 := Lib.hid (T6.out.below hb8)
      obtain ⟨x1, x2, _, _, x5⟩ := T3.out
      obtain ⟨x6, x7, _, _, _⟩ := T4.out
      obtain ⟨y1, y2, _, _, y5⟩ := T5.out
      obtain ⟨y6, y7, _, _, _⟩ := T6.out
      go_upto_if 101 with fail
      clear x6 x7 y1 y2 y5 y6 y7
      go_cut [8, 10] (fun s8 s10 wx => s8 = .bool (redB (n * e' + m * d) (d * e')) ∧ s10 = .bool (redB (n * e' + m * d) (d * e')) ∧ Below w8.heap.size w8 wx)
      case first =>
        cases hS : redB (n * e' + m * d) (d * e') with
        | true =>
          obtain ⟨g1, g2, g3, g4, g5⟩ := back_sub Ha.out Hb.out hS
          have G1 := Lib.hid g1
          have G2 := Lib.hid g2
          have G3 := Lib.hid g3
          have G4 := Lib.hid g4
          have G5 := Lib.hid g5
          clear g1 g2 g3 g4 g5
          obtain ⟨a1, a2, _, _, a5⟩ := TA.out
          obtain ⟨q1, q2, _, _, q5⟩ := TB.out
          go_wp2_with fail
          refine (sub_yes _ _ _ _ _ G1.out Hb.out G2.out).mono ?_; rintro e w9 ⟨rfl, hb9⟩; have hz9 := hb9.size; (try simp only [World.size_alloc, World.size_setCell, World.size_drew, World.heap_drewN] at hz9)
          rw [G3.out, G4.out, G5.out]
          clear a1 a2 a5 q1 q2 q5
          clear x1 x2 x5
          obtain ⟨a1, a2, _, _, a5⟩ := (TA.out.below hb9).below ((Below.refl _ _).alloc (Nat.le_refl _) (.cells #[.int .i64 (n), .int .i64 (d)] 25))
          go_wp2_with fail
          go_meet
          exact ⟨by rw [hS], by rw [hS], by (repeat' (first | (with_reducible exact Below.refl _ _) | (with_reducible assumption) | (with_reducible refine Below.drew ?_) | (with_reducible refine belowDrewN ?_ _) | (with_reducible refine Below.alloc ?_ ?_ _) | (with_reducible refine Below.setCell ?_ ?_ _) | (with_reducible refine belowStep (by assumption) ?_ ?_) | (with_reducible exact Below.size (by assumption)) | go_size))⟩
        | false =>
          go_wp2_with fail
          go_meet
          exact ⟨by rw [hS], by rw [hS], by (repeat' (first | (with_reducible exact Below.refl _ _) | (with_reducible assumption) | (with_reducible refine Below.drew ?_) | (with_reducible refine belowDrewN ?_ _) | (with_reducible refine Below.alloc ?_ ?_ _) | (with_reducible refine Below.setCell ?_ ?_ _) | (with_reducible refine belowStep (by assumption) ?_ ?_) | (with_reducible exact Below.size (by assumption)) | go_size))⟩
      case rest =>
        obtain ⟨w10, rfl⟩ : ∃ w10 : World, w10 = wc := ⟨_, rfl⟩
        obtain ⟨rfl, rfl, hb10⟩ := hcut
        have hz10 := hb10.size
        clear x1 x2 x5
        have TA := Lib.hid (TA.out.below hb10)
        have TB := Lib.hid (TB.out.below hb10)
        have T5 := Lib.hid (T5.out.below hb10)
        cases hP : redB (n * m) (d * e') with
        | true =>
          by_cases hm1 : 1 ≤ m
          · have hm2 : 0 < m := by omega
            obtain ⟨g1, g3, g4, g5⟩ := back_div Ha.out Hb.out hm1 hP
            have G1 := Lib.hid g1
            have G3 := Lib.hid g3
            have G4 := Lib.hid g4
            have G5 := Lib.hid g5
            clear g1 g3 g4 g5
            obtain ⟨y1, y2, _, _, y5⟩ := T5.out
            obtain ⟨a1, a2, _, _, a5⟩ := TA.out
            obtain ⟨q1, q2, _, _, q5⟩ := TB.out
            go_wp2_with fail
            refine (div_yes _ _ _ _ _ G1.out Hb.out hm1).mono ?_; rintro e w11 ⟨rfl, hb11⟩; have hz11 := hb11.size; (try simp only [World.size_alloc, World.size_setCell, World.size_drew, World.heap_drewN] at hz11)
            rw [G3.out, G4.out, G5.out]
            clear a1 a2 a5 q1 q2 q5
            clear y1 y2 y5
            have TA := Lib.hid ((TA.out.below hb11).below ((Below.refl _ _).alloc (Nat.le_refl _) (.cells #[.int .i64 (n), .int .i64 (d)] 25)))
            have TB := Lib.hid ((TB.out.below hb11).below ((Below.refl _ _).alloc (Nat.le_refl _) (.cells #[.int .i64 (n), .int .i64 (d)] 25)))
            by_cases hc : m * d ≤ n * e'
            · cases hD : redB (n * e' - m * d) (d * e') with
              | true =>
                obtain ⟨a1, a2, _, _, a5⟩ := TA.out
                obtain ⟨q1, q2, _, _, q5⟩ := TB.out
                go_wp2_with fail
                refine (sub_yes _ _ _ _ _ Ha.out Hb.out hc).mono ?_; rintro e w13 ⟨rfl, hb13⟩; have hz13 := hb13.size; (try simp only [World.size_alloc, World.size_setCell, World.size_drew, World.heap_drewN] at hz13)
                clear a1 a2 a5 q1 q2 q5
                have TA := Lib.hid ((TA.out.below hb13).below ((Below.refl _ _).alloc (Nat.le_refl _) (.cells #[.int .i64 (redN (n * e' - m * d) (d * e')), .int .i64 (redD (n * e' - m * d) (d * e'))] 25)))
                obtain ⟨a1, a2, _, _, a5⟩ := TA.out
                have D0 := diff_zero Hp0.out hD
                have D1 := cmpI_zero hc
                have D2 := cmpI_ge hc
                go_wp2_with fail
                refine (floor_yes _ _ _ Ha.out).mono ?_; rintro e w14 ⟨rfl, hb14⟩; have hz14 := hb14.size; (try simp only [World.size_alloc, World.size_setCell, World.size_drew, World.heap_drewN] at hz14)
                clear a1 a2 a5
                have TA := Lib.hid (TA.out.below hb14)
                obtain ⟨a1, a2, _, _, a5⟩ := TA.out
                go_wp2_with fail
                refine (ceiling_yes _ _ _ Ha.out).mono ?_; rintro e w15 ⟨rfl, hb15⟩; have hz15 := hb15.size; (try simp only [World.size_alloc, World.size_setCell, World.size_drew, World.heap_drewN] at hz15)
                clear a1 a2 a5
                obtain ⟨a1, a2, _, _, a5⟩ := TA.out.below hb15
                obtain ⟨k1, k2, k3, k4, k5, k6, k7, k8, k9, k10⟩ := HW.out
                go_wp2
                go_ret
                exact ⟨rfl, by (repeat' (first | (with_reducible exact Below.refl _ _) | (with_reducible assumption) | (with_reducible refine Below.drew ?_) | (with_reducible refine belowDrewN ?_ _) | (with_reducible refine Below.alloc ?_ ?_ _) | (with_reducible refine Below.setCell ?_ ?_ _) | (with_reducible refine belowStep (by assumption) ?_ ?_) | (with_reducible exact Below.size (by assumption)) | go_size))⟩
              | false =>
                obtain ⟨a1, a2, _, _, a5⟩ := TA.out
                obtain ⟨q1, q2, _, _, q5⟩ := TB.out
                go_wp2_with fail
                refine (sub_yes _ _ _ _ _ Ha.out Hb.out hc).mono ?_; rintro e w13 ⟨rfl, hb13⟩; have hz13 := hb13.size; (try simp only [World.size_alloc, World.size_setCell, World.size_drew, World.heap_drewN] at hz13)
                clear a1 a2 a5 q1 q2 q5
                have TA := Lib.hid ((TA.out.below hb13).below ((Below.refl _ _).alloc (Nat.le_refl _) (.cells #[.int .i64 (redN (n * e' - m * d) (d * e')), .int .i64 (redD (n * e' - m * d) (d * e'))] 25)))
                obtain ⟨a1, a2, _, _, a5⟩ := TA.out
                go_wp2_with fail
                refine (floor_yes _ _ _ Ha.out).mono ?_; rintro e w14 ⟨rfl, hb14⟩; have hz14 := hb14.size; (try simp only [World.size_alloc, World.size_setCell, World.size_drew, World.heap_drewN] at hz14)
                clear a1 a2 a5
                have TA := Lib.hid (TA.out.below hb14)
                obtain ⟨a1, a2, _, _, a5⟩ := TA.out
                go_wp2_with fail
                refine (ceiling_yes _ _ _ Ha.out).mono ?_; rintro e w15 ⟨rfl, hb15⟩; have hz15 := hb15.size; (try simp only [World.size_alloc, World.size_setCell, World.size_drew, World.heap_drewN] at hz15)
                clear a1 a2 a5
                obtain ⟨a1, a2, _, _, a5⟩ := TA.out.below hb15
                obtain ⟨k1, k2, k3, k4, k5, k6, k7, k8, k9, k10⟩ := HW.out
                go_wp2
                go_ret
                exact ⟨rfl, by (repeat' (first | (with_reducible exact Below.refl _ _) | (with_reducible assumption) | (with_reducible refine Below.drew ?_) | (with_reducible refine belowDrewN ?_ _) | (with_reducible refine Below.alloc ?_ ?_ _) | (with_reducible refine Below.setCell ?_ ?_ _) | (with_reducible refine belowStep (by assumption) ?_ ?_) | (with_reducible exact Below.size (by assumption)) | go_size))⟩
            · have hc' : n * e' < m * d := by omega
              clear hc
              obtain ⟨a1, a2, _, _, a5⟩ := TA.out
              obtain ⟨q1, q2, _, _, q5⟩ := TB.out
              go_wp2_with fail
              refine (sub_less _ _ _ _ _ Ha.out Hb.out hc').mono ?_; rintro e w13 ⟨rfl, hb13⟩; have hz13 := hb13.size; (try simp only [World.size_alloc, World.size_setCell, World.size_drew, World.heap_drewN] at hz13)
              clear a1 a2 a5 q1 q2 q5
              have TA := Lib.hid ((TA.out.below hb13).below ((Below.refl _ _).alloc (Nat.le_refl _) (.cells #[.int .i64 (0), .int .i64 (0)] 25)))
              obtain ⟨a1, a2, _, _, a5⟩ := TA.out
              go_wp2_with fail
              refine (floor_yes _ _ _ Ha.out).mono ?_; rintro e w14 ⟨rfl, hb14⟩; have hz14 := hb14.size; (try simp only [World.size_alloc, World.size_setCell, World.size_drew, World.heap_drewN] at hz14)
              clear a1 a2 a5
              have TA := Lib.hid (TA.out.below hb14)
              obtain ⟨a1, a2, _, _, a5⟩ := TA.out
              go_wp2_with fail
              refine (ceiling_yes _ _ _ Ha.out).mono ?_; rintro e w15 ⟨rfl, hb15⟩; have hz15 := hb15.size; (try simp only [World.size_alloc, World.size_setCell, World.size_drew, World.heap_drewN] at hz15)
              clear a1 a2 a5
              obtain ⟨a1, a2, _, _, a5⟩ := TA.out.below hb15
              obtain ⟨k1, k2, k3, k4, k5, k6, k7, k8, k9, k10⟩ := HW.out
              go_wp2
              go_ret
              exact ⟨rfl, by (repeat' (first | (with_reducible exact Below.refl _ _) | (with_reducible assumption) | (with_reducible refine Below.drew ?_) | (with_reducible refine belowDrewN ?_ _) | (with_reducible refine Below.alloc ?_ ?_ _) | (with_reducible refine Below.setCell ?_ ?_ _) | (with_reducible refine belowStep (by assumption) ?_ ?_) | (with_reducible exact Below.size (by assumption)) | go_size))⟩
          · have hm2 : m ≤ 0 := by omega
            clear hm1
            by_cases hc : m * d ≤ n * e'
            · cases hD : redB (n * e' - m * d) (d * e') with
              | true =>
                obtain ⟨a1, a2, _, _, a5⟩ := TA.out
                obtain ⟨q1, q2, _, _, q5⟩ := TB.out
                go_wp2_with fail
                refine (sub_yes _ _ _ _ _ Ha.out Hb.out hc).mono ?_; rintro e w13 ⟨rfl, hb13⟩; have hz13 := hb13.size; (try simp only [World.size_alloc, World.size_setCell, World.size_drew, World.heap_drewN] at hz13)
                clear a1 a2 a5 q1 q2 q5
                have TA := Lib.hid ((TA.out.below hb13).below ((Below.refl _ _).alloc (Nat.le_refl _) (.cells #[.int .i64 (redN (n * e' - m * d) (d * e')), .int .i64 (redD (n * e' - m * d) (d * e'))] 25)))
                obtain ⟨a1, a2, _, _, a5⟩ := TA.out
                have D0 := diff_zero Hp0.out hD
                have D1 := cmpI_zero hc
                have D2 := cmpI_ge hc
                go_wp2_with fail
                refine (floor_yes _ _ _ Ha.out).mono ?_; rintro e w14 ⟨rfl, hb14⟩; have hz14 := hb14.size; (try simp only [World.size_alloc, World.size_setCell, World.size_drew, World.heap_drewN] at hz14)
                clear a1 a2 a5
                have TA := Lib.hid (TA.out.below hb14)
                obtain ⟨a1, a2, _, _, a5⟩ := TA.out
                go_wp2_with fail
                refine (ceiling_yes _ _ _ Ha.out).mono ?_; rintro e w15 ⟨rfl, hb15⟩; have hz15 := hb15.size; (try simp only [World.size_alloc, World.size_setCell, World.size_drew, World.heap_drewN] at hz15)
                clear a1 a2 a5
                obtain ⟨a1, a2, _, _, a5⟩ := TA.out.below hb15
                obtain ⟨k1, k2, k3, k4, k5, k6, k7, k8, k9, k10⟩ := HW.out
                go_wp2
                go_ret
                exact ⟨rfl, by (repeat' (first | (with_reducible exact Below.refl _ _) | (with_reducible assumption) | (with_reducible refine Below.drew ?_) | (with_reducible refine belowDrewN ?_ _) | (with_reducible refine Below.alloc ?_ ?_ _) | (with_reducible refine Below.setCell ?_ ?_ _) | (with_reducible refine belowStep (by assumption) ?_ ?_) | (with_reducible exact Below.size (by assumption)) | go_size))⟩
              | false =>
                obtain ⟨a1, a2, _, _, a5⟩ := TA.out
                obtain ⟨q1, q2, _, _, q5⟩ := TB.out
                go_wp2_with fail
                refine (sub_yes _ _ _ _ _ Ha.out Hb.out hc).mono ?_; rintro e w13 ⟨rfl, hb13⟩; have hz13 := hb13.size; (try simp only [World.size_alloc, World.size_setCell, World.size_drew, World.heap_drewN] at hz13)
                clear a1 a2 a5 q1 q2 q5
                have TA := Lib.hid ((TA.out.below hb13).below ((Below.refl _ _).alloc (Nat.le_refl _) (.cells #[.int .i64 (redN (n * e' - m * d) (d * e')), .int .i64 (redD (n * e' - m * d) (d * e'))] 25)))
                obtain ⟨a1, a2, _, _, a5⟩ := TA.out
                go_wp2_with fail
                refine (floor_yes _ _ _ Ha.out).mono ?_; rintro e w14 ⟨rfl, hb14⟩; have hz14 := hb14.size; (try simp only [World.size_alloc, World.size_setCell, World.size_drew, World.heap_drewN] at hz14)
                clear a1 a2 a5
                have TA := Lib.hid (TA.out.below hb14)
                obtain ⟨a1, a2, _, _, a5⟩ := TA.out
                go_wp2_with fail
                refine (ceiling_yes _ _ _ Ha.out).mono ?_; rintro e w15 ⟨rfl, hb15⟩; have hz15 := hb15.size; (try simp only [World.size_alloc, World.size_setCell, World.size_drew, World.heap_drewN] at hz15)
                clear a1 a2 a5
                obtain ⟨a1, a2, _, _, a5⟩ := TA.out.below hb15
                obtain ⟨k1, k2, k3, k4, k5, k6, k7, k8, k9, k10⟩ := HW.out
                go_wp2
                go_ret
                exact ⟨rfl, by (repeat' (first | (with_reducible exact Below.refl _ _) | (with_reducible assumption) | (with_reducible refine Below.drew ?_) | (with_reducible refine belowDrewN ?_ _) | (with_reducible refine Below.alloc ?_ ?_ _) | (with_reducible refine Below.setCell ?_ ?_ _) | (with_reducible refine belowStep (by assumption) ?_ ?_) | (with_reducible exact Below.size (by assumption)) | go_size))⟩
            · have hc' : n * e' < m * d := by omega
              clear hc
              obtain ⟨a1, a2, _, _, a5⟩ := TA.out
              obtain ⟨q1, q2, _, _, q5⟩ := TB.out
              go_wp2_with fail
              refine (sub_less _ _ _ _ _ Ha.out Hb.out hc').mono ?_; rintro e w13 ⟨rfl, hb13⟩; have hz13 := hb13.size; (try simp only [World.size_alloc, World.size_setCell, World.size_drew, World.heap_drewN] at hz13)
              clear a1 a2 a5 q1 q2 q5
              have TA := Lib.hid ((TA.out.below hb13).below ((Below.refl _ _).alloc (Nat.le_refl _) (.cells #[.int .i64 (0), .int .i64 (0)] 25)))
              obtain ⟨a1, a2, _, _, a5⟩ := TA.out
              go_wp2_with fail
              refine (floor_yes _ _ _ Ha.out).mono ?_; rintro e w14 ⟨rfl, hb14⟩; have hz14 := hb14.size; (try simp only [World.size_alloc, World.size_setCell, World.size_drew, World.heap_drewN] at hz14)
              clear a1 a2 a5
              have TA := Lib.hid (TA.out.below hb14)
              obtain ⟨a1, a2, _, _, a5⟩ := TA.out
              go_wp2_with fail
              refine (ceiling_yes _ _ _ Ha.out).mono ?_; rintro e w15 ⟨rfl, hb15⟩; have hz15 := hb15.size; (try simp only [World.size_alloc, World.size_setCell, World.size_drew, World.heap_drewN] at hz15)
              clear a1 a2 a5
              obtain ⟨a1, a2, _, _, a5⟩ := TA.out.below hb15
              obtain ⟨k1, k2, k3, k4, k5, k6, k7, k8, k9, k10⟩ := HW.out
              go_wp2
              go_ret
              exact ⟨rfl, by (repeat' (first | (with_reducible exact Below.refl _ _) | (with_reducible assumption) | (with_reducible refine Below.drew ?_) | (with_reducible refine belowDrewN ?_ _) | (with_reducible refine Below.alloc ?_ ?_ _) | (with_reducible refine Below.setCell ?_ ?_ _) | (with_reducible refine belowStep (by assumption) ?_ ?_) | (with_reducible exact Below.size (by assumption)) | go_size))⟩
        | false =>
          by_cases hc : m * d ≤ n * e'
          · cases hD : redB (n * e' - m * d) (d * e') with
            | true =>
              obtain ⟨a1, a2, _, _, a5⟩ := TA.out
              obtain ⟨q1, q2, _, _, q5⟩ := TB.out
              go_wp2_with fail
              refine (sub_yes _ _ _ _ _ Ha.out Hb.out hc).mono ?_; rintro e w13 ⟨rfl, hb13⟩; have hz13 := hb13.size; (try simp only [World.size_alloc, World.size_setCell, World.size_drew, World.heap_drewN] at hz13)
              clear a1 a2 a5 q1 q2 q5
              have TA := Lib.hid ((TA.out.below hb13).below ((Below.refl _ _).alloc (Nat.le_refl _) (.cells #[.int .i64 (redN (n * e' - m * d) (d * e')), .int .i64 (redD (n * e' - m * d) (d * e'))] 25)))
              obtain ⟨a1, a2, _, _, a5⟩ := TA.out
              have D0 := diff_zero Hp0.out hD
              have D1 := cmpI_zero hc
              have D2 := cmpI_ge hc
              go_wp2_with fail
              refine (floor_yes _ _ _ Ha.out).mono ?_; rintro e w14 ⟨rfl, hb14⟩; have hz14 := hb14.size; (try simp only [World.size_alloc, World.size_setCell, World.size_drew, World.heap_drewN] at hz14)
              clear a1 a2 a5
              have TA := Lib.hid (TA.out.below hb14)
              obtain ⟨a1, a2, _, _, a5⟩ := TA.out
              go_wp2_with fail
              refine (ceiling_yes _ _ _ Ha.out).mono ?_; rintro e w15 ⟨rfl, hb15⟩; have hz15 := hb15.size; (try simp only [World.size_alloc, World.size_setCell, World.size_drew, World.heap_drewN] at hz15)
              clear a1 a2 a5
              obtain ⟨a1, a2, _, _, a5⟩ := TA.out.below hb15
              obtain ⟨k1, k2, k3, k4, k5, k6, k7, k8, k9, k10⟩ := HW.out
              go_wp2
              go_ret
              exact ⟨rfl, by (repeat' (first | (with_reducible exact Below.refl _ _) | (with_reducible assumption) | (with_reducible refine Below.drew ?_) | (with_reducible refine belowDrewN ?_ _) | (with_reducible refine Below.alloc ?_ ?_ _) | (with_reducible refine Below.setCell ?_ ?_ _) | (with_reducible refine belowStep (by assumption) ?_ ?_) | (with_reducible exact Below.size (by assumption)) | go_size))⟩
            | false =>
              obtain ⟨a1, a2, _, _, a5⟩ := TA.out
              obtain ⟨q1, q2, _, _, q5⟩ := TB.out
              go_wp2_with fail
              refine (sub_yes _ _ _ _ _ Ha.out Hb.out hc).mono ?_; rintro e w13 ⟨rfl, hb13⟩; have hz13 := hb13.size; (try simp only [World.size_alloc, World.size_setCell, World.size_drew, World.heap_drewN] at hz13)
              clear a1 a2 a5 q1 q2 q5
              have TA := Lib.hid ((TA.out.below hb13).below ((Below.refl _ _).alloc (Nat.le_refl _) (.cells #[.int .i64 (redN (n * e' - m * d) (d * e')), .int .i64 (redD (n * e' - m * d) (d * e'))] 25)))
              obtain ⟨a1, a2, _, _, a5⟩ := TA.out
              go_wp2_with fail
              refine (floor_yes _ _ _ Ha.out).mono ?_; rintro e w14 ⟨rfl, hb14⟩; have hz14 := hb14.size; (try simp only [World.size_alloc, World.size_setCell, World.size_drew, World.heap_drewN] at hz14)
              clear a1 a2 a5
              have TA := Lib.hid (TA.out.below hb14)
              obtain ⟨a1, a2, _, _, a5⟩ := TA.out
              go_wp2_with fail
              refine (ceiling_yes _ _ _ Ha.out).mono ?_; rintro e w15 ⟨rfl, hb15⟩; have hz15 := hb15.size; (try simp only [World.size_alloc, World.size_setCell, World.size_drew, World.heap_drewN] at hz15)
              clear a1 a2 a5
              obtain ⟨a1, a2, _, _, a5⟩ := TA.out.below hb15
              obtain ⟨k1, k2, k3, k4, k5, k6, k7, k8, k9, k10⟩ := HW.out
              go_wp2
              go_ret
              exact ⟨rfl, by (repeat' (first | (with_reducible exact Below.refl _ _) | (with_reducible assumption) | (with_reducible refine Below.drew ?_) | (with_reducible refine belowDrewN ?_ _) | (with_reducible refine Below.alloc ?_ ?_ _) | (with_reducible refine Below.setCell ?_ ?_ _) | (with_reducible refine belowStep (by assumption) ?_ ?_) | (with_reducible exact Below.size (by assumption)) | go_size))⟩
          · have hc' : n * e' < m * d := by omega
            clear hc
            obtain ⟨a1, a2, _, _, a5⟩ := TA.out
            obtain ⟨q1, q2, _, _, q5⟩ := TB.out
            go_wp2_with fail
            refine (sub_less _ _ _ _ _ Ha.out Hb.out hc').mono ?_; rintro e w13 ⟨rfl, hb13⟩; have hz13 := hb13.size; (try simp only [World.size_alloc, World.size_setCell, World.size_drew, World.heap_drewN] at hz13)
            clear a1 a2 a5 q1 q2 q5
            have TA := Lib.hid ((TA.out.below hb13).below ((Below.refl _ _).alloc (Nat.le_refl _) (.cells #[.int .i64 (0), .int .i64 (0)] 25)))
            obtain ⟨a1, a2, _, _, a5⟩ := TA.out
            go_wp2_with fail
            refine (floor_yes _ _ _ Ha.out).mono ?_; rintro e w14 ⟨rfl, hb14⟩; have hz14 := hb14.size; (try simp only [World.size_alloc, World.size_setCell, World.size_drew, World.heap_drewN] at hz14)
            clear a1 a2 a5
            have TA := Lib.hid (TA.out.below hb14)
            obtain ⟨a1, a2, _, _, a5⟩ := TA.out
            go_wp2_with fail
            refine (ceiling_yes _ _ _ Ha.out).mono ?_; rintro e w15 ⟨rfl, hb15⟩; have hz15 := hb15.size; (try simp only [World.size_alloc, World.size_setCell, World.size_drew, World.heap_drewN] at hz15)
            clear a1 a2 a5
            obtain ⟨a1, a2, _, _, a5⟩ := TA.out.below hb15
            obtain ⟨k1, k2, k3, k4, k5, k6, k7, k8, k9, k10⟩ := HW.out
            go_wp2
            go_ret
            exact ⟨rfl, by (repeat' (first | (with_reducible exact Below.refl _ _) | (with_reducible assumption) | (with_reducible refine Below.drew ?_) | (with_reducible refine belowDrewN ?_ _) | (with_reducible refine Below.alloc ?_ ?_ _) | (with_reducible refine Below.setCell ?_ ?_ _) | (with_reducible refine belowStep (by assumption) ?_ ?_) | (with_reducible exact Below.size (by assumption)) | go_size))⟩
    · have H := Lib.hid h
      clear h
      go_wp2_with fail
      refine (add_no _ _ _ _ _ rn rd rm re H.out).mono ?_; rintro e w3 ⟨rfl, hb3⟩; have hz3 := hb3.size; (try simp only [World.size_alloc, World.size_setCell, World.size_drew, World.heap_drewN] at hz3)
      obtain ⟨hc3, hf3⟩ := bcellB hb3; have hz3 := hb3.size; (try simp only [World.size_alloc, World.size_setCell, World.size_drew, World.heap_drewN] at hc3 hf3 hz3); (try have hy3_r_0 : wr.heap.size < w3.heap.size := by omega); (try have hn3_r_0 : wr.heap.size ≠ w3.heap.size := by omega); (try have hm3_r_0 : w3.heap.size ≠ wr.heap.size := by omega); (try have hy3_r_1 : wr.heap.size + 1 < w3.heap.size := by omega); (try have hn3_r_1 : wr.heap.size + 1 ≠ w3.heap.size := by omega); (try have hm3_r_1 : w3.heap.size ≠ wr.heap.size + 1 := by omega); (try have hy3_r_2 : wr.heap.size + 1 + 1 < w3.heap.size := by omega); (try have hp3_r_1 : wr.heap.size < w3.heap.size + 1 := by omega); (try have hp3_r_2 : wr.heap.size < w3.heap.size + 1 + 1 := by omega); (try have hy3_0_0 : w.heap.size < w3.heap.size := by omega); (try have hn3_0_0 : w.heap.size ≠ w3.heap.size := by omega); (try have hm3_0_0 : w3.heap.size ≠ w.heap.size := by omega); (try have hy3_0_1 : w.heap.size + 1 < w3.heap.size := by omega); (try have hn3_0_1 : w.heap.size + 1 ≠ w3.heap.size := by omega); (try have hm3_0_1 : w3.heap.size ≠ w.heap.size + 1 := by omega); (try have hy3_0_2 : w.heap.size + 1 + 1 < w3.heap.size := by omega); (try have hp3_0_1 : w.heap.size < w3.heap.size + 1 := by omega); (try have hp3_0_2 : w.heap.size < w3.heap.size + 1 + 1 := by omega); (try have hy3_1_0 : w1.heap.size < w3.heap.size := by omega); (try have hn3_1_0 : w1.heap.size ≠ w3.heap.size := by omega); (try have hm3_1_0 : w3.heap.size ≠ w1.heap.size := by omega); (try have hy3_1_1 : w1.heap.size + 1 < w3.heap.size := by omega); (try have hn3_1_1 : w1.heap.size + 1 ≠ w3.heap.size := by omega); (try have hm3_1_1 : w3.heap.size ≠ w1.heap.size + 1 := by omega); (try have hy3_1_2 : w1.heap.size + 1 + 1 < w3.heap.size := by omega); (try have hp3_1_1 : w1.heap.size < w3.heap.size + 1 := by omega); (try have hp3_1_2 : w1.heap.size < w3.heap.size + 1 + 1 := by omega); (try have hy3_2_0 : w2.heap.size < w3.heap.size := by omega); (try have hn3_2_0 : w2.heap.size ≠ w3.heap.size := by omega); (try have hm3_2_0 : w3.heap.size ≠ w2.heap.size := by omega); (try have hy3_2_1 : w2.heap.size + 1 < w3.heap.size := by omega); (try have hn3_2_1 : w2.heap.size + 1 ≠ w3.heap.size := by omega); (try have hm3_2_1 : w3.heap.size ≠ w2.heap.size + 1 := by omega); (try have hy3_2_2 : w2.heap.size + 1 + 1 < w3.heap.size := by omega); (try have hp3_2_1 : w2.heap.size < w3.heap.size + 1 := by omega); (try have hp3_2_2 : w2.heap.size < w3.heap.size + 1 + 1 := by omega); (try have hg3_g1 : g1 < w3.heap.size := by omega); (try have hi3_g1 : g1 ≠ w3.heap.size := by omega); (try have hj3_g1 : w3.heap.size ≠ g1 := by omega); (try have hk3_g1 : g1 < w3.heap.size + 1 := by omega); (try have hg3_g2 : g2 < w3.heap.size := by omega); (try have hi3_g2 : g2 ≠ w3.heap.size := by omega); (try have hj3_g2 : w3.heap.size ≠ g2 := by omega); (try have hk3_g2 : g2 < w3.heap.size + 1 := by omega)
      go_wp2_with fail
      refine (spec_add_no _ _ _ _ _ rn rd rm re H.out).mono ?_; rintro e w4 ⟨rfl, hb4⟩; have hz4 := hb4.size; (try simp only [World.size_alloc, World.size_setCell, World.size_drew, World.heap_drewN] at hz4)
      obtain ⟨hc4, hf4⟩ := bcellB hb4; have hz4 := hb4.size; (try simp only [World.size_alloc, World.size_setCell, World.size_drew, World.heap_drewN] at hc4 hf4 hz4); (try have hy4_r_0 : wr.heap.size < w4.heap.size := by omega); (try have hn4_r_0 : wr.heap.size ≠ w4.heap.size := by omega); (try have hm4_r_0 : w4.heap.size ≠ wr.heap.size := by omega); (try have hy4_r_1 : wr.heap.size + 1 < w4.heap.size := by omega); (try have hn4_r_1 : wr.heap.size + 1 ≠ w4.heap.size := by omega); (try have hm4_r_1 : w4.heap.size ≠ wr.heap.size + 1 := by omega); (try have hy4_r_2 : wr.heap.size + 1 + 1 < w4.heap.size := by omega); (try have hp4_r_1 : wr.heap.size < w4.heap.size + 1 := by omega); (try have hp4_r_2 : wr.heap.size < w4.heap.size + 1 + 1 := by omega); (try have hy4_0_0 : w.heap.size < w4.heap.size := by omega); (try have hn4_0_0 : w.heap.size ≠ w4.heap.size := by omega); (try have hm4_0_0 : w4.heap.size ≠ w.heap.size := by omega); (try have hy4_0_1 : w.heap.size + 1 < w4.heap.size := by omega); (try have hn4_0_1 : w.heap.size + 1 ≠ w4.heap.size := by omega); (try have hm4_0_1 : w4.heap.size ≠ w.heap.size + 1 := by omega); (try have hy4_0_2 : w.heap.size + 1 + 1 < w4.heap.size := by omega); (try have hp4_0_1 : w.heap.size < w4.heap.size + 1 := by omega); (try have hp4_0_2 : w.heap.size < w4.heap.size + 1 + 1 := by omega); (try have hy4_1_0 : w1.heap.size < w4.heap.size := by omega); (try have hn4_1_0 : w1.heap.size ≠ w4.heap.size := by omega); (try have hm4_1_0 : w4.heap.size ≠ w1.heap.size := by omega); (try have hy4_1_1 : w1.heap.size + 1 < w4.heap.size := by omega); (try have hn4_1_1 : w1.heap.size + 1 ≠ w4.heap.size := by omega); (try have hm4_1_1 : w4.heap.size ≠ w1.heap.size + 1 := by omega); (try have hy4_1_2 : w1.heap.size + 1 + 1 < w4.heap.size := by omega); (try have hp4_1_1 : w1.heap.size < w4.heap.size + 1 := by omega); (try have hp4_1_2 : w1.heap.size < w4.heap.size + 1 + 1 := by omega); (try have hy4_2_0 : w2.heap.size < w4.heap.size := by omega); (try have hn4_2_0 : w2.heap.size ≠ w4.heap.size := by omega); (try have hm4_2_0 : w4.heap.size ≠ w2.heap.size := by omega); (try have hy4_2_1 : w2.heap.size + 1 < w4.heap.size := by omega); (try have hn4_2_1 : w2.heap.size + 1 ≠ w4.heap.size := by omega); (try have hm4_2_1 : w4.heap.size ≠ w2.heap.size + 1 := by omega); (try have hy4_2_2 : w2.heap.size + 1 + 1 < w4.heap.size := by omega); (try have hp4_2_1 : w2.heap.size < w4.heap.size + 1 := by omega); (try have hp4_2_2 : w2.heap.size < w4.heap.size + 1 + 1 := by omega); (try have hy4_3_0 : w3.heap.size < w4.heap.size := by omega); (try have hn4_3_0 : w3.heap.size ≠ w4.heap.size := by omega); (try have hm4_3_0 : w4.heap.size ≠ w3.heap.size := by omega); (try have hy4_3_1 : w3.heap.size + 1 < w4.heap.size := by omega); (try have hn4_3_1 : w3.heap.size + 1 ≠ w4.heap.size := by omega); (try have hm4_3_1 : w4.heap.size ≠ w3.heap.size + 1 := by omega); (try have hy4_3_2 : w3.heap.size + 1 + 1 < w4.heap.size := by omega); (try have hp4_3_1 : w3.heap.size < w4.heap.size + 1 := by omega); (try have hp4_3_2 : w3.heap.size < w4.heap.size + 1 + 1 := by omega); (try have hg4_g1 : g1 < w4.heap.size := by omega); (try have hi4_g1 : g1 ≠ w4.heap.size := by omega); (try have hj4_g1 : w4.heap.size ≠ g1 := by omega); (try have hk4_g1 : g1 < w4.heap.size + 1 := by omega); (try have hg4_g2 : g2 < w4.heap.size := by omega); (try have hi4_g2 : g2 ≠ w4.heap.size := by omega); (try have hj4_g2 : w4.heap.size ≠ g2 := by omega); (try have hk4_g2 : g2 < w4.heap.size + 1 := by omega)
      go_wp2_with fail
      refine (mul_no _ _ _ _ _ rn rd rm re H.out).mono ?_; rintro e w5 ⟨rfl, hb5⟩; have hz5 := hb5.size; (try simp only [World.size_alloc, World.size_setCell, World.size_drew, World.heap_drewN] at hz5)
      obtain ⟨hc5, hf5⟩ := bcellB hb5; have hz5 := hb5.size; (try simp only [World.size_alloc, World.size_setCell, World.size_drew, World.heap_drewN] at hc5 hf5 hz5); (try have hy5_r_0 : wr.heap.size < w5.heap.size := by omega); (try have hn5_r_0 : wr.heap.size ≠ w5.heap.size := by omega); (try have hm5_r_0 : w5.heap.size ≠ wr.heap.size := by omega); (try have hy5_r_1 : wr.heap.size + 1 < w5.heap.size := by omega); (try have hn5_r_1 : wr.heap.size + 1 ≠ w5.heap.size := by omega); (try have hm5_r_1 : w5.heap.size ≠ wr.heap.size + 1 := by omega); (try have hy5_r_2 : wr.heap.size + 1 + 1 < w5.heap.size := by omega); (try have hp5_r_1 : wr.heap.size < w5.heap.size + 1 := by omega); (try have hp5_r_2 : wr.heap.size < w5.heap.size + 1 + 1 := by omega); (try have hy5_0_0 : w.heap.size < w5.heap.size := by omega); (try have hn5_0_0 : w.heap.size ≠ w5.heap.size := by omega); (try have hm5_0_0 : w5.heap.size ≠ w.heap.size := by omega); (try have hy5_0_1 : w.heap.size + 1 < w5.heap.size := by omega); (try have hn5_0_1 : w.heap.size + 1 ≠ w5.heap.size := by omega); (try have hm5_0_1 : w5.heap.size ≠ w.heap.size + 1 := by omega); (try have hy5_0_2 : w.heap.size + 1 + 1 < w5.heap.size := by omega); (try have hp5_0_1 : w.heap.size < w5.heap.size + 1 := by omega); (try have hp5_0_2 : w.heap.size < w5.heap.size + 1 + 1 := by omega); (try have hy5_1_0 : w1.heap.size < w5.heap.size := by omega); (try have hn5_1_0 : w1.heap.size ≠ w5.heap.size := by omega); (try have hm5_1_0 : w5.heap.size ≠ w1.heap.size := by omega); (try have hy5_1_1 : w1.heap.size + 1 < w5.heap.size := by omega); (try have hn5_1_1 : w1.heap.size + 1 ≠ w5.heap.size := by omega); (try have hm5_1_1 : w5.heap.size ≠ w1.heap.size + 1 := by omega); (try have hy5_1_2 : w1.heap.size + 1 + 1 < w5.heap.size := by omega); (try have hp5_1_1 : w1.heap.size < w5.heap.size + 1 := by omega); (try have hp5_1_2 : w1.heap.size < w5.heap.size + 1 + 1 := by omega); (try have hy5_2_0 : w2.heap.size < w5.heap.size := by omega); (try have hn5_2_0 : w2.heap.size ≠ w5.heap.size := by omega); (try have hm5_2_0 : w5.heap.size ≠ w2.heap.size := by omega); (try have hy5_2_1 : w2.heap.size + 1 < w5.heap.size := by omega); (try have hn5_2_1 : w2.heap.size + 1 ≠ w5.heap.size := by omega); (try have hm5_2_1 : w5.heap.size ≠ w2.heap.size + 1 := by omega); (try have hy5_2_2 : w2.heap.size + 1 + 1 < w5.heap.size := by omega); (try have hp5_2_1 : w2.heap.size < w5.heap.size + 1 := by omega); (try have hp5_2_2 : w2.heap.size < w5.heap.size + 1 + 1 := by omega); (try have hy5_3_0 : w3.heap.size < w5.heap.size := by omega); (try have hn5_3_0 : w3.heap.size ≠ w5.heap.size := by omega); (try have hm5_3_0 : w5.heap.size ≠ w3.heap.size := by omega); (try have hy5_3_1 : w3.heap.size + 1 < w5.heap.size := by omega); (try have hn5_3_1 : w3.heap.size + 1 ≠ w5.heap.size := by omega); (try have hm5_3_1 : w5.heap.size ≠ w3.heap.size + 1 := by omega); (try have hy5_3_2 : w3.heap.size + 1 + 1 < w5.heap.size := by omega); (try have hp5_3_1 : w3.heap.size < w5.heap.size + 1 := by omega); (try have hp5_3_2 : w3.heap.size < w5.heap.size + 1 + 1 := by omega); (try have hy5_4_0 : w4.heap.size < w5.heap.size := by omega); (try have hn5_4_0 : w4.heap.size ≠ w5.heap.size := by omega); (try have hm5_4_0 : w5.heap.size ≠ w4.heap.size := by omega); (try have hy5_4_1 : w4.heap.size + 1 < w5.heap.size := by omega); (try have hn5_4_1 : w4.heap.size + 1 ≠ w5.heap.size := by omega); (try have hm5_4_1 : w5.heap.size ≠ w4.heap.size + 1 := by omega); (try have hy5_4_2 : w4.heap.size + 1 + 1 < w5.heap.size := by omega); (try have hp5_4_1 : w4.heap.size < w5.heap.size + 1 := by omega); (try have hp5_4_2 : w4.heap.size < w5.heap.size + 1 + 1 := by omega); (try have hg5_g1 : g1 < w5.heap.size := by omega); (try have hi5_g1 : g1 ≠ w5.heap.size := by omega); (try have hj5_g1 : w5.heap.size ≠ g1 := by omega); (try have hk5_g1 : g1 < w5.heap.size + 1 := by omega); (try have hg5_g2 : g2 < w5.heap.size := by omega); (try have hi5_g2 : g2 ≠ w5.heap.size := by omega); (try have hj5_g2 : w5.heap.size ≠ g2 := by omega); (try have hk5_g2 : g2 < w5.heap.size + 1 := by omega)
      go_wp2_with fail
      refine (spec_mul_no _ _ _ _ _ rn rd rm re H.out).mono ?_; rintro e w6 ⟨rfl, hb6⟩; have hz6 := hb6.size; (try simp only [World.size_alloc, World.size_setCell, World.size_drew, World.heap_drewN] at hz6)
      obtain ⟨hc6, hf6⟩ := bcellB hb6; have hz6 := hb6.size; (try simp only [World.size_alloc, World.size_setCell, World.size_drew, World.heap_drewN] at hc6 hf6 hz6); (try have hy6_r_0 : wr.heap.size < w6.heap.size := by omega); (try have hn6_r_0 : wr.heap.size ≠ w6.heap.size := by omega); (try have hm6_r_0 : w6.heap.size ≠ wr.heap.size := by omega); (try have hy6_r_1 : wr.heap.size + 1 < w6.heap.size := by omega); (try have hn6_r_1 : wr.heap.size + 1 ≠ w6.heap.size := by omega); (try have hm6_r_1 : w6.heap.size ≠ wr.heap.size + 1 := by omega); (try have hy6_r_2 : wr.heap.size + 1 + 1 < w6.heap.size := by omega); (try have hp6_r_1 : wr.heap.size < w6.heap.size + 1 := by omega); (try have hp6_r_2 : wr.heap.size < w6.heap.size + 1 + 1 := by omega); (try have hy6_0_0 : w.heap.size < w6.heap.size := by omega); (try have hn6_0_0 : w.heap.size ≠ w6.heap.size := by omega); (try have hm6_0_0 : w6.heap.size ≠ w.heap.size := by omega); (try have hy6_0_1 : w.heap.size + 1 < w6.heap.size := by omega); (try have hn6_0_1 : w.heap.size + 1 ≠ w6.heap.size := by omega); (try have hm6_0_1 : w6.heap.size ≠ w.heap.size + 1 := by omega); (try have hy6_0_2 : w.heap.size + 1 + 1 < w6.heap.size := by omega); (try have hp6_0_1 : w.heap.size < w6.heap.size + 1 := by omega); (try have hp6_0_2 : w.heap.size < w6.heap.size + 1 + 1 := by omega); (try have hy6_1_0 : w1.heap.size < w6.heap.size := by omega); (try have hn6_1_0 : w1.heap.size ≠ w6.heap.size := by omega); (try have hm6_1_0 : w6.heap.size ≠ w1.heap.size := by omega); (try have hy6_1_1 : w1.heap.size + 1 < w6.heap.size := by omega); (try have hn6_1_1 : w1.heap.size + 1 ≠ w6.heap.size := by omega); (try have hm6_1_1 : w6.heap.size ≠ w1.heap.size + 1 := by omega); (try have hy6_1_2 : w1.heap.size + 1 + 1 < w6.heap.size := by omega); (try have hp6_1_1 : w1.heap.size < w6.heap.size + 1 := by omega); (try have hp6_1_2 : w1.heap.size < w6.heap.size + 1 + 1 := by omega); (try have hy6_2_0 : w2.heap.size < w6.heap.size := by omega); (try have hn6_2_0 : w2.heap.size ≠ w6.heap.size := by omega); (try have hm6_2_0 : w6.heap.size ≠ w2.heap.size := by omega); (try have hy6_2_1 : w2.heap.size + 1 < w6.heap.size := by omega); (try have hn6_2_1 : w2.heap.size + 1 ≠ w6.heap.size := by omega); (try have hm6_2_1 : w6.heap.size ≠ w2.heap.size + 1 := by omega); (try have hy6_2_2 : w2.heap.size + 1 + 1 < w6.heap.size := by omega); (try have hp6_2_1 : w2.heap.size < w6.heap.size + 1 := by omega); (try have hp6_2_2 : w2.heap.size < w6.heap.size + 1 + 1 := by omega); (try have hy6_3_0 : w3.heap.size < w6.heap.size := by omega); (try have hn6_3_0 : w3.heap.size ≠ w6.heap.size := by omega); (try have hm6_3_0 : w6.heap.size ≠ w3.heap.size := by omega); (try have hy6_3_1 : w3.heap.size + 1 < w6.heap.size := by omega); (try have hn6_3_1 : w3.heap.size + 1 ≠ w6.heap.size := by omega); (try have hm6_3_1 : w6.heap.size ≠ w3.heap.size + 1 := by omega); (try have hy6_3_2 : w3.heap.size + 1 + 1 < w6.heap.size := by omega); (try have hp6_3_1 : w3.heap.size < w6.heap.size + 1 := by omega); (try have hp6_3_2 : w3.heap.size < w6.heap.size + 1 + 1 := by omega); (try have hy6_4_0 : w4.heap.size < w6.heap.size := by omega); (try have hn6_4_0 : w4.heap.size ≠ w6.heap.size := by omega); (try have hm6_4_0 : w6.heap.size ≠ w4.heap.size := by omega); (try have hy6_4_1 : w4.heap.size + 1 < w6.heap.size := by omega); (try have hn6_4_1 : w4.heap.size + 1 ≠ w6.heap.size := by omega); (try have hm6_4_1 : w6.heap.size ≠ w4.heap.size + 1 := by omega); (try have hy6_4_2 : w4.heap.size + 1 + 1 < w6.heap.size := by omega); (try have hp6_4_1 : w4.heap.size < w6.heap.size + 1 := by omega); (try have hp6_4_2 : w4.heap.size < w6.heap.size + 1 + 1 := by omega); (try have hy6_5_0 : w5.heap.size < w6.heap.size := by omega); (try have hn6_5_0 : w5.heap.size ≠ w6.heap.size := by omega); (try have hm6_5_0 : w6.heap.size ≠ w5.heap.size := by omega); (try have hy6_5_1 : w5.heap.size + 1 < w6.heap.size := by omega); (try have hn6_5_1 : w5.heap.size + 1 ≠ w6.heap.size := by omega); (try have hm6_5_1 : w6.heap.size ≠ w5.heap.size + 1 := by omega); (try have hy6_5_2 : w5.heap.size + 1 + 1 < w6.heap.size := by omega); (try have hp6_5_1 : w5.heap.size < w6.heap.size + 1 := by omega); (try have hp6_5_2 : w5.heap.size < w6.heap.size + 1 + 1 := by omega); (try have hg6_g1 : g1 < w6.heap.size := by omega); (try have hi6_g1 : g1 ≠ w6.heap.size := by omega); (try have hj6_g1 : w6.heap.size ≠ g1 := by omega); (try have hk6_g1 : g1 < w6.heap.size + 1 := by omega); (try have hg6_g2 : g2 < w6.heap.size := by omega); (try have hi6_g2 : g2 ≠ w6.heap.size := by omega); (try have hj6_g2 : w6.heap.size ≠ g2 := by omega); (try have hk6_g2 : g2 < w6.heap.size + 1 := by omega)
      go_wp2_with fail
      refine (cmp_no _ _ _ _ _ rn rd rm re H.out).mono ?_; rintro e w7 ⟨rfl, hb7⟩; have hz7 := hb7.size; (try simp only [World.size_alloc, World.size_setCell, World.size_drew, World.heap_drewN] at hz7)
      obtain ⟨hc7, hf7⟩ := bcellB hb7; have hz7 := hb7.size; (try simp only [World.size_alloc, World.size_setCell, World.size_drew, World.heap_drewN] at hc7 hf7 hz7); (try have hy7_r_0 : wr.heap.size < w7.heap.size := by omega); (try have hn7_r_0 : wr.heap.size ≠ w7.heap.size := by omega); (try have hm7_r_0 : w7.heap.size ≠ wr.heap.size := by omega); (try have hy7_r_1 : wr.heap.size + 1 < w7.heap.size := by omega); (try have hn7_r_1 : wr.heap.size + 1 ≠ w7.heap.size := by omega); (try have hm7_r_1 : w7.heap.size ≠ wr.heap.size + 1 := by omega); (try have hy7_r_2 : wr.heap.size + 1 + 1 < w7.heap.size := by omega); (try have hp7_r_1 : wr.heap.size < w7.heap.size + 1 := by omega); (try have hp7_r_2 : wr.heap.size < w7.heap.size + 1 + 1 := by omega); (try have hy7_0_0 : w.heap.size < w7.heap.size := by omega); (try have hn7_0_0 : w.heap.size ≠ w7.heap.size := by omega); (try have hm7_0_0 : w7.heap.size ≠ w.heap.size := by omega); (try have hy7_0_1 : w.heap.size + 1 < w7.heap.size := by omega); (try have hn7_0_1 : w.heap.size + 1 ≠ w7.heap.size := by omega); (try have hm7_0_1 : w7.heap.size ≠ w.heap.size + 1 := by omega); (try have hy7_0_2 : w.heap.size + 1 + 1 < w7.heap.size := by omega); (try have hp7_0_1 : w.heap.size < w7.heap.size + 1 := by omega); (try have hp7_0_2 : w.heap.size < w7.heap.size + 1 + 1 := by omega); (try have hy7_1_0 : w1.heap.size < w7.heap.size := by omega); (try have hn7_1_0 : w1.heap.size ≠ w7.heap.size := by omega); (try have hm7_1_0 : w7.heap.size ≠ w1.heap.size := by omega); (try have hy7_1_1 : w1.heap.size + 1 < w7.heap.size := by omega); (try have hn7_1_1 : w1.heap.size + 1 ≠ w7.heap.size := by omega); (try have hm7_1_1 : w7.heap.size ≠ w1.heap.size + 1 := by omega); (try have hy7_1_2 : w1.heap.size + 1 + 1 < w7.heap.size := by omega); (try have hp7_1_1 : w1.heap.size < w7.heap.size + 1 := by omega); (try have hp7_1_2 : w1.heap.size < w7.heap.size + 1 + 1 := by omega); (try have hy7_2_0 : w2.heap.size < w7.heap.size := by omega); (try have hn7_2_0 : w2.heap.size ≠ w7.heap.size := by omega); (try have hm7_2_0 : w7.heap.size ≠ w2.heap.size := by omega); (try have hy7_2_1 : w2.heap.size + 1 < w7.heap.size := by omega); (try have hn7_2_1 : w2.heap.size + 1 ≠ w7.heap.size := by omega); (try have hm7_2_1 : w7.heap.size ≠ w2.heap.size + 1 := by omega); (try have hy7_2_2 : w2.heap.size + 1 + 1 < w7.heap.size := by omega); (try have hp7_2_1 : w2.heap.size < w7.heap.size + 1 := by omega); (try have hp7_2_2 : w2.heap.size < w7.heap.size + 1 + 1 := by omega); (try have hy7_3_0 : w3.heap.size < w7.heap.size := by omega); (try have hn7_3_0 : w3.heap.size ≠ w7.heap.size := by omega); (try have hm7_3_0 : w7.heap.size ≠ w3.heap.size := by omega); (try have hy7_3_1 : w3.heap.size + 1 < w7.heap.size := by omega); (try have hn7_3_1 : w3.heap.size + 1 ≠ w7.heap.size := by omega); (try have hm7_3_1 : w7.heap.size ≠ w3.heap.size + 1 := by omega); (try have hy7_3_2 : w3.heap.size + 1 + 1 < w7.heap.size := by omega); (try have hp7_3_1 : w3.heap.size < w7.heap.size + 1 := by omega); (try have hp7_3_2 : w3.heap.size < w7.heap.size + 1 + 1 := by omega); (try have hy7_4_0 : w4.heap.size < w7.heap.size := by omega); (try have hn7_4_0 : w4.heap.size ≠ w7.heap.size := by omega); (try have hm7_4_0 : w7.heap.size ≠ w4.heap.size := by omega); (try have hy7_4_1 : w4.heap.size + 1 < w7.heap.size := by omega); (try have hn7_4_1 : w4.heap.size + 1 ≠ w7.heap.size := by omega); (try have hm7_4_1 : w7.heap.size ≠ w4.heap.size + 1 := by omega); (try have hy7_4_2 : w4.heap.size + 1 + 1 < w7.heap.size := by omega); (try have hp7_4_1 : w4.heap.size < w7.heap.size + 1 := by omega); (try have hp7_4_2 : w4.heap.size < w7.heap.size + 1 + 1 := by omega); (try have hy7_5_0 : w5.heap.size < w7.heap.size := by omega); (try have hn7_5_0 : w5.heap.size ≠ w7.heap.size := by omega); (try have hm7_5_0 : w7.heap.size ≠ w5.heap.size := by omega); (try have hy7_5_1 : w5.heap.size + 1 < w7.heap.size := by omega); (try have hn7_5_1 : w5.heap.size + 1 ≠ w7.heap.size := by omega); (try have hm7_5_1 : w7.heap.size ≠ w5.heap.size + 1 := by omega); (try have hy7_5_2 : w5.heap.size + 1 + 1 < w7.heap.size := by omega); (try have hp7_5_1 : w5.heap.size < w7.heap.size + 1 := by omega); (try have hp7_5_2 : w5.heap.size < w7.heap.size + 1 + 1 := by omega); (try have hy7_6_0 : w6.heap.size < w7.heap.size := by omega); (try have hn7_6_0 : w6.heap.size ≠ w7.heap.size := by omega); (try have hm7_6_0 : w7.heap.size ≠ w6.heap.size := by omega); (try have hy7_6_1 : w6.heap.size + 1 < w7.heap.size := by omega); (try have hn7_6_1 : w6.heap.size + 1 ≠ w7.heap.size := by omega); (try have hm7_6_1 : w7.heap.size ≠ w6.heap.size + 1 := by omega); (try have hy7_6_2 : w6.heap.size + 1 + 1 < w7.heap.size := by omega); (try have hp7_6_1 : w6.heap.size < w7.heap.size + 1 := by omega); (try have hp7_6_2 : w6.heap.size < w7.heap.size + 1 + 1 := by omega); (try have hg7_g1 : g1 < w7.heap.size := by omega); (try have hi7_g1 : g1 ≠ w7.heap.size := by omega); (try have hj7_g1 : w7.heap.size ≠ g1 := by omega); (try have hk7_g1 : g1 < w7.heap.size + 1 := by omega); (try have hg7_g2 : g2 < w7.heap.size := by omega); (try have hi7_g2 : g2 ≠ w7.heap.size := by omega); (try have hj7_g2 : w7.heap.size ≠ g2 := by omega); (try have hk7_g2 : g2 < w7.heap.size + 1 := by omega)
      go_wp2_with fail
      refine (spec_cmp_no _ _ _ _ _ rn rd rm re H.out).mono ?_; rintro e w8 ⟨rfl, hb8⟩; have hz8 := hb8.size; (try simp only [World.size_alloc, World.size_setCell, World.size_drew, World.heap_drewN] at hz8)
      obtain ⟨hc8, hf8⟩ := bcellB hb8; have hz8 := hb8.size; (try simp only [World.size_alloc, World.size_setCell, World.size_drew, World.heap_drewN] at hc8 hf8 hz8); (try have hy8_r_0 : wr.heap.size < w8.heap.size := by omega); (try have hn8_r_0 : wr.heap.size ≠ w8.heap.size := by omega); (try have hm8_r_0 : w8.heap.size ≠ wr.heap.size := by omega); (try have hy8_r_1 : wr.heap.size + 1 < w8.heap.size := by omega); (try have hn8_r_1 : wr.heap.size + 1 ≠ w8.heap.size := by omega); (try have hm8_r_1 : w8.heap.size ≠ wr.heap.size + 1 := by omega); (try have hy8_r_2 : wr.heap.size + 1 + 1 < w8.heap.size := by omega); (try have hp8_r_1 : wr.heap.size < w8.heap.size + 1 := by omega); (try have hp8_r_2 : wr.heap.size < w8.heap.size + 1 + 1 := by omega); (try have hy8_0_0 : w.heap.size < w8.heap.size := by omega); (try have hn8_0_0 : w.heap.size ≠ w8.heap.size := by omega); (try have hm8_0_0 : w8.heap.size ≠ w.heap.size := by omega); (try have hy8_0_1 : w.heap.size + 1 < w8.heap.size := by omega); (try have hn8_0_1 : w.heap.size + 1 ≠ w8.heap.size := by omega); (try have hm8_0_1 : w8.heap.size ≠ w.heap.size + 1 := by omega); (try have hy8_0_2 : w.heap.size + 1 + 1 < w8.heap.size := by omega); (try have hp8_0_1 : w.heap.size < w8.heap.size + 1 := by omega); (try have hp8_0_2 : w.heap.size < w8.heap.size + 1 + 1 := by omega); (try have hy8_1_0 : w1.heap.size < w8.heap.size := by omega); (try have hn8_1_0 : w1.heap.size ≠ w8.heap.size := by omega); (try have hm8_1_0 : w8.heap.size ≠ w1.heap.size := by omega); (try have hy8_1_1 : w1.heap.size + 1 < w8.heap.size := by omega); (try have hn8_1_1 : w1.heap.size + 1 ≠ w8.heap.size := by omega); (try have hm8_1_1 : w8.heap.size ≠ w1.heap.size + 1 := by omega); (try have hy8_1_2 : w1.heap.size + 1 + 1 < w8.heap.size := by omega); (try have hp8_1_1 : w1.heap.size < w8.heap.size + 1 := by omega); (try have hp8_1_2 : w1.heap.size < w8.heap.size + 1 + 1 := by omega); (try have hy8_2_0 : w2.heap.size < w8.heap.size := by omega); (try have hn8_2_0 : w2.heap.size ≠ w8.heap.size := by omega); (try have hm8_2_0 : w8.heap.size ≠ w2.heap.size := by omega); (try have hy8_2_1 : w2.heap.size + 1 < w8.heap.size := by omega); (try have hn8_2_1 : w2.heap.size + 1 ≠ w8.heap.size := by omega); (try have hm8_2_1 : w8.heap.size ≠ w2.heap.size + 1 := by omega); (try have hy8_2_2 : w2.heap.size + 1 + 1 < w8.heap.size := by omega); (try have hp8_2_1 : w2.heap.size < w8.heap.size + 1 := by omega); (try have hp8_2_2 : w2.heap.size < w8.heap.size + 1 + 1 := by omega); (try have hy8_3_0 : w3.heap.size < w8.heap.size := by omega); (try have hn8_3_0 : w3.heap.size ≠ w8.heap.size := by omega); (try have hm8_3_0 : w8.heap.size ≠ w3.heap.size := by omega); (try have hy8_3_1 : w3.heap.size + 1 < w8.heap.size := by omega); (try have hn8_3_1 : w3.heap.size + 1 ≠ w8.heap.size := by omega); (try have hm8_3_1 : w8.heap.size ≠ w3.heap.size + 1 := by omega); (try have hy8_3_2 : w3.heap.size + 1 + 1 < w8.heap.size := by omega); (try have hp8_3_1 : w3.heap.size < w8.heap.size + 1 := by omega); (try have hp8_3_2 : w3.heap.size < w8.heap.size + 1 + 1 := by omega); (try have hy8_4_0 : w4.heap.size < w8.heap.size := by omega); (try have hn8_4_0 : w4.heap.size ≠ w8.heap.size := by omega); (try have hm8_4_0 : w8.heap.size ≠ w4.heap.size := by omega); (try have hy8_4_1 : w4.heap.size + 1 < w8.heap.size := by omega); (try have hn8_4_1 : w4.heap.size + 1 ≠ w8.heap.size := by omega); (try have hm8_4_1 : w8.heap.size ≠ w4.heap.size + 1 := by omega); (try have hy8_4_2 : w4.heap.size + 1 + 1 < w8.heap.size := by omega); (try have hp8_4_1 : w4.heap.size < w8.heap.size + 1 := by omega); (try have hp8_4_2 : w4.heap.size < w8.heap.size + 1 + 1 := by omega); (try have hy8_5_0 : w5.heap.size < w8.heap.size := by omega); (try have hn8_5_0 : w5.heap.size ≠ w8.heap.size := by omega); (try have hm8_5_0 : w8.heap.size ≠ w5.heap.size := by omega); (try have hy8_5_1 : w5.heap.size + 1 < w8.heap.size := by omega); (try have hn8_5_1 : w5.heap.size + 1 ≠ w8.heap.size := by omega); (try have hm8_5_1 : w8.heap.size ≠ w5.heap.size + 1 := by omega); (try have hy8_5_2 : w5.heap.size + 1 + 1 < w8.heap.size := by omega); (try have hp8_5_1 : w5.heap.size < w8.heap.size + 1 := by omega); (try have hp8_5_2 : w5.heap.size < w8.heap.size + 1 + 1 := by omega); (try have hy8_6_0 : w6.heap.size < w8.heap.size := by omega); (try have hn8_6_0 : w6.heap.size ≠ w8.heap.size := by omega); (try have hm8_6_0 : w8.heap.size ≠ w6.heap.size := by omega); (try have hy8_6_1 : w6.heap.size + 1 < w8.heap.size := by omega); (try have hn8_6_1 : w6.heap.size + 1 ≠ w8.heap.size := by omega); (try have hm8_6_1 : w8.heap.size ≠ w6.heap.size + 1 := by omega); (try have hy8_6_2 : w6.heap.size + 1 + 1 < w8.heap.size := by omega); (try have hp8_6_1 : w6.heap.size < w8.heap.size + 1 := by omega); (try have hp8_6_2 : w6.heap.size < w8.heap.size + 1 + 1 := by omega); (try have hy8_7_0 : w7.heap.size < w8.heap.size := by omega); (try have hn8_7_0 : w7.heap.size ≠ w8.heap.size := by omega); (try have hm8_7_0 : w8.heap.size ≠ w7.heap.size := by omega); (try have hy8_7_1 : w7.heap.size + 1 < w8.heap.size := by omega); (try have hn8_7_1 : w7.heap.size + 1 ≠ w8.heap.size := by omega); (try have hm8_7_1 : w8.heap.size ≠ w7.heap.size + 1 := by omega); (try have hy8_7_2 : w7.heap.size + 1 + 1 < w8.heap.size := by omega); (try have hp8_7_1 : w7.heap.size < w8.heap.size + 1 := by omega); (try have hp8_7_2 : w7.heap.size < w8.heap.size + 1 + 1 := by omega); (try have hg8_g1 : g1 < w8.heap.size := by omega); (try have hi8_g1 : g1 ≠ w8.heap.size := by omega); (try have hj8_g1 : w8.heap.size ≠ g1 := by omega); (try have hk8_g1 : g1 < w8.heap.size + 1 := by omega); (try have hg8_g2 : g2 < w8.heap.size := by omega); (try have hi8_g2 : g2 ≠ w8.heap.size := by omega); (try have hj8_g2 : w8.heap.size ≠ g2 := by omega); (try have hk8_g2 : g2 < w8.heap.size + 1 := by omega)
      go_wp2
      go_ret
      exact ⟨rfl, by (repeat' (first | (with_reducible exact Below.refl _ _) | (with_reducible assumption) | (with_reducible refine Below.drew ?_) | (with_reducible refine belowDrewN ?_ _) | (with_reducible refine Below.alloc ?_ ?_ _) | (with_reducible refine Below.setCell ?_ ?_ _) | (with_reducible refine belowStep (by assumption) ?_ ?_) | (with_reducible exact Below.size (by assumption)) | go_size))⟩

set_option maxRecDepth 100000 in
theorem FnArithmetic_lifted (os : Os) (started : os.Started) (H : Type) (enc : TypeId × Value → H) :
    ReturnsInHanded {} Try.checked os 3 .any (Rows.fnArithmeticSpec.pre6 enc Try.prog Try.f3 Rows.fnArithmeticRow.domain false) (Rows.fnArithmeticSpec.post enc Try.prog Try.f3 false true false false) := by
  refine returnsInHanded_of_change (C := Try.checked) own started (by kernel_rfl) Try.func3
    (ChangeSpec.witness6 (enc := enc) (C := Try.checked) false ⟨#[], #[.slice none 0 0, .slice none 0 0], []⟩ 8 (by kernel_rfl) (by kernel_rfl) (by kernel_rfl) (by kernel_rfl)) ?_
  intro W base args ds gs before hval0 hW hcnd _
  have hval : ∀ (j : Nat) t v, Try.f3.params[j]? = some t → args[j]? = some v → Value.okWide Try.prog W .any base t v := hval0
  have hW' := hW
  have hlt : ∀ p ∈ before, p.block < W.heap.size := fun p hp => hW'.lt p hp
  obtain ⟨p, q, hA0, hV, rfl, hfz, hnd⟩ := hW
  have hA : DataW.TrodAll enc Try.prog W 0 (fun _ => true) true Try.f3.params.toList args.toList ds p := hA0
  rw [Try.params3] at hA hval
  obtain ⟨v0, vs0, d0, ds0, p0, q0, hargs, rfl, rfl, h0, r0⟩ := trodAll_cons hA
  obtain ⟨v1, vs1, d1, ds1, p1, q1, rfl, rfl, rfl, h1, r1⟩ := trodAll_cons r0
  obtain ⟨rfl, rfl, rfl⟩ := trodAll_nil r1
  obtain rfl : args = #[v0, v1] := by cases args; simp_all
  obtain ⟨rfl, rfl⟩ := trodVars_none hV
  obtain ⟨Aa, ca, na, rfl, ha⟩ := open_bytes_reads Try.underlying22 Try.underlying5 (by kernel_rfl) (hval 0 22 v0 rfl rfl) h0 (fun y hy => hlt y (by simp [hy]))
  obtain ⟨Ab, cb, nb, rfl, hb⟩ := open_bytes_reads Try.underlying22 Try.underlying5 (by kernel_rfl) (hval 1 22 v1 rfl rfl) h1 (fun y hy => hlt y (by simp [hy]))
  refine (FnArithmetic_walk W Aa ca na Ab cb nb ha hb).mono fun e W' ⟨he, hg⟩ => ?_
  subst he
  exact ⟨_, rfl, law_post laidOut (by rw [Try.params3]; intro t ht; simp only [List.mem_cons, List.not_mem_nil, or_false] at ht; rcases ht with rfl | rfl <;> exact ⟨by kernel_rfl, of_decide_eq_true (by kernel_rfl)⟩) (by kernel_rfl) Try.underlying4 rfl hW' rfl hg⟩

theorem FnArithmetic_closed : joinedFacts Try.prog 3 Try.f3 Rows.fnArithmeticSpec Rows.fnArithmeticRow = true := by
  unfold joinedFacts
  rw [mayEnter_eq, lifts_eq, make_eq]
  kernel_rfl

theorem FnArithmetic_holds : Rows.FnArithmeticSaid :=
  OpenClaim.holds_of_wide 3 Try.f3 rfl rfl rfl rfl rfl rfl rfl ⟨rfl, rfl, rfl, rfl, rfl⟩ rfl rfl rfl rfl rfl (by kernel_rfl) Try.func3 FnArithmetic_closed
    (of_decide_eq_true (by kernel_rfl)) (by unfold Func.isWrapper; first | (rw [if_pos (by decide +kernel)]; kernel_rfl) | (rw [if_neg (by decide +kernel)]; exact ⟨rfl, rfl⟩))
    (fun os started H enc _ => FnArithmetic_lifted os started H enc)

end Go.Proofs.Ytfcklhppemidhaa
