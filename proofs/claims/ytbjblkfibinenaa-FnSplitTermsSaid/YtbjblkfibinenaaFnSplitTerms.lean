
/-
  For all bytes: splits are drawn; the program's splits are the model's; they keep the sum, make one term more, and the two that a term has become are merged to it again. No condition.
-/
import Derived.Test.YtbjblkfibinenaaSplitsP
import Derived.Test.YtbjblkfibinenaaSplitsD
import Derived.Test.YtbjblkfibinenaaSplitT
import Derived.Test.YtbjblkfibinenaaMergePair
import Derived.Test.YtbjblkfibinenaaShell
import Derived.Test.YtbjblkfibinenaaLawK
namespace Go.Proofs.Ytbjblkfibinenaa
open Go.ChangeShapes Go.WideShapes Go.ChangeAt Go.RowKit Go.Joins Go.Deep
set_option maxRecDepth 100000 in
set_option maxHeartbeats 16000000 in
theorem FnSplitTerms_walk (w : World) (A : Option Addr) (c n : Nat) (B : Option Addr) (d m : Nat) (hA : ReadsB w A n ∧ n ≤ 9223372036854775807) (hB : ReadsB w B m ∧ m ≤ 9223372036854775807) :
    Calls Try.prog 3 #[.slice A n c, .slice B m d] w (Ret (.bool true) w) := by
  obtain ⟨hA, hn⟩ := hA
  obtain ⟨hB, hm⟩ := hB
  have HA := Lib.hid hA
  have HB := Lib.hid hB
  clear hA hB
  cases hbig : bigB n m with
  | true =>
    go_enter Try.func3, Try.ntmps3
    go_wp2_with fail
    refine (big_any _ _ _ _ _ _ _ hn hm).mono ?_; rintro e w1 ⟨rfl, k1, rfl⟩
    go_wp2
    go_ret
    exact ⟨rfl, by (repeat' (first | (with_reducible exact Below.refl _ _) | (with_reducible assumption) | (with_reducible refine Below.drew ?_) | (with_reducible refine belowDrewN ?_ _) | (with_reducible refine Below.alloc ?_ ?_ _) | (with_reducible refine Below.setCell ?_ ?_ _) | (with_reducible refine belowStep (by assumption) ?_ ?_) | (with_reducible exact Below.size (by assumption)) | go_size))⟩
  | false =>
    have hnm : n ≤ 1048576 ∧ m ≤ 1048576 := by
      simp only [bigB, Bool.or_eq_false_iff, decide_eq_false_iff_not] at hbig
      omega
    obtain ⟨hn2, hm2⟩ := hnm
    go_enter Try.func3, Try.ntmps3
    go_wp2_with fail
    refine (big_any _ _ _ _ _ _ _ hn hm).mono ?_; rintro e w1 ⟨rfl, k1, rfl⟩
    go_wp2_with fail
    refine (drawSplitBy_any _ A n c (HA.out.below (by (repeat' (first | (with_reducible exact Below.refl _ _) | (with_reducible assumption) | (with_reducible refine Below.drew ?_) | (with_reducible refine belowDrewN ?_ _) | (with_reducible refine Below.alloc ?_ ?_ _) | (with_reducible refine Below.setCell ?_ ?_ _) | (with_reducible refine belowStep (by assumption) ?_ ?_) | (with_reducible exact Below.size (by assumption)) | go_size)))) hn2).mono ?_; rintro e w2 ⟨v1, xs, i, p, q, rfl, ho1, lx, hx64, hi, hp, hq, hb2⟩
    obtain ⟨Ax, cx, rfl, hxs⟩ := ho1.form
    have hcapx := ho1.cap_
    have Hxs := Lib.hid hxs
    have Hx64 := Lib.hid hx64
    have hz2 := hb2.size
    (try simp only [World.heap_drewN] at hz2)
    clear ho1 hxs hx64 hbig
    go_wp2_with fail
    refine (splitBy_any _ _ _ _ (by omega) (by omega) (by omega) _ _ _ Hxs.out (by omega) Hx64.out).mono ?_; rintro e w3 ⟨v3, rfl, ho3, hb3⟩; have hz3 := hb3.size; (try simp only [World.size_alloc, World.size_setCell, World.size_drew, World.heap_drewN] at hz3)
    obtain ⟨A3, c3, rfl, hr3⟩ := ho3.form
    have Hr3 := Lib.hid hr3
    clear ho3 hr3
    go_wp2_with fail
    refine (spec_splitBy_any _ _ _ _ (by omega) (by omega) (by omega) _ _ _ (Hxs.out.below (by (repeat' (first | (with_reducible exact Below.refl _ _) | (with_reducible assumption) | (with_reducible refine Below.drew ?_) | (with_reducible refine belowDrewN ?_ _) | (with_reducible refine Below.alloc ?_ ?_ _) | (with_reducible refine Below.setCell ?_ ?_ _) | (with_reducible refine belowStep (by assumption) ?_ ?_) | (with_reducible exact Below.size (by assumption)) | go_size)))) (by omega) hcapx).mono ?_; rintro e w4 ⟨A4, c4, rfl, hr4, hb4⟩; have hz4 := hb4.size; (try simp only [World.size_alloc, World.size_setCell, World.size_drew, World.heap_drewN] at hz4)
    have Hr4 := Lib.hid hr4
    have hul := sb_len xs i p q
    clear hr4
    go_wp2_with fail
    refine (pSame_same _ _ _ _ _ _ (Hr3.out.below (by (repeat' (first | (with_reducible exact Below.refl _ _) | (with_reducible assumption) | (with_reducible refine Below.drew ?_) | (with_reducible refine belowDrewN ?_ _) | (with_reducible refine Below.alloc ?_ ?_ _) | (with_reducible refine Below.setCell ?_ ?_ _) | (with_reducible refine belowStep (by assumption) ?_ ?_) | (with_reducible exact Below.size (by assumption)) | go_size)))) Hr4.out hul).mono ?_; rintro e w5 ⟨rfl, k5, rfl⟩
    go_wp2_with fail
    refine (drawSplitTerm_any _ B m d (HB.out.below (by (repeat' (first | (with_reducible exact Below.refl _ _) | (with_reducible assumption) | (with_reducible refine Below.drew ?_) | (with_reducible refine belowDrewN ?_ _) | (with_reducible refine Below.alloc ?_ ?_ _) | (with_reducible refine Below.setCell ?_ ?_ _) | (with_reducible refine belowStep (by assumption) ?_ ?_) | (with_reducible exact Below.size (by assumption)) | go_size)))) hm2).mono ?_; rintro e w6 ⟨v6, ys, k, rfl, ho6, ly, hy64, hk, hb6⟩
    obtain ⟨Ay, cy, rfl, hys⟩ := ho6.form
    have hcapy := ho6.cap_
    have Hys := Lib.hid hys
    have Hy64 := Lib.hid hy64
    have hz6 := hb6.size
    (try simp only [World.heap_drewN] at hz6)
    clear ho6 hys hy64
    go_wp2_with fail
    refine (splitTerm_any _ _ (by omega) _ _ _ Hys.out (by omega) Hy64.out).mono ?_; rintro e w7 ⟨v7, rfl, ho7, hb7⟩; have hz7 := hb7.size; (try simp only [World.size_alloc, World.size_setCell, World.size_drew, World.heap_drewN] at hz7)
    obtain ⟨A7, c7, rfl, hr7⟩ := ho7.form
    have Hr7 := Lib.hid hr7
    clear ho7 hr7
    go_wp2_with fail
    refine (spec_splitTerm_any _ _ (by omega) _ _ _ (Hys.out.below (by (repeat' (first | (with_reducible exact Below.refl _ _) | (with_reducible assumption) | (with_reducible refine Below.drew ?_) | (with_reducible refine belowDrewN ?_ _) | (with_reducible refine Below.alloc ?_ ?_ _) | (with_reducible refine Below.setCell ?_ ?_ _) | (with_reducible refine belowStep (by assumption) ?_ ?_) | (with_reducible exact Below.size (by assumption)) | go_size)))) (by omega) hcapy).mono ?_; rintro e w8 ⟨A8, c8, rfl, hr8, hb8⟩; have hz8 := hb8.size; (try simp only [World.size_alloc, World.size_setCell, World.size_drew, World.heap_drewN] at hz8)
    have Hr8 := Lib.hid hr8
    have htl := st_len ys k
    clear hr8
    go_wp2_with fail
    refine (pSame_same _ _ _ _ _ _ (Hr7.out.below (by (repeat' (first | (with_reducible exact Below.refl _ _) | (with_reducible assumption) | (with_reducible refine Below.drew ?_) | (with_reducible refine belowDrewN ?_ _) | (with_reducible refine Below.alloc ?_ ?_ _) | (with_reducible refine Below.setCell ?_ ?_ _) | (with_reducible refine belowStep (by assumption) ?_ ?_) | (with_reducible exact Below.size (by assumption)) | go_size)))) Hr8.out htl).mono ?_; rintro e w9 ⟨rfl, k9, rfl⟩
    go_upto_if 91 with fail
    go_cut [16, 18] (fun s16 s18 wx => s16 = .bool (stB ys k) ∧ s18 = .bool (stB ys k) ∧ Below w8.heap.size w8 wx)
    case first =>
      cases ht : stB ys k with
      | true =>
        obtain ⟨ex, k0, k1, es, hl, hh, f1, f2⟩ := st_facts ht
        obtain ⟨kn, rfl⟩ := Int.eq_ofNat_of_zero_le k0
        have E1 : Hid (eN ys = sumN ys ∧ eD ys = sumD ys) := ⟨by rw [eN, if_pos ex], by rw [eD, if_pos ex]⟩
        have Ex := Lib.hid ex
        have Es := Lib.hid es
        have F1 := Lib.hid f1
        have F2 := Lib.hid f2
        have Hl : Hid (((stL ys kn).length : Int) = ys.length + 1) := by show ((stL ys kn).length : Int) = ys.length + 1; omega
        have S64 : Hid (In64 (stL ys kn)) := In64.of_mem (fun z hz => by have := expB_small es z hz; omega)
        clear ex es f1 f2 hl
        go_wp2_with fail
        refine (sumOf_any _ _ _ _ (Hys.out.below (by (repeat' (first | (with_reducible exact Below.refl _ _) | (with_reducible assumption) | (with_reducible refine Below.drew ?_) | (with_reducible refine belowDrewN ?_ _) | (with_reducible refine Below.alloc ?_ ?_ _) | (with_reducible refine Below.setCell ?_ ?_ _) | (with_reducible refine belowStep (by assumption) ?_ ?_) | (with_reducible exact Below.size (by assumption)) | go_size)))) (by omega) Hy64.out).mono ?_; rintro e w10 ⟨rfl, hb10⟩; have hz10 := hb10.size; (try simp only [World.heap_drewN] at hz10)
        rw [E1.out.1, E1.out.2, Ex.out]
        obtain ⟨hc10, hf10⟩ := bcellB hb10; have hz10 := hb10.size; (try simp only [World.heap_drewN] at hc10 hf10 hz10); (try have hy10_r_0 : wr.heap.size < w10.heap.size := by omega); (try have hn10_r_0 : wr.heap.size ≠ w10.heap.size := by omega); (try have hm10_r_0 : w10.heap.size ≠ wr.heap.size := by omega); (try have hy10_r_1 : wr.heap.size + 1 < w10.heap.size := by omega); (try have hn10_r_1 : wr.heap.size + 1 ≠ w10.heap.size := by omega); (try have hm10_r_1 : w10.heap.size ≠ wr.heap.size + 1 := by omega); (try have hy10_r_2 : wr.heap.size + 1 + 1 < w10.heap.size := by omega); (try have hp10_r_1 : wr.heap.size < w10.heap.size + 1 := by omega); (try have hp10_r_2 : wr.heap.size < w10.heap.size + 1 + 1 := by omega); (try have hy10_0_0 : w.heap.size < w10.heap.size := by omega); (try have hn10_0_0 : w.heap.size ≠ w10.heap.size := by omega); (try have hm10_0_0 : w10.heap.size ≠ w.heap.size := by omega); (try have hy10_0_1 : w.heap.size + 1 < w10.heap.size := by omega); (try have hn10_0_1 : w.heap.size + 1 ≠ w10.heap.size := by omega); (try have hm10_0_1 : w10.heap.size ≠ w.heap.size + 1 := by omega); (try have hy10_0_2 : w.heap.size + 1 + 1 < w10.heap.size := by omega); (try have hp10_0_1 : w.heap.size < w10.heap.size + 1 := by omega); (try have hp10_0_2 : w.heap.size < w10.heap.size + 1 + 1 := by omega); (try have hy10_1_0 : w1.heap.size < w10.heap.size := by omega); (try have hn10_1_0 : w1.heap.size ≠ w10.heap.size := by omega); (try have hm10_1_0 : w10.heap.size ≠ w1.heap.size := by omega); (try have hy10_1_1 : w1.heap.size + 1 < w10.heap.size := by omega); (try have hn10_1_1 : w1.heap.size + 1 ≠ w10.heap.size := by omega); (try have hm10_1_1 : w10.heap.size ≠ w1.heap.size + 1 := by omega); (try have hy10_1_2 : w1.heap.size + 1 + 1 < w10.heap.size := by omega); (try have hp10_1_1 : w1.heap.size < w10.heap.size + 1 := by omega); (try have hp10_1_2 : w1.heap.size < w10.heap.size + 1 + 1 := by omega); (try have hy10_2_0 : w2.heap.size < w10.heap.size := by omega); (try have hn10_2_0 : w2.heap.size ≠ w10.heap.size := by omega); (try have hm10_2_0 : w10.heap.size ≠ w2.heap.size := by omega); (try have hy10_2_1 : w2.heap.size + 1 < w10.heap.size := by omega); (try have hn10_2_1 : w2.heap.size + 1 ≠ w10.heap.size := by omega); (try have hm10_2_1 : w10.heap.size ≠ w2.heap.size + 1 := by omega); (try have hy10_2_2 : w2.heap.size + 1 + 1 < w10.heap.size := by omega); (try have hp10_2_1 : w2.heap.size < w10.heap.size + 1 := by omega); (try have hp10_2_2 : w2.heap.size < w10.heap.size + 1 + 1 := by omega); (try have hy10_3_0 : w3.heap.size < w10.heap.size := by omega); (try have hn10_3_0 : w3.heap.size ≠ w10.heap.size := by omega); (try have hm10_3_0 : w10.heap.size ≠ w3.heap.size := by omega); (try have hy10_3_1 : w3.heap.size + 1 < w10.heap.size := by omega); (try have hn10_3_1 : w3.heap.size + 1 ≠ w10.heap.size := by omega); (try have hm10_3_1 : w10.heap.size ≠ w3.heap.size + 1 := by omega); (try have hy10_3_2 : w3.heap.size + 1 + 1 < w10.heap.size := by omega); (try have hp10_3_1 : w3.heap.size < w10.heap.size + 1 := by omega); (try have hp10_3_2 : w3.heap.size < w10.heap.size + 1 + 1 := by omega); (try have hy10_4_0 : w4.heap.size < w10.heap.size := by omega); (try have hn10_4_0 : w4.heap.size ≠ w10.heap.size := by omega); (try have hm10_4_0 : w10.heap.size ≠ w4.heap.size := by omega); (try have hy10_4_1 : w4.heap.size + 1 < w10.heap.size := by omega); (try have hn10_4_1 : w4.heap.size + 1 ≠ w10.heap.size := by omega); (try have hm10_4_1 : w10.heap.size ≠ w4.heap.size + 1 := by omega); (try have hy10_4_2 : w4.heap.size + 1 + 1 < w10.heap.size := by omega); (try have hp10_4_1 : w4.heap.size < w10.heap.size + 1 := by omega); (try have hp10_4_2 : w4.heap.size < w10.heap.size + 1 + 1 := by omega); (try have hy10_5_0 : w5.heap.size < w10.heap.size := by omega); (try have hn10_5_0 : w5.heap.size ≠ w10.heap.size := by omega); (try have hm10_5_0 : w10.heap.size ≠ w5.heap.size := by omega); (try have hy10_5_1 : w5.heap.size + 1 < w10.heap.size := by omega); (try have hn10_5_1 : w5.heap.size + 1 ≠ w10.heap.size := by omega); (try have hm10_5_1 : w10.heap.size ≠ w5.heap.size + 1 := by omega); (try have hy10_5_2 : w5.heap.size + 1 + 1 < w10.heap.size := by omega); (try have hp10_5_1 : w5.heap.size < w10.heap.size + 1 := by omega); (try have hp10_5_2 : w5.heap.size < w10.heap.size + 1 + 1 := by omega); (try have hy10_6_0 : w6.heap.size < w10.heap.size := by omega); (try have hn10_6_0 : w6.heap.size ≠ w10.heap.size := by omega); (try have hm10_6_0 : w10.heap.size ≠ w6.heap.size := by omega); (try have hy10_6_1 : w6.heap.size + 1 < w10.heap.size := by omega); (try have hn10_6_1 : w6.heap.size + 1 ≠ w10.heap.size := by omega); (try have hm10_6_1 : w10.heap.size ≠ w6.heap.size + 1 := by omega); (try have hy10_6_2 : w6.heap.size + 1 + 1 < w10.heap.size := by omega); (try have hp10_6_1 : w6.heap.size < w10.heap.size + 1 := by omega); (try have hp10_6_2 : w6.heap.size < w10.heap.size + 1 + 1 := by omega); (try have hy10_7_0 : w7.heap.size < w10.heap.size := by omega); (try have hn10_7_0 : w7.heap.size ≠ w10.heap.size := by omega); (try have hm10_7_0 : w10.heap.size ≠ w7.heap.size := by omega); (try have hy10_7_1 : w7.heap.size + 1 < w10.heap.size := by omega); (try have hn10_7_1 : w7.heap.size + 1 ≠ w10.heap.size := by omega); (try have hm10_7_1 : w10.heap.size ≠ w7.heap.size + 1 := by omega); (try have hy10_7_2 : w7.heap.size + 1 + 1 < w10.heap.size := by omega); (try have hp10_7_1 : w7.heap.size < w10.heap.size + 1 := by omega); (try have hp10_7_2 : w7.heap.size < w10.heap.size + 1 + 1 := by omega); (try have hy10_8_0 : w8.heap.size < w10.heap.size := by omega); (try have hn10_8_0 : w8.heap.size ≠ w10.heap.size := by omega); (try have hm10_8_0 : w10.heap.size ≠ w8.heap.size := by omega); (try have hy10_8_1 : w8.heap.size + 1 < w10.heap.size := by omega); (try have hn10_8_1 : w8.heap.size + 1 ≠ w10.heap.size := by omega); (try have hm10_8_1 : w10.heap.size ≠ w8.heap.size + 1 := by omega); (try have hy10_8_2 : w8.heap.size + 1 + 1 < w10.heap.size := by omega); (try have hp10_8_1 : w8.heap.size < w10.heap.size + 1 := by omega); (try have hp10_8_2 : w8.heap.size < w10.heap.size + 1 + 1 := by omega); (try have hy10_9_0 : w9.heap.size < w10.heap.size := by omega); (try have hn10_9_0 : w9.heap.size ≠ w10.heap.size := by omega); (try have hm10_9_0 : w10.heap.size ≠ w9.heap.size := by omega); (try have hy10_9_1 : w9.heap.size + 1 < w10.heap.size := by omega); (try have hn10_9_1 : w9.heap.size + 1 ≠ w10.heap.size := by omega); (try have hm10_9_1 : w10.heap.size ≠ w9.heap.size + 1 := by omega); (try have hy10_9_2 : w9.heap.size + 1 + 1 < w10.heap.size := by omega); (try have hp10_9_1 : w9.heap.size < w10.heap.size + 1 := by omega); (try have hp10_9_2 : w9.heap.size < w10.heap.size + 1 + 1 := by omega); (try have hg10_g1 : g1 < w10.heap.size := by omega); (try have hi10_g1 : g1 ≠ w10.heap.size := by omega); (try have hj10_g1 : w10.heap.size ≠ g1 := by omega); (try have hk10_g1 : g1 < w10.heap.size + 1 := by omega); (try have hg10_g2 : g2 < w10.heap.size := by omega); (try have hi10_g2 : g2 ≠ w10.heap.size := by omega); (try have hj10_g2 : w10.heap.size ≠ g2 := by omega); (try have hk10_g2 : g2 < w10.heap.size + 1 := by omega)
        go_wp2_with fail
        refine (pSums_yes _ _ _ _ _ _ (Hr7.out.below (by (repeat' (first | (with_reducible exact Below.refl _ _) | (with_reducible assumption) | (with_reducible refine Below.drew ?_) | (with_reducible refine belowDrewN ?_ _) | (with_reducible refine Below.alloc ?_ ?_ _) | (with_reducible refine Below.setCell ?_ ?_ _) | (with_reducible refine belowStep (by assumption) ?_ ?_) | (with_reducible exact Below.size (by assumption)) | go_size)))) htl S64.out Es.out F1.out F2.out).mono ?_; rintro e w11 ⟨rfl, hb11⟩; have hz11 := hb11.size; (try simp only [World.size_alloc] at hz11)
        obtain ⟨b, o, x, rfl, hb, hyk, hcell⟩ := (Hys.out.below (by (repeat' (first | (with_reducible exact Below.refl _ _) | (with_reducible assumption) | (with_reducible refine Below.drew ?_) | (with_reducible refine belowDrewN ?_ _) | (with_reducible refine Below.alloc ?_ ?_ _) | (with_reducible refine Below.setCell ?_ ?_ _) | (with_reducible refine belowStep (by assumption) ?_ ?_) | (with_reducible exact Below.size (by assumption)) | go_size)) : Below w6.heap.size w6 w11)).at_ (k := kn) (by omega)
        rw [term_at hyk] at hh
        have hsm := expB_small Ex.out x (List.mem_of_getElem? hyk)
        have Hh := Lib.hid hh
        have hne : (((stL ys kn).length : Int) != ys.length + 1) = false := by rw [Hl.out]; simp
        clear hyk hh
        go_wp2_with fail
        refine (pHas_any _ _ _ _ _ (Hr7.out.below (by (repeat' (first | (with_reducible exact Below.refl _ _) | (with_reducible assumption) | (with_reducible refine Below.drew ?_) | (with_reducible refine belowDrewN ?_ _) | (with_reducible refine Below.alloc ?_ ?_ _) | (with_reducible refine Below.setCell ?_ ?_ _) | (with_reducible refine belowStep (by assumption) ?_ ?_) | (with_reducible exact Below.size (by assumption)) | go_size)))) htl).mono ?_; rintro e w12 ⟨rfl, k12, rfl⟩
        rw [Hh.out]
        go_wp2_with fail
        go_meet
        exact ⟨by rw [ht], by rw [ht], by (repeat' (first | (with_reducible exact Below.refl _ _) | (with_reducible assumption) | (with_reducible refine Below.drew ?_) | (with_reducible refine belowDrewN ?_ _) | (with_reducible refine Below.alloc ?_ ?_ _) | (with_reducible refine Below.setCell ?_ ?_ _) | (with_reducible refine belowStep (by assumption) ?_ ?_) | (with_reducible exact Below.size (by assumption)) | go_size))⟩
      | false =>
        go_wp2_with fail
        go_meet
        exact ⟨by rw [ht], by rw [ht], by (repeat' (first | (with_reducible exact Below.refl _ _) | (with_reducible assumption) | (with_reducible refine Below.drew ?_) | (with_reducible refine belowDrewN ?_ _) | (with_reducible refine Below.alloc ?_ ?_ _) | (with_reducible refine Below.setCell ?_ ?_ _) | (with_reducible refine belowStep (by assumption) ?_ ?_) | (with_reducible exact Below.size (by assumption)) | go_size))⟩
    case rest =>
      obtain ⟨w14, rfl⟩ : ∃ w14 : World, w14 = wc := ⟨_, rfl⟩
      obtain ⟨rfl, rfl, hb14⟩ := hcut
      have hz14 := hb14.size
      cases hs : sbB xs i p q with
      | false =>
        go_wp2
        go_ret
        exact ⟨rfl, by (repeat' (first | (with_reducible exact Below.refl _ _) | (with_reducible assumption) | (with_reducible refine Below.drew ?_) | (with_reducible refine belowDrewN ?_ _) | (with_reducible refine Below.alloc ?_ ?_ _) | (with_reducible refine Below.setCell ?_ ?_ _) | (with_reducible refine belowStep (by assumption) ?_ ?_) | (with_reducible exact Below.size (by assumption)) | go_size))⟩
      | true =>
        obtain ⟨j, dd, a, b, rfl, ex, hxj, d1, d2, p1, pq, q1, h4, h5, ha, hb, l1, l2, hab, es, hl, hmem, hris, f1, f2, na, nb⟩ := sb_facts hs
        have E1 : Hid (eN xs = sumN xs ∧ eD xs = sumD xs) := ⟨by rw [eN, if_pos ex], by rw [eD, if_pos ex]⟩
        have S64 : Hid (In64 (sbL xs j p q)) := In64.of_mem (fun z hz => by have := expB_small es z hz; omega)
        have hnd : hasB (sbL xs j p q) dd = false := by
          cases hh : hasB (sbL xs j p q) dd with
          | false => rfl
          | true =>
            rcases (hmem dd).1 ((hasB_iff _ _).1 hh) with h | h | h
            · omega
            · omega
            · exact absurd rfl h.2
        obtain ⟨jb, hjb⟩ := List.getElem?_of_mem ((hmem b).2 (.inr (.inl rfl)))
        obtain ⟨ja, hja⟩ := List.getElem?_of_mem ((hmem a).2 (.inl rfl))
        have hjj : jb < ja := by
          rcases Nat.lt_trichotomy jb ja with h | h | h
          · exact h
          · subst h; rw [hjb] at hja; injection hja with hja; omega
          · have := hris.lt h hja hjb; omega
        have hjal : ja < (sbL xs j p q).length := (List.getElem?_eq_some_iff.1 hja).1
        obtain ⟨mb1, mb2, mb3⟩ := merge_back ex hxj hris hmem na nb hjb hja
        have hdiv : a * b / (a + b) = dd := by rw [hab]; exact Int.mul_ediv_cancel _ (by omega)
        have hmod : b * a % (b + a) = 0 := by rw [Int.mul_comm b a, Int.add_comm b a, hab]; exact Int.mul_emod_left _ _
        have hmp := mp_in es hjj hjb hja hmod
        rw [Int.mul_comm b a, Int.add_comm b a, hdiv, mb1, mb2, mb3] at hmp
        have Ex := Lib.hid ex
        have Es := Lib.hid es
        have F1 := Lib.hid f1
        have F2 := Lib.hid f2
        have Hnd := Lib.hid hnd
        have Hxj := Lib.hid hxj
        have Hjb := Lib.hid hjb
        have Hja := Lib.hid hja
        have Hmp := Lib.hid hmp
        have Hris := Lib.hid hris
        have Ha := Lib.hid ha
        have Hb := Lib.hid hb
        have Hl : Hid (((sbL xs j p q).length : Int) = xs.length + 1) := by show ((sbL xs j p q).length : Int) = xs.length + 1; omega
        obtain ⟨u1, u2⟩ := sb_mul d1 d2 p1 pq q1
        clear ex es f1 f2 hl hnd hxj hjb hja hmp mb1 mb2 mb3 hdiv hmod hmem hris ha hb h4 h5 hab na nb
        go_wp2_with fail
        refine (sumOf_any _ _ _ _ (Hxs.out.below (by (repeat' (first | (with_reducible exact Below.refl _ _) | (with_reducible assumption) | (with_reducible refine Below.drew ?_) | (with_reducible refine belowDrewN ?_ _) | (with_reducible refine Below.alloc ?_ ?_ _) | (with_reducible refine Below.setCell ?_ ?_ _) | (with_reducible refine belowStep (by assumption) ?_ ?_) | (with_reducible exact Below.size (by assumption)) | go_size)))) (by omega) Hx64.out).mono ?_; rintro e w15 ⟨rfl, hb15⟩; have hz15 := hb15.size; (try simp only [World.size_alloc, World.size_setCell, World.size_drew, World.heap_drewN] at hz15)
        rw [E1.out.1, E1.out.2, Ex.out]
        obtain ⟨hc15, hf15⟩ := bcellB hb15; have hz15 := hb15.size; (try simp only [World.size_alloc, World.size_setCell, World.size_drew, World.heap_drewN] at hc15 hf15 hz15); (try have hy15_r_0 : wr.heap.size < w15.heap.size := by omega); (try have hn15_r_0 : wr.heap.size ≠ w15.heap.size := by omega); (try have hm15_r_0 : w15.heap.size ≠ wr.heap.size := by omega); (try have hy15_r_1 : wr.heap.size + 1 < w15.heap.size := by omega); (try have hn15_r_1 : wr.heap.size + 1 ≠ w15.heap.size := by omega); (try have hm15_r_1 : w15.heap.size ≠ wr.heap.size + 1 := by omega); (try have hy15_r_2 : wr.heap.size + 1 + 1 < w15.heap.size := by omega); (try have hp15_r_1 : wr.heap.size < w15.heap.size + 1 := by omega); (try have hp15_r_2 : wr.heap.size < w15.heap.size + 1 + 1 := by omega); (try have hy15_0_0 : w.heap.size < w15.heap.size := by omega); (try have hn15_0_0 : w.heap.size ≠ w15.heap.size := by omega); (try have hm15_0_0 : w15.heap.size ≠ w.heap.size := by omega); (try have hy15_0_1 : w.heap.size + 1 < w15.heap.size := by omega); (try have hn15_0_1 : w.heap.size + 1 ≠ w15.heap.size := by omega); (try have hm15_0_1 : w15.heap.size ≠ w.heap.size + 1 := by omega); (try have hy15_0_2 : w.heap.size + 1 + 1 < w15.heap.size := by omega); (try have hp15_0_1 : w.heap.size < w15.heap.size + 1 := by omega); (try have hp15_0_2 : w.heap.size < w15.heap.size + 1 + 1 := by omega); (try have hy15_1_0 : w1.heap.size < w15.heap.size := by omega); (try have hn15_1_0 : w1.heap.size ≠ w15.heap.size := by omega); (try have hm15_1_0 : w15.heap.size ≠ w1.heap.size := by omega); (try have hy15_1_1 : w1.heap.size + 1 < w15.heap.size := by omega); (try have hn15_1_1 : w1.heap.size + 1 ≠ w15.heap.size := by omega); (try have hm15_1_1 : w15.heap.size ≠ w1.heap.size + 1 := by omega); (try have hy15_1_2 : w1.heap.size + 1 + 1 < w15.heap.size := by omega); (try have hp15_1_1 : w1.heap.size < w15.heap.size + 1 := by omega); (try have hp15_1_2 : w1.heap.size < w15.heap.size + 1 + 1 := by omega); (try have hy15_2_0 : w2.heap.size < w15.heap.size := by omega); (try have hn15_2_0 : w2.heap.size ≠ w15.heap.size := by omega); (try have hm15_2_0 : w15.heap.size ≠ w2.heap.size := by omega); (try have hy15_2_1 : w2.heap.size + 1 < w15.heap.size := by omega); (try have hn15_2_1 : w2.heap.size + 1 ≠ w15.heap.size := by omega); (try have hm15_2_1 : w15.heap.size ≠ w2.heap.size + 1 := by omega); (try have hy15_2_2 : w2.heap.size + 1 + 1 < w15.heap.size := by omega); (try have hp15_2_1 : w2.heap.size < w15.heap.size + 1 := by omega); (try have hp15_2_2 : w2.heap.size < w15.heap.size + 1 + 1 := by omega); (try have hy15_3_0 : w3.heap.size < w15.heap.size := by omega); (try have hn15_3_0 : w3.heap.size ≠ w15.heap.size := by omega); (try have hm15_3_0 : w15.heap.size ≠ w3.heap.size := by omega); (try have hy15_3_1 : w3.heap.size + 1 < w15.heap.size := by omega); (try have hn15_3_1 : w3.heap.size + 1 ≠ w15.heap.size := by omega); (try have hm15_3_1 : w15.heap.size ≠ w3.heap.size + 1 := by omega); (try have hy15_3_2 : w3.heap.size + 1 + 1 < w15.heap.size := by omega); (try have hp15_3_1 : w3.heap.size < w15.heap.size + 1 := by omega); (try have hp15_3_2 : w3.heap.size < w15.heap.size + 1 + 1 := by omega); (try have hy15_4_0 : w4.heap.size < w15.heap.size := by omega); (try have hn15_4_0 : w4.heap.size ≠ w15.heap.size := by omega); (try have hm15_4_0 : w15.heap.size ≠ w4.heap.size := by omega); (try have hy15_4_1 : w4.heap.size + 1 < w15.heap.size := by omega); (try have hn15_4_1 : w4.heap.size + 1 ≠ w15.heap.size := by omega); (try have hm15_4_1 : w15.heap.size ≠ w4.heap.size + 1 := by omega); (try have hy15_4_2 : w4.heap.size + 1 + 1 < w15.heap.size := by omega); (try have hp15_4_1 : w4.heap.size < w15.heap.size + 1 := by omega); (try have hp15_4_2 : w4.heap.size < w15.heap.size + 1 + 1 := by omega); (try have hy15_5_0 : w5.heap.size < w15.heap.size := by omega); (try have hn15_5_0 : w5.heap.size ≠ w15.heap.size := by omega); (try have hm15_5_0 : w15.heap.size ≠ w5.heap.size := by omega); (try have hy15_5_1 : w5.heap.size + 1 < w15.heap.size := by omega); (try have hn15_5_1 : w5.heap.size + 1 ≠ w15.heap.size := by omega); (try have hm15_5_1 : w15.heap.size ≠ w5.heap.size + 1 := by omega); (try have hy15_5_2 : w5.heap.size + 1 + 1 < w15.heap.size := by omega); (try have hp15_5_1 : w5.heap.size < w15.heap.size + 1 := by omega); (try have hp15_5_2 : w5.heap.size < w15.heap.size + 1 + 1 := by omega); (try have hy15_6_0 : w6.heap.size < w15.heap.size := by omega); (try have hn15_6_0 : w6.heap.size ≠ w15.heap.size := by omega); (try have hm15_6_0 : w15.heap.size ≠ w6.heap.size := by omega); (try have hy15_6_1 : w6.heap.size + 1 < w15.heap.size := by omega); (try have hn15_6_1 : w6.heap.size + 1 ≠ w15.heap.size := by omega); (try have hm15_6_1 : w15.heap.size ≠ w6.heap.size + 1 := by omega); (try have hy15_6_2 : w6.heap.size + 1 + 1 < w15.heap.size := by omega); (try have hp15_6_1 : w6.heap.size < w15.heap.size + 1 := by omega); (try have hp15_6_2 : w6.heap.size < w15.heap.size + 1 + 1 := by omega); (try have hy15_7_0 : w7.heap.size < w15.heap.size := by omega); (try have hn15_7_0 : w7.heap.size ≠ w15.heap.size := by omega); (try have hm15_7_0 : w15.heap.size ≠ w7.heap.size := by omega); (try have hy15_7_1 : w7.heap.size + 1 < w15.heap.size := by omega); (try have hn15_7_1 : w7.heap.size + 1 ≠ w15.heap.size := by omega); (try have hm15_7_1 : w15.heap.size ≠ w7.heap.size + 1 := by omega); (try have hy15_7_2 : w7.heap.size + 1 + 1 < w15.heap.size := by omega); (try have hp15_7_1 : w7.heap.size < w15.heap.size + 1 := by omega); (try have hp15_7_2 : w7.heap.size < w15.heap.size + 1 + 1 := by omega); (try have hy15_8_0 : w8.heap.size < w15.heap.size := by omega); (try have hn15_8_0 : w8.heap.size ≠ w15.heap.size := by omega); (try have hm15_8_0 : w15.heap.size ≠ w8.heap.size := by omega); (try have hy15_8_1 : w8.heap.size + 1 < w15.heap.size := by omega); (try have hn15_8_1 : w8.heap.size + 1 ≠ w15.heap.size := by omega); (try have hm15_8_1 : w15.heap.size ≠ w8.heap.size + 1 := by omega); (try have hy15_8_2 : w8.heap.size + 1 + 1 < w15.heap.size := by omega); (try have hp15_8_1 : w8.heap.size < w15.heap.size + 1 := by omega); (try have hp15_8_2 : w8.heap.size < w15.heap.size + 1 + 1 := by omega); (try have hy15_9_0 : w9.heap.size < w15.heap.size := by omega); (try have hn15_9_0 : w9.heap.size ≠ w15.heap.size := by omega); (try have hm15_9_0 : w15.heap.size ≠ w9.heap.size := by omega); (try have hy15_9_1 : w9.heap.size + 1 < w15.heap.size := by omega); (try have hn15_9_1 : w9.heap.size + 1 ≠ w15.heap.size := by omega); (try have hm15_9_1 : w15.heap.size ≠ w9.heap.size + 1 := by omega); (try have hy15_9_2 : w9.heap.size + 1 + 1 < w15.heap.size := by omega); (try have hp15_9_1 : w9.heap.size < w15.heap.size + 1 := by omega); (try have hp15_9_2 : w9.heap.size < w15.heap.size + 1 + 1 := by omega); (try have hy15_10_0 : w10.heap.size < w15.heap.size := by omega); (try have hn15_10_0 : w10.heap.size ≠ w15.heap.size := by omega); (try have hm15_10_0 : w15.heap.size ≠ w10.heap.size := by omega); (try have hy15_10_1 : w10.heap.size + 1 < w15.heap.size := by omega); (try have hn15_10_1 : w10.heap.size + 1 ≠ w15.heap.size := by omega); (try have hm15_10_1 : w15.heap.size ≠ w10.heap.size + 1 := by omega); (try have hy15_10_2 : w10.heap.size + 1 + 1 < w15.heap.size := by omega); (try have hp15_10_1 : w10.heap.size < w15.heap.size + 1 := by omega); (try have hp15_10_2 : w10.heap.size < w15.heap.size + 1 + 1 := by omega); (try have hy15_11_0 : w11.heap.size < w15.heap.size := by omega); (try have hn15_11_0 : w11.heap.size ≠ w15.heap.size := by omega); (try have hm15_11_0 : w15.heap.size ≠ w11.heap.size := by omega); (try have hy15_11_1 : w11.heap.size + 1 < w15.heap.size := by omega); (try have hn15_11_1 : w11.heap.size + 1 ≠ w15.heap.size := by omega); (try have hm15_11_1 : w15.heap.size ≠ w11.heap.size + 1 := by omega); (try have hy15_11_2 : w11.heap.size + 1 + 1 < w15.heap.size := by omega); (try have hp15_11_1 : w11.heap.size < w15.heap.size + 1 := by omega); (try have hp15_11_2 : w11.heap.size < w15.heap.size + 1 + 1 := by omega); (try have hy15_12_0 : w12.heap.size < w15.heap.size := by omega); (try have hn15_12_0 : w12.heap.size ≠ w15.heap.size := by omega); (try have hm15_12_0 : w15.heap.size ≠ w12.heap.size := by omega); (try have hy15_12_1 : w12.heap.size + 1 < w15.heap.size := by omega); (try have hn15_12_1 : w12.heap.size + 1 ≠ w15.heap.size := by omega); (try have hm15_12_1 : w15.heap.size ≠ w12.heap.size + 1 := by omega); (try have hy15_12_2 : w12.heap.size + 1 + 1 < w15.heap.size := by omega); (try have hp15_12_1 : w12.heap.size < w15.heap.size + 1 := by omega); (try have hp15_12_2 : w12.heap.size < w15.heap.size + 1 + 1 := by omega); (try have hy15_13_0 : w13.heap.size < w15.heap.size := by omega); (try have hn15_13_0 : w13.heap.size ≠ w15.heap.size := by omega); (try have hm15_13_0 : w15.heap.size ≠ w13.heap.size := by omega); (try have hy15_13_1 : w13.heap.size + 1 < w15.heap.size := by omega); (try have hn15_13_1 : w13.heap.size + 1 ≠ w15.heap.size := by omega); (try have hm15_13_1 : w15.heap.size ≠ w13.heap.size + 1 := by omega); (try have hy15_13_2 : w13.heap.size + 1 + 1 < w15.heap.size := by omega); (try have hp15_13_1 : w13.heap.size < w15.heap.size + 1 := by omega); (try have hp15_13_2 : w13.heap.size < w15.heap.size + 1 + 1 := by omega); (try have hy15_14_0 : w14.heap.size < w15.heap.size := by omega); (try have hn15_14_0 : w14.heap.size ≠ w15.heap.size := by omega); (try have hm15_14_0 : w15.heap.size ≠ w14.heap.size := by omega); (try have hy15_14_1 : w14.heap.size + 1 < w15.heap.size := by omega); (try have hn15_14_1 : w14.heap.size + 1 ≠ w15.heap.size := by omega); (try have hm15_14_1 : w15.heap.size ≠ w14.heap.size + 1 := by omega); (try have hy15_14_2 : w14.heap.size + 1 + 1 < w15.heap.size := by omega); (try have hp15_14_1 : w14.heap.size < w15.heap.size + 1 := by omega); (try have hp15_14_2 : w14.heap.size < w15.heap.size + 1 + 1 := by omega); (try have hg15_g1 : g1 < w15.heap.size := by omega); (try have hi15_g1 : g1 ≠ w15.heap.size := by omega); (try have hj15_g1 : w15.heap.size ≠ g1 := by omega); (try have hk15_g1 : g1 < w15.heap.size + 1 := by omega); (try have hg15_g2 : g2 < w15.heap.size := by omega); (try have hi15_g2 : g2 ≠ w15.heap.size := by omega); (try have hj15_g2 : w15.heap.size ≠ g2 := by omega); (try have hk15_g2 : g2 < w15.heap.size + 1 := by omega)
        obtain ⟨bb, oo, x0, rfl, hbb, hxj2, hcell⟩ := (Hxs.out.below (by (repeat' (first | (with_reducible exact Below.refl _ _) | (with_reducible assumption) | (with_reducible refine Below.drew ?_) | (with_reducible refine belowDrewN ?_ _) | (with_reducible refine Below.alloc ?_ ?_ _) | (with_reducible refine Below.setCell ?_ ?_ _) | (with_reducible refine belowStep (by assumption) ?_ ?_) | (with_reducible exact Below.size (by assumption)) | go_size)) : Below w2.heap.size w2 w15)).at_ (k := j) ((List.getElem?_eq_some_iff.1 Hxj.out).1)
        obtain rfl : x0 = dd := by rw [Hxj.out] at hxj2; injection hxj2 with h; exact h.symm
        have hjx : (j : Int) < xs.length := by have := (List.getElem?_eq_some_iff.1 Hxj.out).1; omega
        clear hxj2
        have hne : (((sbL xs j p q).length : Int) != xs.length + 1) = false := by rw [Hl.out]; simp
        go_wp2_with fail
        refine (pSums_yes _ _ _ _ _ _ (Hr3.out.below (by (repeat' (first | (with_reducible exact Below.refl _ _) | (with_reducible assumption) | (with_reducible refine Below.drew ?_) | (with_reducible refine belowDrewN ?_ _) | (with_reducible refine Below.alloc ?_ ?_ _) | (with_reducible refine Below.setCell ?_ ?_ _) | (with_reducible refine belowStep (by assumption) ?_ ?_) | (with_reducible exact Below.size (by assumption)) | go_size)))) hul S64.out Es.out F1.out F2.out).mono ?_; rintro e w16 ⟨rfl, hb16⟩; have hz16 := hb16.size; (try simp only [World.size_alloc] at hz16)
        go_wp2_with fail
        refine (pHas_any _ _ _ _ _ (Hr3.out.below (by (repeat' (first | (with_reducible exact Below.refl _ _) | (with_reducible assumption) | (with_reducible refine Below.drew ?_) | (with_reducible refine belowDrewN ?_ _) | (with_reducible refine Below.alloc ?_ ?_ _) | (with_reducible refine Below.setCell ?_ ?_ _) | (with_reducible refine belowStep (by assumption) ?_ ?_) | (with_reducible exact Below.size (by assumption)) | go_size)))) hul).mono ?_; rintro e w17 ⟨rfl, k17, rfl⟩
        rw [Hnd.out]
        clear hne
        go_wp2
        have hjal2 : (ja : Int) < (sbL xs j p q).length := by omega
        have hqp : q ≠ 0 ∧ p ≠ 0 := by omega
        obtain ⟨hq0, hp0⟩ := hqp
        have hlo : (sbL xs j p q).length ≤ 1048576 := hul
        generalize hout : sbL xs j p q = out at *
        have Hout := Lib.hid hout
        clear hout
        go_loopw [24, 25, 157] (fun v24 v25 v157 wr => ∃ k' : Nat, k' ≤ out.length ∧ v157 = .int .i64 k' ∧ v24 = .int .i64 (if jb < k' then (jb : Int) else -1) ∧ v25 = .int .i64 (if ja < k' then (ja : Int) else -1) ∧ Below w16.heap.size w16 wr) (fun _ _ v157 _ => out.length - (intOf v157).toNat)
        case atStart => exact ⟨0, Nat.zero_le _, rfl, rfl, rfl, by (repeat' (first | (with_reducible exact Below.refl _ _) | (with_reducible assumption) | (with_reducible refine Below.drew ?_) | (with_reducible refine belowDrewN ?_ _) | (with_reducible refine Below.alloc ?_ ?_ _) | (with_reducible refine Below.setCell ?_ ?_ _) | (with_reducible refine belowStep (by assumption) ?_ ?_) | (with_reducible exact Below.size (by assumption)) | go_size))⟩
        case round =>
          obtain ⟨k', hk', rfl, rfl, rfl, hbr⟩ := hrel
          have hzr := hbr.size
          by_cases hlt : k' < out.length
          · obtain ⟨b3, o3, z, rfl, _, hz, hcell3⟩ := (Hr3.out.below (by (repeat' (first | (with_reducible exact Below.refl _ _) | (with_reducible assumption) | (with_reducible refine Below.drew ?_) | (with_reducible refine belowDrewN ?_ _) | (with_reducible refine Below.alloc ?_ ?_ _) | (with_reducible refine Below.setCell ?_ ?_ _) | (with_reducible refine belowStep (by assumption) ?_ ?_) | (with_reducible exact Below.size (by assumption)) | go_size)) : Below w3.heap.size w3 wr)).at_ hlt
            have hzb : (z == x0 * (p + q) / q) = decide (k' = jb) := by
              rw [← Hb.out, Bool.eq_iff_iff, beq_iff_eq, decide_eq_true_iff]
              constructor
              · intro e
                rcases Nat.lt_trichotomy k' jb with h | h | h
                · have := Hris.out.lt h hz Hjb.out; omega
                · exact h
                · have := Hris.out.lt h Hjb.out hz; omega
              · intro h
                have e := Hjb.out
                rw [← h, hz] at e
                injection e
            have hza : (z == x0 * (p + q) / p) = decide (k' = ja) := by
              rw [← Ha.out, Bool.eq_iff_iff, beq_iff_eq, decide_eq_true_iff]
              constructor
              · intro e
                rcases Nat.lt_trichotomy k' ja with h | h | h
                · have := Hris.out.lt h hz Hja.out; omega
                · exact h
                · have := Hris.out.lt h Hja.out hz; omega
              · intro h
                have e := Hja.out
                rw [← h, hz] at e
                injection e
            clear hz
            by_cases c1 : k' = jb
            · have c2 : ¬ k' = ja := by omega
              rw [decide_eq_true c1] at hzb
              rw [decide_eq_false c2] at hza
              have C1 := Lib.hid c1
              have C2 := Lib.hid c2
              have v1 : (if jb < k' then (jb : Int) else -1) = -1 := if_neg (by omega)
              have V2 : Hid ((if ja < k' + 1 then (ja : Int) else -1) = (if ja < k' then (ja : Int) else -1)) := by
                show (if ja < k' + 1 then (ja : Int) else -1) = _
                have := C2.out
                by_cases h : ja < k'
                · rw [if_pos h, if_pos (by omega)]
                · rw [if_neg h, if_neg (by omega)]
              clear c1 c2 v1
              go_wp2
              go_roundw
              case rel => exact ⟨k' + 1, by omega, by go_num, by rw [if_pos (by have := C1.out; omega)]; exact congrArg (Value.int .i64) (by have := C1.out; omega), by rw [V2.out], by (repeat' (first | (with_reducible exact Below.refl _ _) | (with_reducible assumption) | (with_reducible refine Below.drew ?_) | (with_reducible refine belowDrewN ?_ _) | (with_reducible refine Below.alloc ?_ ?_ _) | (with_reducible refine Below.setCell ?_ ?_ _) | (with_reducible refine belowStep (by assumption) ?_ ?_) | (with_reducible exact Below.size (by assumption)) | go_size))⟩
              case measure => simp [intOf]; omega
            · by_cases c2 : k' = ja
              · rw [decide_eq_false c1] at hzb
                rw [decide_eq_true c2] at hza
                have C1 := Lib.hid c1
                have C2 := Lib.hid c2
                have V2 : Hid ((if jb < k' + 1 then (jb : Int) else -1) = (if jb < k' then (jb : Int) else -1)) := by
                  show (if jb < k' + 1 then (jb : Int) else -1) = _
                  have := C1.out
                  by_cases h : jb < k'
                  · rw [if_pos h, if_pos (by omega)]
                  · rw [if_neg h, if_neg (by omega)]
                clear c1 c2
                go_wp2
                go_roundw
                case rel => exact ⟨k' + 1, by omega, by go_num, by rw [V2.out], by rw [if_pos (by have := C2.out; omega)]; exact congrArg (Value.int .i64) (by have := C2.out; omega), by (repeat' (first | (with_reducible exact Below.refl _ _) | (with_reducible assumption) | (with_reducible refine Below.drew ?_) | (with_reducible refine belowDrewN ?_ _) | (with_reducible refine Below.alloc ?_ ?_ _) | (with_reducible refine Below.setCell ?_ ?_ _) | (with_reducible refine belowStep (by assumption) ?_ ?_) | (with_reducible exact Below.size (by assumption)) | go_size))⟩
                case measure => simp [intOf]; omega
              · rw [decide_eq_false c1] at hzb
                rw [decide_eq_false c2] at hza
                have C1 := Lib.hid c1
                have C2 := Lib.hid c2
                have V1 : Hid ((if jb < k' + 1 then (jb : Int) else -1) = (if jb < k' then (jb : Int) else -1)) := by
                  show (if jb < k' + 1 then (jb : Int) else -1) = _
                  have := C1.out
                  by_cases h : jb < k'
                  · rw [if_pos h, if_pos (by omega)]
                  · rw [if_neg h, if_neg (by omega)]
                have V2 : Hid ((if ja < k' + 1 then (ja : Int) else -1) = (if ja < k' then (ja : Int) else -1)) := by
                  show (if ja < k' + 1 then (ja : Int) else -1) = _
                  have := C2.out
                  by_cases h : ja < k'
                  · rw [if_pos h, if_pos (by omega)]
                  · rw [if_neg h, if_neg (by omega)]
                clear c1 c2
                go_wp2
                go_roundw
                case rel => exact ⟨k' + 1, by omega, by go_num, by rw [V1.out], by rw [V2.out], by (repeat' (first | (with_reducible exact Below.refl _ _) | (with_reducible assumption) | (with_reducible refine Below.drew ?_) | (with_reducible refine belowDrewN ?_ _) | (with_reducible refine Below.alloc ?_ ?_ _) | (with_reducible refine Below.setCell ?_ ?_ _) | (with_reducible refine belowStep (by assumption) ?_ ?_) | (with_reducible exact Below.size (by assumption)) | go_size))⟩
                case measure => simp [intOf]; omega
          · obtain rfl : k' = out.length := by omega
            rw [if_pos (by omega), if_pos (by omega)]
            go_wp2_with fail
            refine (mergePair_any _ _ _ (by omega) (by omega) _ _ _ (Hr3.out.below (by (repeat' (first | (with_reducible exact Below.refl _ _) | (with_reducible assumption) | (with_reducible refine Below.drew ?_) | (with_reducible refine belowDrewN ?_ _) | (with_reducible refine Below.alloc ?_ ?_ _) | (with_reducible refine Below.setCell ?_ ?_ _) | (with_reducible refine belowStep (by assumption) ?_ ?_) | (with_reducible exact Below.size (by assumption)) | go_size)))) hlo S64.out).mono ?_; rintro e w18 ⟨v18, rfl, ho18, hb18⟩; have hz18 := hb18.size; (try simp only [World.size_alloc, World.size_setCell, World.size_drew, World.heap_drewN] at hz18)
            rw [Hmp.out.2] at ho18
            rw [Hmp.out.1]
            obtain ⟨A18, c18, rfl, hr18⟩ := ho18.form
            have Hr18 := Lib.hid hr18
            clear ho18 hr18
            go_wp2_with fail
            refine (pSame_same _ _ _ _ _ _ Hr18.out (Hxs.out.below (by (repeat' (first | (with_reducible exact Below.refl _ _) | (with_reducible assumption) | (with_reducible refine Below.drew ?_) | (with_reducible refine belowDrewN ?_ _) | (with_reducible refine Below.alloc ?_ ?_ _) | (with_reducible refine Below.setCell ?_ ?_ _) | (with_reducible refine belowStep (by assumption) ?_ ?_) | (with_reducible exact Below.size (by assumption)) | go_size)))) (by omega)).mono ?_; rintro e w19 ⟨rfl, k19, rfl⟩
            go_wp2
            go_ret
            exact ⟨rfl, by (repeat' (first | (with_reducible exact Below.refl _ _) | (with_reducible assumption) | (with_reducible refine Below.drew ?_) | (with_reducible refine belowDrewN ?_ _) | (with_reducible refine Below.alloc ?_ ?_ _) | (with_reducible refine Below.setCell ?_ ?_ _) | (with_reducible refine belowStep (by assumption) ?_ ?_) | (with_reducible exact Below.size (by assumption)) | go_size))⟩

set_option maxRecDepth 100000 in
theorem FnSplitTerms_lifted (os : Os) (started : os.Started) (H : Type) (enc : TypeId × Value → H) :
    ReturnsInHanded {} Try.checked os 3 .any (Rows.fnSplitTermsSpec.pre6 enc Try.prog Try.f3 Rows.fnSplitTermsRow.domain false) (Rows.fnSplitTermsSpec.post enc Try.prog Try.f3 false true false false) := by
  refine returnsInHanded_of_change (C := Try.checked) own started (by kernel_rfl) Try.func3
    (ChangeSpec.witness6 (enc := enc) (C := Try.checked) false ⟨#[], #[.slice none 0 0, .slice none 0 0], []⟩ 8 (by kernel_rfl) (by kernel_rfl) (by kernel_rfl) (by kernel_rfl)) ?_
  intro W base args ds gs before hval0 hW hcnd _
  have hval : ∀ (j : Nat) t v, Try.f3.params[j]? = some t → args[j]? = some v → Value.okWide Try.prog W .any base t v := hval0
  have hW' := hW
  have hlt : ∀ p ∈ before, p.block < W.heap.size := fun p hp => hW'.lt p hp
  obtain ⟨p, q, hA0, hV, rfl, hfz, hnd⟩ := hW
  have hA : DataW.TrodAll enc Try.prog W 0 (fun _ => true) true Try.f3.params.toList args.toList ds p := hA0
  rw [Try.params3] at hA hval
  obtain ⟨v0, vs0, d0, ds0, p0, q0, hargs, rfl, rfl, h0, r0⟩ := trodAll_cons hA
  obtain ⟨v1, vs1, d1, ds1, p1, q1, rfl, rfl, rfl, h1, r1⟩ := trodAll_cons r0
  obtain ⟨rfl, rfl, rfl⟩ := trodAll_nil r1
  obtain rfl : args = #[v0, v1] := by cases args; simp_all
  obtain ⟨rfl, rfl⟩ := trodVars_none hV
  obtain ⟨Aa, ca, na, rfl, ha⟩ := open_bytes_reads Try.underlying22 Try.underlying5 (by kernel_rfl) (hval 0 22 v0 rfl rfl) h0 (fun y hy => hlt y (by simp [hy]))
  obtain ⟨Ab, cb, nb, rfl, hb⟩ := open_bytes_reads Try.underlying22 Try.underlying5 (by kernel_rfl) (hval 1 22 v1 rfl rfl) h1 (fun y hy => hlt y (by simp [hy]))
  refine (FnSplitTerms_walk W Aa ca na Ab cb nb ha hb).mono fun e W' ⟨he, hg⟩ => ?_
  subst he
  exact ⟨_, rfl, law_post laidOut (by rw [Try.params3]; intro t ht; simp only [List.mem_cons, List.not_mem_nil, or_false] at ht; rcases ht with rfl | rfl <;> exact ⟨by kernel_rfl, of_decide_eq_true (by kernel_rfl)⟩) (by kernel_rfl) Try.underlying4 rfl hW' rfl hg⟩

theorem FnSplitTerms_closed : joinedFacts Try.prog 3 Try.f3 Rows.fnSplitTermsSpec Rows.fnSplitTermsRow = true := by
  unfold joinedFacts
  rw [mayEnter_eq, lifts_eq, make_eq]
  kernel_rfl

theorem FnSplitTerms_holds : Rows.FnSplitTermsSaid :=
  OpenClaim.holds_of_wide 3 Try.f3 rfl rfl rfl rfl rfl rfl rfl ⟨rfl, rfl, rfl, rfl, rfl⟩ rfl rfl rfl rfl rfl (by kernel_rfl) Try.func3 FnSplitTerms_closed
    (of_decide_eq_true (by kernel_rfl)) (by unfold Func.isWrapper; first | (rw [if_pos (by decide +kernel)]; kernel_rfl) | (rw [if_neg (by decide +kernel)]; exact ⟨rfl, rfl⟩))
    (fun os started H enc _ => FnSplitTerms_lifted os started H enc)

end Go.Proofs.Ytbjblkfibinenaa
