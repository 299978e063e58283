
/-
  For all bytes: a list with two numbers and another list are drawn; the merge of the two terms and the merge of all are the model's; merging keeps the sum and makes one term less, and when all is merged, no pair can be merged any more. No condition.
-/
import Derived.Test.YtbjblkfibinenaaLawK
import Derived.Test.YtbjblkfibinenaaDrawM2
import Derived.Test.YtbjblkfibinenaaShell
import Derived.Test.YtbjblkfibinenaaMergL
namespace Go.Proofs.Ytbjblkfibinenaa
open Go.ChangeShapes Go.WideShapes Go.ChangeAt Go.RowKit Go.Joins Go.Deep
theorem RetQ.retL {v : Value} {w : World} {e : Ending} {w' : World} (h : RetQ v w e w') : Ret v w e w' := by
  obtain ⟨rfl, k, rfl⟩ := h
  exact ⟨rfl, by (repeat' (first | (with_reducible exact Below.refl _ _) | (with_reducible assumption) | (with_reducible refine Below.drew ?_) | (with_reducible refine belowDrewN ?_ _) | (with_reducible refine Below.alloc ?_ ?_ _) | (with_reducible refine Below.setCell ?_ ?_ _) | (with_reducible refine belowStep (by assumption) ?_ ?_) | (with_reducible exact Below.size (by assumption)) | go_size))⟩
set_option maxRecDepth 100000 in
set_option maxHeartbeats 32000000 in
theorem FnMergedPairs_walk (w : World) (A : Option Addr) (c n : Nat) (B : Option Addr) (d m' : Nat) (hA : ReadsB w A n ∧ n ≤ 9223372036854775807) (hB : ReadsB w B m' ∧ m' ≤ 9223372036854775807) :
    Calls Try.prog 14 #[.slice A n c, .slice B m' d] w (Ret (.bool true) w) := by
  obtain ⟨hA, hn⟩ := hA
  obtain ⟨hB, hm'⟩ := hB
  have HA := Lib.hid hA
  have HB := Lib.hid hB
  clear hA hB
  cases hbig : bigB n m' with
  | true =>
    go_enter Try.func14, Try.ntmps14
    go_wp2_with fail
    refine (big_any _ _ _ _ _ _ _ hn hm').mono ?_; rintro e w1 ⟨rfl, k1, rfl⟩
    go_wp2
    go_ret
    exact ⟨rfl, by (repeat' (first | (with_reducible exact Below.refl _ _) | (with_reducible assumption) | (with_reducible refine Below.drew ?_) | (with_reducible refine belowDrewN ?_ _) | (with_reducible refine Below.alloc ?_ ?_ _) | (with_reducible refine Below.setCell ?_ ?_ _) | (with_reducible refine belowStep (by assumption) ?_ ?_) | (with_reducible exact Below.size (by assumption)) | go_size))⟩
  | false =>
    have hn2 : n ≤ 1048576 ∧ m' ≤ 1048576 := by
      simp only [bigB, Bool.or_eq_false_iff, decide_eq_false_iff_not] at hbig
      omega
    go_enter Try.func14, Try.ntmps14
    go_wp2_with fail
    refine (big_any _ _ _ _ _ _ _ hn hm').mono ?_; rintro e w1 ⟨rfl, k1, rfl⟩
    go_wp2_with fail
    refine (drawMergePair_any _ A n c (HA.out.below (by (repeat' (first | (with_reducible exact Below.refl _ _) | (with_reducible assumption) | (with_reducible refine Below.drew ?_) | (with_reducible refine belowDrewN ?_ _) | (with_reducible refine Below.alloc ?_ ?_ _) | (with_reducible refine Below.setCell ?_ ?_ _) | (with_reducible refine belowStep (by assumption) ?_ ?_) | (with_reducible exact Below.size (by assumption)) | go_size)))) hn2.1).mono ?_; rintro e w2 ⟨A2, c2, xs, i, j, rfl, hr2, hl2, h642, hi, hj, hb2⟩
    have hz2 := hb2.size
    (try simp only [World.heap_drewN] at hz2)
    have HX := Lib.hid hr2
    have X64 := Lib.hid (In64.of_mem h642)
    have hxl : xs.length ≤ 1048576 := by omega
    clear hbig hr2 h642
    go_wp2_with fail
    refine (mergePair_any _ i j hi hj A2 c2 xs HX.out hxl X64.out).mono ?_; rintro e w3 ⟨v3, rfl, ho3, hb3⟩; have hz3 := hb3.size; (try simp only [World.size_alloc, World.size_setCell, World.size_drew, World.heap_drewN] at hz3)
    obtain ⟨A3, c3, rfl, hr3⟩ := ho3.form
    have HM3 := Lib.hid hr3
    have HX3 := Lib.hid (HX.out.below hb3)
    clear ho3 hr3 HX
    go_wp2_with fail
    refine (spec_mergePair_any _ i j hi hj A2 c2 xs HX3.out hxl).mono ?_; rintro e w4 ⟨A4, c4, rfl, hr4, hb4⟩; have hz4 := hb4.size; (try simp only [World.size_alloc, World.size_setCell, World.size_drew, World.heap_drewN] at hz4)
    have HM4 := Lib.hid hr4
    have HM5 := Lib.hid (HM3.out.below hb4)
    have HX4 := Lib.hid (HX3.out.below hb4)
    have hmlen : (mpL xs i j).length ≤ 1048576 := by
      by_cases h : mpB xs i j = true
      · by_cases h0 : 0 ≤ i ∧ i < j
        · obtain ⟨a, rfl⟩ := Int.eq_ofNat_of_zero_le h0.1
          obtain ⟨b, rfl⟩ := Int.eq_ofNat_of_zero_le (by omega : 0 ≤ j)
          have := (mp_keeps (by omega : a < b) h).2.2.1
          omega
        · rw [mp_out (fun h1 => h0 ⟨h1.1, h1.2.1⟩)] at h; cases h
      · rw [mp_no (by simpa using h)]; simp
    clear hr4 HM3 HX3
    go_wp2_with fail
    refine ((pSame_same _ _ _ _ _ _ HM5.out HM4.out hmlen).mono fun _ _ h => h.retL).mono ?_; rintro e w7 ⟨rfl, hb7⟩
    have hz7 := hb7.size
    have HM7 := Lib.hid (HM5.out.below hb7)
    have HX7 := Lib.hid (HX4.out.below hb7)
    have hbw7 : Below w.heap.size w w7 := by (repeat' (first | (with_reducible exact Below.refl _ _) | (with_reducible assumption) | (with_reducible refine Below.drew ?_) | (with_reducible refine belowDrewN ?_ _) | (with_reducible refine Below.alloc ?_ ?_ _) | (with_reducible refine Below.setCell ?_ ?_ _) | (with_reducible refine belowStep (by assumption) ?_ ?_) | (with_reducible exact Below.size (by assumption)) | go_size))
    clear HM4 HM5 HX4
    go_wp2_with fail
    refine (drawMergeAll_any _ B m' d ((HB.out.below hbw7).below (by (repeat' (first | (with_reducible exact Below.refl _ _) | (with_reducible assumption) | (with_reducible refine Below.drew ?_) | (with_reducible refine belowDrewN ?_ _) | (with_reducible refine Below.alloc ?_ ?_ _) | (with_reducible refine Below.setCell ?_ ?_ _) | (with_reducible refine belowStep (by assumption) ?_ ?_) | (with_reducible exact Below.size (by assumption)) | go_size)))) hn2.2).mono ?_; rintro e w8 ⟨v8, zs, rfl, ho8, hl8, h64, hb8⟩
    have hz8 := hb8.size
    (try simp only [World.size_alloc, World.heap_drewN] at hz8)
    obtain ⟨A8, c8, rfl, hr8⟩ := ho8.form
    have HZ := Lib.hid hr8
    have Z64 := Lib.hid (In64.of_mem h64)
    have HM8 := Lib.hid (HM7.out.below (w' := w8) (by (repeat' (first | (with_reducible exact Below.refl _ _) | (with_reducible assumption) | (with_reducible refine Below.drew ?_) | (with_reducible refine belowDrewN ?_ _) | (with_reducible refine Below.alloc ?_ ?_ _) | (with_reducible refine Below.setCell ?_ ?_ _) | (with_reducible refine belowStep (by assumption) ?_ ?_) | (with_reducible exact Below.size (by assumption)) | go_size))))
    have HX8 := Lib.hid (HX7.out.below (w' := w8) (by (repeat' (first | (with_reducible exact Below.refl _ _) | (with_reducible assumption) | (with_reducible refine Below.drew ?_) | (with_reducible refine belowDrewN ?_ _) | (with_reducible refine Below.alloc ?_ ?_ _) | (with_reducible refine Below.setCell ?_ ?_ _) | (with_reducible refine belowStep (by assumption) ?_ ?_) | (with_reducible exact Below.size (by assumption)) | go_size))))
    have hzl : zs.length ≤ 1048576 := by omega
    clear ho8 hr8 h64 HM7 HX7
    go_wp2_with fail
    refine (mergeAll_any _ A8 c8 zs HZ.out hzl Z64.out).mono ?_; rintro e w9 ⟨v9, rfl, ho9, hb9⟩; have hz9 := hb9.size; (try simp only [World.size_alloc, World.size_setCell, World.size_drew, World.heap_drewN] at hz9)
    obtain ⟨A9, c9, rfl, hr9⟩ := ho9.form
    have HY9 := Lib.hid hr9
    have HZ9 := Lib.hid (HZ.out.below hb9)
    have HM9 := Lib.hid (HM8.out.below hb9)
    have HX9 := Lib.hid (HX8.out.below hb9)
    clear ho9 hr9 HZ HM8 HX8
    go_wp2_with fail
    refine (spec_mergeAll_any _ A8 c8 zs HZ9.out hzl).mono ?_; rintro e w10 ⟨A10, c10, rfl, hr10, hb10⟩; have hz10 := hb10.size; (try simp only [World.size_alloc, World.size_setCell, World.size_drew, World.heap_drewN] at hz10)
    have HY10 := Lib.hid hr10
    have HYa := Lib.hid (HY9.out.below hb10)
    have HZa := Lib.hid (HZ9.out.below hb10)
    have HMa := Lib.hid (HM9.out.below hb10)
    have HXa := Lib.hid (HX9.out.below hb10)
    have hyl := maO_len zs
    clear hr10 HY9 HZ9 HM9 HX9
    go_wp2_with fail
    refine ((pSame_same _ _ _ _ _ _ HYa.out HY10.out (by omega)).mono fun _ _ h => h.retL).mono ?_; rintro e w12 ⟨rfl, hb12⟩
    have hz12 := hb12.size
    have HYb := Lib.hid (HYa.out.below hb12)
    have HZb := Lib.hid (HZa.out.below hb12)
    have HMb := Lib.hid (HMa.out.below hb12)
    have HXb := Lib.hid (HXa.out.below hb12)
    have hbw12 : Below w.heap.size w w12 := by (repeat' (first | (with_reducible exact Below.refl _ _) | (with_reducible assumption) | (with_reducible refine Below.drew ?_) | (with_reducible refine belowDrewN ?_ _) | (with_reducible refine Below.alloc ?_ ?_ _) | (with_reducible refine Below.setCell ?_ ?_ _) | (with_reducible refine belowStep (by assumption) ?_ ?_) | (with_reducible exact Below.size (by assumption)) | go_size))
    clear HY10 HYa HZa HMa HXa
    cases hE : maO zs with
    | none =>
      clear hE
      cases hB : mpB xs i j with
      | false =>
        go_wp2
        go_ret
        exact ⟨rfl, hbw12⟩
      | true =>
        obtain ⟨h0, h1⟩ : 0 ≤ i ∧ i < j := by
          by_cases h : 0 ≤ i ∧ i < j
          · exact h
          · rw [mp_out (fun h1 => h ⟨h1.1, h1.2.1⟩)] at hB; cases hB
        obtain ⟨ii, hii⟩ := Int.eq_ofNat_of_zero_le h0
        obtain ⟨jj, hjj⟩ := Int.eq_ofNat_of_zero_le (by omega : 0 ≤ j)
        have HK := Lib.hid (mp_keeps (show ii < jj by omega) (by rw [← hii, ← hjj]; exact hB))
        rw [← hii, ← hjj] at HK
        have hlm : (mpL xs i j).length + 1 ≤ xs.length := by have := HK.out.2.2.1; omega
        have hlm2 : xs.length ≤ (mpL xs i j).length + 1 := by have := HK.out.2.2.1; omega
        have hl24 := expB_len HK.out.2.1
        have M64 := Lib.hid (In64.of_mem fun x hx => by have := expB_small HK.out.2.1 x hx; omega : In64 (mpL xs i j))
        obtain ⟨p, hp⟩ : ∃ p, p = eN xs := ⟨_, rfl⟩
        obtain ⟨q, hq⟩ : ∃ q, q = eD xs := ⟨_, rfl⟩
        have HPT := Lib.hid fun (w : World) (h : Reads w A3 (mpL xs i j)) => pSums_yes w p q A3 c3 (mpL xs i j) h (by omega) M64.out HK.out.2.1 (HK.out.2.2.2.1.trans hp.symm) (HK.out.2.2.2.2.trans hq.symm)
        clear h0 h1 hii hjj hB
        go_wp2_with fail
        refine (sumOf_any _ A2 c2 xs ((HXb).out.below (by (repeat' (first | (with_reducible exact Below.refl _ _) | (with_reducible assumption) | (with_reducible refine Below.drew ?_) | (with_reducible refine belowDrewN ?_ _) | (with_reducible refine Below.alloc ?_ ?_ _) | (with_reducible refine Below.setCell ?_ ?_ _) | (with_reducible refine belowStep (by assumption) ?_ ?_) | (with_reducible exact Below.size (by assumption)) | go_size)))) hxl X64.out).mono ?_; rintro e w30 ⟨rfl, hb30⟩; have hz30 := hb30.size; (try simp only [World.size_alloc, World.size_setCell, World.size_drew, World.heap_drewN] at hz30)
        rw [← hp, ← hq, HK.out.1]
        clear hp hq
        have TI := Lib.hid (TwoAt.new w30 (p) (q) 34)
        obtain ⟨oI1, oI2, oI3, oI4, oI5⟩ := TI.out
        have HMz := Lib.hid ((HMb).out.below (w' := w30.alloc (.cells #[.int .i64 (p), .int .i64 (q)] 34)) (by (repeat' (first | (with_reducible exact Below.refl _ _) | (with_reducible assumption) | (with_reducible refine Below.drew ?_) | (with_reducible refine belowDrewN ?_ _) | (with_reducible refine Below.alloc ?_ ?_ _) | (with_reducible refine Below.setCell ?_ ?_ _) | (with_reducible refine belowStep (by assumption) ?_ ?_) | (with_reducible exact Below.size (by assumption)) | go_size))))
        generalize mpL xs i j = ms at *
        have hw1 : IntKind.i64.wrap (((xs.length : Nat) : Int) - 1) = ((ms.length : Nat) : Int) := by rw [show ((xs.length : Nat) : Int) - 1 = ((ms.length : Nat) : Int) by omega]; exact IntWalk.i64_in _ (by omega)
        have hw2 : (((ms.length : Nat) : Int) == ((xs.length : Nat) : Int) - 1) = true := by simp; omega
        go_wp2_with fail
        refine (HPT.out _ (HMz.out.below (by (repeat' (first | (with_reducible exact Below.refl _ _) | (with_reducible assumption) | (with_reducible refine Below.drew ?_) | (with_reducible refine belowDrewN ?_ _) | (with_reducible refine Below.alloc ?_ ?_ _) | (with_reducible refine Below.setCell ?_ ?_ _) | (with_reducible refine belowStep (by assumption) ?_ ?_) | (with_reducible exact Below.size (by assumption)) | go_size))))).mono ?_; rintro e w31 ⟨rfl, hb31⟩; have hz31 := hb31.size; (try simp only [World.size_alloc] at hz31)
        have hbw31 : Below w.heap.size w w31 := (hbw12).trans ((show Below (w12).heap.size w12 w31 by (repeat' (first | (with_reducible exact Below.refl _ _) | (with_reducible assumption) | (with_reducible refine Below.drew ?_) | (with_reducible refine belowDrewN ?_ _) | (with_reducible refine Below.alloc ?_ ?_ _) | (with_reducible refine Below.setCell ?_ ?_ _) | (with_reducible refine belowStep (by assumption) ?_ ?_) | (with_reducible exact Below.size (by assumption)) | go_size))).mono ((hbw12).size))
        go_wp2
        go_ret
        exact ⟨ret_bool (by first | exact hw2 | (simp; omega) | rfl), hbw31⟩
    | some ys =>
      have MA := Lib.hid (maO_back hE)
      rw [hE] at HYb
      have HY := Lib.hid (show Reads w12 A9 ys from HYb.out)
      simp only [Option.getD_some, Option.isSome_some]
      have hy24 := MA.out.l24
      have hfew := MA.out.few
      clear hE hyl HYb
      go_wp2_with fail
      refine (sumOf_any _ A8 c8 zs HZb.out hzl Z64.out).mono ?_; rintro e w13 ⟨rfl, hb13⟩; have hz13 := hb13.size; (try simp only [World.size_alloc, World.size_setCell, World.size_drew, World.heap_drewN] at hz13)
      rw [show eN zs = eN ys from MA.out.sum.1.symm, show eD zs = eD ys from MA.out.sum.2.symm, MA.out.xexp]
      obtain ⟨p, hp⟩ : ∃ p, p = eN ys := ⟨_, rfl⟩
      obtain ⟨q, hq⟩ : ∃ q, q = eD ys := ⟨_, rfl⟩
      rw [← hp, ← hq]
      have HPS := Lib.hid fun (w : World) (h : Reads w A9 ys) => pSums_yes w p q A9 c9 ys h (by omega) MA.out.y64 MA.out.exp hp.symm hq.symm
      clear hp hq
      have TJ := Lib.hid (TwoAt.new w13 (p) (q) 34)
      obtain ⟨oJ1, oJ2, oJ3, oJ4, oJ5⟩ := TJ.out
      have HYc := Lib.hid (HY.out.below (w' := w13.alloc (.cells #[.int .i64 (p), .int .i64 (q)] 34)) (by (repeat' (first | (with_reducible exact Below.refl _ _) | (with_reducible assumption) | (with_reducible refine Below.drew ?_) | (with_reducible refine belowDrewN ?_ _) | (with_reducible refine Below.alloc ?_ ?_ _) | (with_reducible refine Below.setCell ?_ ?_ _) | (with_reducible refine belowStep (by assumption) ?_ ?_) | (with_reducible exact Below.size (by assumption)) | go_size))))
      have HMc := Lib.hid (HMb.out.below (w' := w13.alloc (.cells #[.int .i64 (p), .int .i64 (q)] 34)) (by (repeat' (first | (with_reducible exact Below.refl _ _) | (with_reducible assumption) | (with_reducible refine Below.drew ?_) | (with_reducible refine belowDrewN ?_ _) | (with_reducible refine Below.alloc ?_ ?_ _) | (with_reducible refine Below.setCell ?_ ?_ _) | (with_reducible refine belowStep (by assumption) ?_ ?_) | (with_reducible exact Below.size (by assumption)) | go_size))))
      have HXc := Lib.hid (HXb.out.below (w' := w13.alloc (.cells #[.int .i64 (p), .int .i64 (q)] 34)) (by (repeat' (first | (with_reducible exact Below.refl _ _) | (with_reducible assumption) | (with_reducible refine Below.drew ?_) | (with_reducible refine belowDrewN ?_ _) | (with_reducible refine Below.alloc ?_ ?_ _) | (with_reducible refine Below.setCell ?_ ?_ _) | (with_reducible refine belowStep (by assumption) ?_ ?_) | (with_reducible exact Below.size (by assumption)) | go_size))))
      have hfd : decide (((zs.length : Nat) : Int) < ((ys.length : Nat) : Int)) = false := decide_eq_false (by omega)
      have hfd2 : decide (zs.length < ys.length) = false := decide_eq_false (by omega)
      have hfd3 : ¬ ((zs.length : Nat) : Int) < ((ys.length : Nat) : Int) := by omega
      have hfd4 : ¬ zs.length < ys.length := by omega
      go_wp2_with fail
      refine (HPS.out _ HYc.out).mono ?_; rintro e w14 ⟨rfl, hb14⟩; have hz14 := hb14.size; (try simp only [World.size_alloc] at hz14)
      have HYd := Lib.hid (HYc.out.below hb14)
      have HMd := Lib.hid (HMc.out.below hb14)
      have HXd := Lib.hid (HXc.out.below hb14)
      have hbw14 : Below w.heap.size w w14 := by (repeat' (first | (with_reducible exact Below.refl _ _) | (with_reducible assumption) | (with_reducible refine Below.drew ?_) | (with_reducible refine belowDrewN ?_ _) | (with_reducible refine Below.alloc ?_ ?_ _) | (with_reducible refine Below.setCell ?_ ?_ _) | (with_reducible refine belowStep (by assumption) ?_ ?_) | (with_reducible exact Below.size (by assumption)) | go_size))
      clear HY HYc HMc HXc HMb HXb HZb oJ1 oJ2 oJ3 oJ4 oJ5
      go_wp2
      go_loopw [101] (fun v101 wr => ∃ a : Nat, a ≤ ys.length ∧ v101 = .int .i64 (a : Int) ∧ Below w14.heap.size w14 wr) (fun v101 _ => ys.length - (intOf v101).toNat)
      case atStart => exact ⟨0, Nat.zero_le _, rfl, by (repeat' (first | (with_reducible exact Below.refl _ _) | (with_reducible assumption) | (with_reducible refine Below.drew ?_) | (with_reducible refine belowDrewN ?_ _) | (with_reducible refine Below.alloc ?_ ?_ _) | (with_reducible refine Below.setCell ?_ ?_ _) | (with_reducible refine belowStep (by assumption) ?_ ?_) | (with_reducible exact Below.size (by assumption)) | go_size))⟩
      case round =>
        obtain ⟨a, ha, rfl, hbr⟩ := hrel
        have hzr := hbr.size
        by_cases hlt : a < ys.length
        · have hai : (a : Int) < (ys.length : Int) := by omega
          go_wp2
          go_loopw [20] (fun v20 wq => ∃ b : Nat, a < b ∧ b ≤ ys.length + a + 1 ∧ v20 = .int .i64 (b : Int) ∧ Below w14.heap.size w14 wq) (fun v20 _ => ys.length + a + 1 - (intOf v20).toNat)
          case atStart => exact ⟨a + 1, by omega, by omega, by go_num, hbr⟩
          case round =>
            obtain ⟨b, hab, hb1, rfl, hbq⟩ := hrel
            have hzq := hbq.size
            by_cases hlt2 : b < ys.length
            · have hbi : (b : Int) < (ys.length : Int) := by omega
              have HN := Lib.hid (MA.out.none a b hab hlt2)
              go_wp2_with fail
              refine (mergePair_any _ (a : Int) (b : Int) (by omega) (by omega) A9 c9 ys (HYd.out.below hbq) (by omega) MA.out.y64).mono ?_; rintro e w15 ⟨v15, rfl, ho15, hb15⟩; have hz15 := hb15.size; (try simp only [World.size_alloc, World.size_setCell, World.size_drew, World.heap_drewN] at hz15)
              rw [HN.out]
              obtain ⟨A15, c15, rfl, _⟩ := ho15.form
              clear ho15
              go_wp2
              go_roundw
              case rel => exact ⟨b + 1, by omega, by omega, by go_num, by (repeat' (first | (with_reducible exact Below.refl _ _) | (with_reducible assumption) | (with_reducible refine Below.drew ?_) | (with_reducible refine belowDrewN ?_ _) | (with_reducible refine Below.alloc ?_ ?_ _) | (with_reducible refine Below.setCell ?_ ?_ _) | (with_reducible refine belowStep (by assumption) ?_ ?_) | (with_reducible exact Below.size (by assumption)) | go_size))⟩
              case measure => simp [intOf]; omega
            · have hbi : ¬ (b : Int) < (ys.length : Int) := by omega
              go_wp2
              go_roundw
              case rel => exact ⟨a + 1, by omega, by go_num, hbq⟩
              case measure => simp [intOf]; omega
        · obtain rfl : a = ys.length := by omega
          have HMe := Lib.hid (HMd.out.below hbr)
          have HXe := Lib.hid (HXd.out.below hbr)
          have hbwr : Below w.heap.size w wr := hbw14.trans (hbr.mono (by have := hbw14.size; omega))
          cases hB : mpB xs i j with
          | false =>
            go_wp2
            go_ret
            exact ⟨rfl, hbwr⟩
          | true =>
            obtain ⟨h0, h1⟩ : 0 ≤ i ∧ i < j := by
              by_cases h : 0 ≤ i ∧ i < j
              · exact h
              · rw [mp_out (fun h1 => h ⟨h1.1, h1.2.1⟩)] at hB; cases hB
            obtain ⟨ii, hii⟩ := Int.eq_ofNat_of_zero_le h0
            obtain ⟨jj, hjj⟩ := Int.eq_ofNat_of_zero_le (by omega : 0 ≤ j)
            have HK := Lib.hid (mp_keeps (show ii < jj by omega) (by rw [← hii, ← hjj]; exact hB))
            rw [← hii, ← hjj] at HK
            have hlm : (mpL xs i j).length + 1 ≤ xs.length := by have := HK.out.2.2.1; omega
            have hlm2 : xs.length ≤ (mpL xs i j).length + 1 := by have := HK.out.2.2.1; omega
            have hl24 := expB_len HK.out.2.1
            have M64 := Lib.hid (In64.of_mem fun x hx => by have := expB_small HK.out.2.1 x hx; omega : In64 (mpL xs i j))
            obtain ⟨p, hp⟩ : ∃ p, p = eN xs := ⟨_, rfl⟩
            obtain ⟨q, hq⟩ : ∃ q, q = eD xs := ⟨_, rfl⟩
            have HPT := Lib.hid fun (w : World) (h : Reads w A3 (mpL xs i j)) => pSums_yes w p q A3 c3 (mpL xs i j) h (by omega) M64.out HK.out.2.1 (HK.out.2.2.2.1.trans hp.symm) (HK.out.2.2.2.2.trans hq.symm)
            clear h0 h1 hii hjj hB
            go_wp2_with fail
            refine (sumOf_any _ A2 c2 xs ((HXe).out.below (by (repeat' (first | (with_reducible exact Below.refl _ _) | (with_reducible assumption) | (with_reducible refine Below.drew ?_) | (with_reducible refine belowDrewN ?_ _) | (with_reducible refine Below.alloc ?_ ?_ _) | (with_reducible refine Below.setCell ?_ ?_ _) | (with_reducible refine belowStep (by assumption) ?_ ?_) | (with_reducible exact Below.size (by assumption)) | go_size)))) hxl X64.out).mono ?_; rintro e w30 ⟨rfl, hb30⟩; have hz30 := hb30.size; (try simp only [World.size_alloc, World.size_setCell, World.size_drew, World.heap_drewN] at hz30)
            rw [← hp, ← hq, HK.out.1]
            clear hp hq
            have TI := Lib.hid (TwoAt.new w30 (p) (q) 34)
            obtain ⟨oI1, oI2, oI3, oI4, oI5⟩ := TI.out
            have HMz := Lib.hid ((HMe).out.below (w' := w30.alloc (.cells #[.int .i64 (p), .int .i64 (q)] 34)) (by (repeat' (first | (with_reducible exact Below.refl _ _) | (with_reducible assumption) | (with_reducible refine Below.drew ?_) | (with_reducible refine belowDrewN ?_ _) | (with_reducible refine Below.alloc ?_ ?_ _) | (with_reducible refine Below.setCell ?_ ?_ _) | (with_reducible refine belowStep (by assumption) ?_ ?_) | (with_reducible exact Below.size (by assumption)) | go_size))))
            generalize mpL xs i j = ms at *
            have hw1 : IntKind.i64.wrap (((xs.length : Nat) : Int) - 1) = ((ms.length : Nat) : Int) := by rw [show ((xs.length : Nat) : Int) - 1 = ((ms.length : Nat) : Int) by omega]; exact IntWalk.i64_in _ (by omega)
            have hw2 : (((ms.length : Nat) : Int) == ((xs.length : Nat) : Int) - 1) = true := by simp; omega
            go_wp2_with fail
            refine (HPT.out _ (HMz.out.below (by (repeat' (first | (with_reducible exact Below.refl _ _) | (with_reducible assumption) | (with_reducible refine Below.drew ?_) | (with_reducible refine belowDrewN ?_ _) | (with_reducible refine Below.alloc ?_ ?_ _) | (with_reducible refine Below.setCell ?_ ?_ _) | (with_reducible refine belowStep (by assumption) ?_ ?_) | (with_reducible exact Below.size (by assumption)) | go_size))))).mono ?_; rintro e w31 ⟨rfl, hb31⟩; have hz31 := hb31.size; (try simp only [World.size_alloc] at hz31)
            have hbw31 : Below w.heap.size w w31 := (hbwr).trans ((show Below (wr).heap.size wr w31 by (repeat' (first | (with_reducible exact Below.refl _ _) | (with_reducible assumption) | (with_reducible refine Below.drew ?_) | (with_reducible refine belowDrewN ?_ _) | (with_reducible refine Below.alloc ?_ ?_ _) | (with_reducible refine Below.setCell ?_ ?_ _) | (with_reducible refine belowStep (by assumption) ?_ ?_) | (with_reducible exact Below.size (by assumption)) | go_size))).mono ((hbwr).size))
            go_wp2
            go_ret
            exact ⟨ret_bool (by first | exact hw2 | (simp; omega) | rfl), hbw31⟩

set_option maxRecDepth 100000 in
theorem FnMergedPairs_lifted (os : Os) (started : os.Started) (H : Type) (enc : TypeId × Value → H) :
    ReturnsInHanded {} Try.checked os 14 .any (Rows.fnMergedPairsSpec.pre6 enc Try.prog Try.f14 Rows.fnMergedPairsRow.domain false) (Rows.fnMergedPairsSpec.post enc Try.prog Try.f14 false true false false) := by
  refine returnsInHanded_of_change (C := Try.checked) own started (by kernel_rfl) Try.func14
    (ChangeSpec.witness6 (enc := enc) (C := Try.checked) false ⟨#[], #[.slice none 0 0, .slice none 0 0], []⟩ 8 (by kernel_rfl) (by kernel_rfl) (by kernel_rfl) (by kernel_rfl)) ?_
  intro W base args ds gs before hval0 hW hcnd _
  have hval : ∀ (j : Nat) t v, Try.f14.params[j]? = some t → args[j]? = some v → Value.okWide Try.prog W .any base t v := hval0
  have hW' := hW
  have hlt : ∀ p ∈ before, p.block < W.heap.size := fun p hp => hW'.lt p hp
  obtain ⟨p, q, hA0, hV, rfl, hfz, hnd⟩ := hW
  have hA : DataW.TrodAll enc Try.prog W 0 (fun _ => true) true Try.f14.params.toList args.toList ds p := hA0
  rw [Try.params14] at hA hval
  obtain ⟨v0, vs0, d0, ds0, p0, q0, hargs, rfl, rfl, h0, r0⟩ := trodAll_cons hA
  obtain ⟨v1, vs1, d1, ds1, p1, q1, rfl, rfl, rfl, h1, r1⟩ := trodAll_cons r0
  obtain ⟨rfl, rfl, rfl⟩ := trodAll_nil r1
  obtain rfl : args = #[v0, v1] := by cases args; simp_all
  obtain ⟨rfl, rfl⟩ := trodVars_none hV
  obtain ⟨Aa, ca, na, rfl, ha⟩ := open_bytes_reads Try.underlying22 Try.underlying5 (by kernel_rfl) (hval 0 22 v0 rfl rfl) h0 (fun y hy => hlt y (by simp [hy]))
  obtain ⟨Ab, cb, nb, rfl, hb⟩ := open_bytes_reads Try.underlying22 Try.underlying5 (by kernel_rfl) (hval 1 22 v1 rfl rfl) h1 (fun y hy => hlt y (by simp [hy]))
  refine (FnMergedPairs_walk W Aa ca na Ab cb nb ha hb).mono fun e W' ⟨he, hg⟩ => ?_
  subst he
  exact ⟨_, rfl, law_post laidOut (by rw [Try.params14]; intro t ht; simp only [List.mem_cons, List.not_mem_nil, or_false] at ht; rcases ht with rfl | rfl <;> exact ⟨by kernel_rfl, of_decide_eq_true (by kernel_rfl)⟩) (by kernel_rfl) Try.underlying4 rfl hW' rfl hg⟩

theorem FnMergedPairs_closed : joinedFacts Try.prog 14 Try.f14 Rows.fnMergedPairsSpec Rows.fnMergedPairsRow = true := by
  unfold joinedFacts
  rw [mayEnter_eq, lifts_eq, make_eq]
  kernel_rfl

theorem FnMergedPairs_holds : Rows.FnMergedPairsSaid :=
  OpenClaim.holds_of_wide 14 Try.f14 rfl rfl rfl rfl rfl rfl rfl ⟨rfl, rfl, rfl, rfl, rfl⟩ rfl rfl rfl rfl rfl (by kernel_rfl) Try.func14 FnMergedPairs_closed
    (of_decide_eq_true (by kernel_rfl)) (by unfold Func.isWrapper; first | (rw [if_pos (by decide +kernel)]; kernel_rfl) | (rw [if_neg (by decide +kernel)]; exact ⟨rfl, rfl⟩))
    (fun os started H enc _ => FnMergedPairs_lifted os started H enc)

end Go.Proofs.Ytbjblkfibinenaa
