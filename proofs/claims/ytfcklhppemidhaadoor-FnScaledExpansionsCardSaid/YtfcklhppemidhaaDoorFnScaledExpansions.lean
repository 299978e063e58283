
/-
  For all bytes: a list and a number are drawn; the sum of the scaled list is the sum divided by the number, a common multiple makes it whole, and the text is read back. Conditions: the library's tables and sentinels hold what its initialisers lay.
-/
import Derived.Test.YtfcklhppemidhaaDoorShellD
import Derived.Test.YtfcklhppemidhaaDoorTie
import Derived.Test.YtfcklhppemidhaaDoorCards
import Derived.SevenTiedAt
import Derived.Test.YtfcklhppemidhaaDoorScaleT
import Derived.Test.YtfcklhppemidhaaDoorArith
import Derived.Test.YtfcklhppemidhaaDoorShell
import Derived.Test.YtfcklhppemidhaaDoorLawK
namespace Go.Proofs.YtfcklhppemidhaaDoor
open Go.ChangeShapes Go.WideShapes Go.ChangeAt Go.RowKit Go.Joins Go.Deep
theorem scaleL_len (xs : List Int) (k : Int) : (scaleL xs k).length ≤ 24 := by
  cases h : scaleB xs k with
  | false => rw [scale_no h]; simp
  | true => exact expB_len (scale_sum h).2.2.2.1
theorem good_one {m : Int} (h0 : 0 ≤ m) (h1 : m ≤ 1000000000) : goodB m 1 = true :=
  (goodB_iff m 1).2 ⟨h0, h1, by omega, by omega, by unfold gcdI; simp⟩
set_option maxRecDepth 100000 in
set_option maxHeartbeats 32000000 in
theorem FnScaledExpansions_walk (w : World) (A : Option Addr) (c n0 : Nat) (B : Option Addr) (c' m0 : Nat) (hA : ReadsB w A n0 ∧ n0 ≤ 9223372036854775807) (hB : ReadsB w B m0 ∧ m0 ≤ 9223372036854775807) (hE : EnvA w) :
    Calls Tryd.prog 4 #[.slice A n0 c, .slice B m0 c'] w (Ret (.bool true) w) := by
  obtain ⟨hA, hn⟩ := hA
  obtain ⟨hB, hm⟩ := hB
  have HA := Lib.hid hA
  have HE := Lib.hid hE
  clear hA hB hE
  cases hbig : bigB n0 m0 with
  | true =>
    go_enter Tryd.func4, Tryd.ntmps4
    go_wp2_with fail
    refine (big_any _ _ _ _ _ _ _ hn hm).mono ?_; rintro e w1 ⟨rfl, k1, rfl⟩
    go_wp2
    go_ret
    exact ⟨rfl, by (repeat' (first | (with_reducible exact Below.refl _ _) | (with_reducible assumption) | (with_reducible refine Below.drew ?_) | (with_reducible refine belowDrewN ?_ _) | (with_reducible refine Below.alloc ?_ ?_ _) | (with_reducible refine Below.setCell ?_ ?_ _) | (with_reducible refine belowStep (by assumption) ?_ ?_) | (with_reducible exact Below.size (by assumption)) | go_size))⟩
  | false =>
    have hn2 : n0 ≤ 1048576 := by
      simp only [bigB, Bool.or_eq_false_iff, decide_eq_false_iff_not] at hbig
      omega
    go_enter Tryd.func4, Tryd.ntmps4
    go_wp2_with fail
    refine (big_any _ _ _ _ _ _ _ hn hm).mono ?_; rintro e w1 ⟨rfl, k1, rfl⟩
    go_wp2_with fail
    refine (drawScale_any _ A n0 c (HA.out.below (by (repeat' (first | (with_reducible exact Below.refl _ _) | (with_reducible assumption) | (with_reducible refine Below.drew ?_) | (with_reducible refine belowDrewN ?_ _) | (with_reducible refine Below.alloc ?_ ?_ _) | (with_reducible refine Below.setCell ?_ ?_ _) | (with_reducible refine belowStep (by assumption) ?_ ?_) | (with_reducible exact Below.size (by assumption)) | go_size)))) hn2).mono ?_; rintro e w2 ⟨v2, xs, k, rfl, ho2, hl2, hi2, hk2, hb2⟩; have hz2 := hb2.size; (try simp only [World.size_alloc, World.size_setCell, World.size_drew, World.heap_drewN] at hz2)
    clear hbig
    obtain ⟨A2, c2, rfl, hr2⟩ := ho2.form
    have Hxs := Lib.hid hr2
    have H64 := Lib.hid hi2
    have hol := scaleL_len xs k
    have lol : (scaleL xs k).length ≤ 1048576 := by omega
    have lxs : xs.length ≤ 1048576 := by omega
    clear ho2 hr2 hi2
    cases hs : scaleB xs k with
    | true =>
      obtain ⟨he, k1, k2, he2, q1, q2, q3⟩ := scale_sum hs
      have hsm := expB_small he2
      have H64o := Lib.hid (show In64 (scaleL xs k) from In64.of_mem fun z hz => by have := hsm z hz; omega)
      have Hsl := Lib.hid (show ∀ x ∈ scaleL xs k, 0 ≤ x ∧ x ≤ 9223372036854775807 from fun z hz => by have := hsm z hz; omega)
      have hszo : (⟨(showE (scaleL xs k)).toArray⟩ : ByteArray).size ≤ 1048576 := by rw [mk_size]; have := show_len _ Hsl.out; omega
      have HME : Hid (modE (⟨(showE (scaleL xs k)).toArray⟩ : ByteArray).data.toList = scaleL xs k) := by show modE _ = _; rw [mk_list]; exact modE_show hsm
      have Hs := Lib.hid hs
      have He := Lib.hid he
      have He2 := Lib.hid he2
      have Q1 := Lib.hid q1
      have Q2 := Lib.hid q2
      have Q3 := Lib.hid q3
      have hgk := good_one (m := k) (by omega) k2
      have Hgk := Lib.hid hgk
      clear hs he he2 q1 q2 q3 hsm hgk
      go_wp2_with fail
      refine (scale_any _ k (by omega) _ _ _ Hxs.out lxs H64.out).mono ?_; rintro e w3 ⟨v3, rfl, ho3, hb3⟩; have hz3 := hb3.size; (try simp only [World.size_alloc, World.size_setCell, World.size_drew, World.heap_drewN] at hz3)
      obtain ⟨A3, c3, rfl, hr3⟩ := ho3.form
      have H3 := Lib.hid hr3
      clear ho3 hr3
      go_wp2_with fail
      refine (spec_scale_any _ k (by omega) _ _ _ (Hxs.out.below (by (repeat' (first | (with_reducible exact Below.refl _ _) | (with_reducible assumption) | (with_reducible refine Below.drew ?_) | (with_reducible refine belowDrewN ?_ _) | (with_reducible refine Below.alloc ?_ ?_ _) | (with_reducible refine Below.setCell ?_ ?_ _) | (with_reducible refine belowStep (by assumption) ?_ ?_) | (with_reducible exact Below.size (by assumption)) | go_size)))) lxs).mono ?_; rintro e w4 ⟨A4, c4, rfl, hr4, hb4⟩; have hz4 := hb4.size; (try simp only [World.size_alloc, World.size_setCell, World.size_drew, World.heap_drewN] at hz4)
      have H4 := Lib.hid hr4
      clear hr4
      rw [Hs.out]
      go_wp2_with fail
      refine (pSame_same _ _ _ _ _ (scaleL xs k) (H3.out.below (by (repeat' (first | (with_reducible exact Below.refl _ _) | (with_reducible assumption) | (with_reducible refine Below.drew ?_) | (with_reducible refine belowDrewN ?_ _) | (with_reducible refine Below.alloc ?_ ?_ _) | (with_reducible refine Below.setCell ?_ ?_ _) | (with_reducible refine belowStep (by assumption) ?_ ?_) | (with_reducible exact Below.size (by assumption)) | go_size)))) H4.out lol).mono ?_; rintro e w5 ⟨rfl, k5, rfl⟩
      go_wp2_with fail
      refine (common_any _ _ _ _ (Hxs.out.below (by (repeat' (first | (with_reducible exact Below.refl _ _) | (with_reducible assumption) | (with_reducible refine Below.drew ?_) | (with_reducible refine belowDrewN ?_ _) | (with_reducible refine Below.alloc ?_ ?_ _) | (with_reducible refine Below.setCell ?_ ?_ _) | (with_reducible refine belowStep (by assumption) ?_ ?_) | (with_reducible exact Below.size (by assumption)) | go_size)))) lxs H64.out).mono ?_; rintro e w6 ⟨rfl, hb6⟩; have hz6 := hb6.size; (try simp only [World.size_alloc, World.size_setCell, World.size_drew, World.heap_drewN] at hz6)
      go_wp2_with fail
      refine (spec_common_any _ _ _ _ (Hxs.out.below (by (repeat' (first | (with_reducible exact Below.refl _ _) | (with_reducible assumption) | (with_reducible refine Below.drew ?_) | (with_reducible refine belowDrewN ?_ _) | (with_reducible refine Below.alloc ?_ ?_ _) | (with_reducible refine Below.setCell ?_ ?_ _) | (with_reducible refine belowStep (by assumption) ?_ ?_) | (with_reducible exact Below.size (by assumption)) | go_size)))) lxs).mono ?_; rintro e w7 ⟨rfl, hb7⟩; have hz7 := hb7.size; (try simp only [World.size_alloc, World.size_setCell, World.size_drew, World.heap_drewN] at hz7)
      go_wp2_with fail
      refine (sumOf_any _ _ _ _ (Hxs.out.below (by (repeat' (first | (with_reducible exact Below.refl _ _) | (with_reducible assumption) | (with_reducible refine Below.drew ?_) | (with_reducible refine belowDrewN ?_ _) | (with_reducible refine Below.alloc ?_ ?_ _) | (with_reducible refine Below.setCell ?_ ?_ _) | (with_reducible refine belowStep (by assumption) ?_ ?_) | (with_reducible exact Below.size (by assumption)) | go_size)))) lxs H64.out).mono ?_; rintro e w8 ⟨rfl, hb8⟩; have hz8 := hb8.size; (try simp only [World.size_alloc, World.size_setCell, World.size_drew, World.heap_drewN] at hz8)
      rw [He.out, show eN xs = sumN xs from by rw [eN, if_pos He.out], show eD xs = sumD xs from by rw [eD, if_pos He.out]]
      have Hgs := Lib.hid (good_sum He.out)
      have TS := Lib.hid (TwoAt.new w8 (sumN xs) (sumD xs) 27)
      have HDV := Lib.hid (fun w => by
        have h := div_yes (sumN xs) (sumD xs) k 1 w Hgs.out Hgk.out (by omega)
        rw [Q1.out, Q2.out, Q3.out] at h
        exact h)
      have HPE := Lib.hid (fun w hE => by
        have h := parseE_any ⟨(showE (scaleL xs k)).toArray⟩ w hszo hE
        rw [outE, HME.out, if_pos He2.out, He2.out] at h
        exact h)
      cases hc : cB xs with
      | true =>
        have HMW := Lib.hid (show redB (sumN xs * cM xs) (sumD xs) = true → redD (sumN xs * cM xs) (sumD xs) = 1 from by have h := mul_whole hc; rwa [Int.mul_one] at h)
        obtain ⟨_, dv, m1, m2⟩ := c_told hc
        have HgM := Lib.hid (good_one (m := cM xs) (by omega) m2)
        have Hdv := Lib.hid dv
        have Hpos := Lib.hid (fun x hx => (expB_small He.out x hx).1)
        have Hc := Lib.hid hc
        clear hc dv
        obtain ⟨oS1, oS2, oS3, oS4, oS5⟩ := TS.out
        have sl1 : w8.heap.size < w8.heap.size + 1 + 1 := by omega
        have sl2 : w8.heap.size ≠ w8.heap.size + 1 := by omega
        have sl3 : w8.heap.size + 1 ≠ w8.heap.size := by omega
        go_upto_region 14 with fail
        go_cut [17, 18] (fun s17 s18 wx => ∃ (g1 : Nat) (t : Bool) (dd nn : Int), s17 = .pointer (some ⟨g1, 0, none⟩) ∧ s18 = .bool t ∧ (t = true → dd = 1) ∧ w8.heap.size + 1 ≤ g1 ∧ g1 < wx.heap.size ∧ wx.cell? ⟨g1, 0, none⟩ = some (.int .i64 nn) ∧ wx.cell? ⟨g1, 1, none⟩ = some (.int .i64 dd) ∧ Below (w8.heap.size + 1) (w8.alloc (.cells #[.int .i64 (sumN xs), .int .i64 (sumD xs)] 27)) wx)
        case first =>
          go_region_held3 (fun w' => w'.cell? ⟨w8.heap.size, 0, none⟩ = some (.int .i64 (sumN xs)) ∧ w'.cell? ⟨w8.heap.size, 1, none⟩ = some (.int .i64 (sumD xs))) (go_keep) (first | (go_at_call 26; refine (pWhole_any _ _).mono ?_; rintro e w9 ⟨rfl, hb9⟩; obtain ⟨hc9, hf9⟩ := bcellB hb9; have hz9 := hb9.size; (try simp only [World.size_alloc, World.size_setCell, World.size_drew, World.heap_drewN] at hc9 hf9 hz9); (try have hy9_00 : w8.heap.size < w9.heap.size := by omega); (try have hn9_00 : w8.heap.size ≠ w9.heap.size := by omega); (try have hm9_00 : w9.heap.size ≠ w8.heap.size := by omega); (try have hp9_00 : w8.heap.size < w9.heap.size + 1 := by omega); (try have hy9_01 : w8.heap.size + 1 < w9.heap.size := by omega); (try have hn9_01 : w8.heap.size + 1 ≠ w9.heap.size := by omega); (try have hm9_01 : w9.heap.size ≠ w8.heap.size + 1 := by omega); (try have hp9_01 : w8.heap.size + 1 < w9.heap.size + 1 := by omega)) | (go_at_call 25; refine (mul_yes _ _ _ _ _ Hgs.out HgM.out).mono ?_; rintro e w10 ⟨rfl, hb10⟩; obtain ⟨hc10, hf10⟩ := bcellB hb10; have hz10 := hb10.size; (try simp only [World.size_alloc, World.size_setCell, World.size_drew, World.heap_drewN] at hc10 hf10 hz10); (try have hy10_00 : w8.heap.size < w10.heap.size := by omega); (try have hn10_00 : w8.heap.size ≠ w10.heap.size := by omega); (try have hm10_00 : w10.heap.size ≠ w8.heap.size := by omega); (try have hp10_00 : w8.heap.size < w10.heap.size + 1 := by omega); (try have hy10_01 : w8.heap.size + 1 < w10.heap.size := by omega); (try have hn10_01 : w8.heap.size + 1 ≠ w10.heap.size := by omega); (try have hm10_01 : w10.heap.size ≠ w8.heap.size + 1 := by omega); (try have hp10_01 : w8.heap.size + 1 < w10.heap.size + 1 := by omega); (try have hy10_10 : w9.heap.size < w10.heap.size := by omega); (try have hn10_10 : w9.heap.size ≠ w10.heap.size := by omega); (try have hm10_10 : w10.heap.size ≠ w9.heap.size := by omega); (try have hp10_10 : w9.heap.size < w10.heap.size + 1 := by omega); (try have hy10_11 : w9.heap.size + 1 < w10.heap.size := by omega); (try have hn10_11 : w9.heap.size + 1 ≠ w10.heap.size := by omega); (try have hm10_11 : w10.heap.size ≠ w9.heap.size + 1 := by omega); (try have hp10_11 : w9.heap.size + 1 < w10.heap.size + 1 := by omega)))
          all_goals go_wp2_with fail
          all_goals go_meet
          all_goals refine ⟨_, _, _, redN (sumN xs * cM xs) (sumD xs), rfl, rfl, HMW.out, ?_, ?_, ?_, ?_, by (repeat' (first | (with_reducible exact Below.refl _ _) | (with_reducible assumption) | (with_reducible refine Below.drew ?_) | (with_reducible refine belowDrewN ?_ _) | (with_reducible refine Below.alloc ?_ ?_ _) | (with_reducible refine Below.setCell ?_ ?_ _) | (with_reducible refine belowStep (by assumption) ?_ ?_) | (with_reducible exact Below.size (by assumption)) | go_size))⟩
          all_goals first | go_size | (first | (simp [*, World.cell?_alloc_some, World.cell?_setCell_far]; done) | (simp [go_sem, *]; done))
        case rest =>
          obtain ⟨w10, rfl⟩ : ∃ w10 : World, w10 = wc := ⟨_, rfl⟩
          obtain ⟨g1, t, dd, nn, rfl, rfl, htd, hg1, hg1b, hm1, hm2', hb10⟩ := hcut
          have hz10 := hb10.size
          (try simp only [World.size_alloc] at hz10)
          clear oS1 oS2 oS3 oS4 oS5
          have TS := Lib.hid (TS.out.below (w' := w10) (by simpa using hb10))
          cases t with
          | true =>
            have hdd := htd rfl
            subst hdd
            clear htd
            go_wp2
            go_loop [99] (fun v99 => ∃ j : Nat, j ≤ xs.length ∧ v99 = .int .i64 j) (fun v99 => xs.length - (intOf v99).toNat)
            case atStart => exact ⟨0, Nat.zero_le _, rfl⟩
            case round =>
              obtain ⟨j, hj, rfl⟩ := hrel
              by_cases hlt : j < xs.length
              · obtain ⟨b, o, x, rfl, hb, hx, hcell⟩ := (Hxs.out.below (by (repeat' (first | (with_reducible exact Below.refl _ _) | (with_reducible assumption) | (with_reducible refine Below.drew ?_) | (with_reducible refine belowDrewN ?_ _) | (with_reducible refine Below.alloc ?_ ?_ _) | (with_reducible refine Below.setCell ?_ ?_ _) | (with_reducible refine belowStep (by assumption) ?_ ?_) | (with_reducible exact Below.size (by assumption)) | go_size)) : Below w2.heap.size w2 w10)).at_ hlt
                have hxm := List.mem_of_getElem? hx
                have hx1 := Hpos.out x hxm
                have hmd : (cM xs % x != 0) = false := by rw [Int.emod_eq_zero_of_dvd (Hdv.out x hxm)]; rfl
                have hmd2 : ((cM xs).tmod x != 0) = false := by rw [Int.tmod_eq_emod_of_nonneg (by omega), Int.emod_eq_zero_of_dvd (Hdv.out x hxm)]; rfl
                clear hx hxm
                go_wp2
                go_round
                case rel => exact ⟨j + 1, by omega, by go_num⟩
                case measure => simp [intOf]; omega
              · obtain rfl : j = xs.length := by omega
                obtain ⟨oS1, oS2, oS3, oS4, oS5⟩ := TS.out
                (try have sl4 : w8.heap.size < w10.heap.size := by omega)
                (try have sl5 : w8.heap.size < w10.heap.size + 1 := by omega)
                (try have sl6 : w8.heap.size ≠ w10.heap.size := by omega)
                (try have sl7 : w10.heap.size ≠ w8.heap.size := by omega)
                have sl1 : w8.heap.size < w8.heap.size + 1 + 1 := by omega
                have sl2 : w8.heap.size ≠ w8.heap.size + 1 := by omega
                have sl3 : w8.heap.size + 1 ≠ w8.heap.size := by omega
                go_upto_region 25 with fail
                go_cut [21, 22] (fun s21 s22 wx => ∃ g2 : Nat, s21 = .pointer (some ⟨g2, 0, none⟩) ∧ s22 = .bool true ∧ w10.heap.size ≤ g2 ∧ g2 < wx.heap.size ∧ wx.cell? ⟨g2, 0, none⟩ = some (.int .i64 (eN (scaleL xs k))) ∧ wx.cell? ⟨g2, 1, none⟩ = some (.int .i64 (eD (scaleL xs k))) ∧ Below w10.heap.size w10 wx)
                case first =>
                  go_region_held3 (fun w' => w'.cell? ⟨w8.heap.size, 0, none⟩ = some (.int .i64 (sumN xs)) ∧ w'.cell? ⟨w8.heap.size, 1, none⟩ = some (.int .i64 (sumD xs))) (go_keep) (first | (go_at_call 26; refine (pWhole_any _ _).mono ?_; rintro e w21 ⟨rfl, hb21⟩; obtain ⟨hc21, hf21⟩ := bcellB hb21; have hz21 := hb21.size; (try simp only [World.size_alloc, World.size_setCell, World.size_drew, World.heap_drewN] at hc21 hf21 hz21); (try have hy21_00 : w8.heap.size < w21.heap.size := by omega); (try have hn21_00 : w8.heap.size ≠ w21.heap.size := by omega); (try have hm21_00 : w21.heap.size ≠ w8.heap.size := by omega); (try have hp21_00 : w8.heap.size < w21.heap.size + 1 := by omega); (try have hy21_01 : w8.heap.size + 1 < w21.heap.size := by omega); (try have hn21_01 : w8.heap.size + 1 ≠ w21.heap.size := by omega); (try have hm21_01 : w21.heap.size ≠ w8.heap.size + 1 := by omega); (try have hp21_01 : w8.heap.size + 1 < w21.heap.size + 1 := by omega); (try have hy21_10 : w10.heap.size < w21.heap.size := by omega); (try have hn21_10 : w10.heap.size ≠ w21.heap.size := by omega); (try have hm21_10 : w21.heap.size ≠ w10.heap.size := by omega); (try have hp21_10 : w10.heap.size < w21.heap.size + 1 := by omega); (try have hy21_11 : w10.heap.size + 1 < w21.heap.size := by omega); (try have hn21_11 : w10.heap.size + 1 ≠ w21.heap.size := by omega); (try have hm21_11 : w21.heap.size ≠ w10.heap.size + 1 := by omega); (try have hp21_11 : w10.heap.size + 1 < w21.heap.size + 1 := by omega)) | (go_at_call 27; refine (HDV.out _).mono ?_; rintro e w22 ⟨rfl, hb22⟩; obtain ⟨hc22, hf22⟩ := bcellB hb22; have hz22 := hb22.size; (try simp only [World.size_alloc, World.size_setCell, World.size_drew, World.heap_drewN] at hc22 hf22 hz22); (try have hy22_00 : w8.heap.size < w22.heap.size := by omega); (try have hn22_00 : w8.heap.size ≠ w22.heap.size := by omega); (try have hm22_00 : w22.heap.size ≠ w8.heap.size := by omega); (try have hp22_00 : w8.heap.size < w22.heap.size + 1 := by omega); (try have hy22_01 : w8.heap.size + 1 < w22.heap.size := by omega); (try have hn22_01 : w8.heap.size + 1 ≠ w22.heap.size := by omega); (try have hm22_01 : w22.heap.size ≠ w8.heap.size + 1 := by omega); (try have hp22_01 : w8.heap.size + 1 < w22.heap.size + 1 := by omega); (try have hy22_10 : w10.heap.size < w22.heap.size := by omega); (try have hn22_10 : w10.heap.size ≠ w22.heap.size := by omega); (try have hm22_10 : w22.heap.size ≠ w10.heap.size := by omega); (try have hp22_10 : w10.heap.size < w22.heap.size + 1 := by omega); (try have hy22_11 : w10.heap.size + 1 < w22.heap.size := by omega); (try have hn22_11 : w10.heap.size + 1 ≠ w22.heap.size := by omega); (try have hm22_11 : w22.heap.size ≠ w10.heap.size + 1 := by omega); (try have hp22_11 : w10.heap.size + 1 < w22.heap.size + 1 := by omega); (try have hy22_20 : w21.heap.size < w22.heap.size := by omega); (try have hn22_20 : w21.heap.size ≠ w22.heap.size := by omega); (try have hm22_20 : w22.heap.size ≠ w21.heap.size := by omega); (try have hp22_20 : w21.heap.size < w22.heap.size + 1 := by omega); (try have hy22_21 : w21.heap.size + 1 < w22.heap.size := by omega); (try have hn22_21 : w21.heap.size + 1 ≠ w22.heap.size := by omega); (try have hm22_21 : w22.heap.size ≠ w21.heap.size + 1 := by omega); (try have hp22_21 : w21.heap.size + 1 < w22.heap.size + 1 := by omega)))
                  all_goals go_wp2_with fail
                  all_goals go_meet
                  all_goals refine ⟨_, rfl, rfl, ?_, ?_, ?_, ?_, by (repeat' (first | (with_reducible exact Below.refl _ _) | (with_reducible assumption) | (with_reducible refine Below.drew ?_) | (with_reducible refine belowDrewN ?_ _) | (with_reducible refine Below.alloc ?_ ?_ _) | (with_reducible refine Below.setCell ?_ ?_ _) | (with_reducible refine belowStep (by assumption) ?_ ?_) | (with_reducible exact Below.size (by assumption)) | go_size))⟩
                  all_goals first | go_size | (first | (simp [*, World.cell?_alloc_some, World.cell?_setCell_far]; done) | (simp [go_sem, *]; done))
                case rest =>
                  obtain ⟨w25, rfl⟩ : ∃ w25 : World, w25 = wc := ⟨_, rfl⟩
                  obtain ⟨g2, rfl, rfl, hga, hgb, hl1, hl2, hb25⟩ := hcut
                  have hz25 := hb25.size
                  (try simp only [World.size_alloc] at hz25 hga)
                  have HL1 := Lib.hid hl1
                  have HL2 := Lib.hid hl2
                  clear hl1 hl2
                  clear oS1 oS2 oS3 oS4 oS5
                  go_wp2_with fail
                  refine (textE_yes _ _ _ _ (H3.out.below (by (repeat' (first | (with_reducible exact Below.refl _ _) | (with_reducible assumption) | (with_reducible refine Below.drew ?_) | (with_reducible refine belowDrewN ?_ _) | (with_reducible refine Below.alloc ?_ ?_ _) | (with_reducible refine Below.setCell ?_ ?_ _) | (with_reducible refine belowStep (by assumption) ?_ ?_) | (with_reducible exact Below.size (by assumption)) | go_size)))) lol He2.out ((HE.out.below (by (repeat' (first | (with_reducible exact Below.refl _ _) | (with_reducible assumption) | (with_reducible refine Below.drew ?_) | (with_reducible refine belowDrewN ?_ _) | (with_reducible refine Below.alloc ?_ ?_ _) | (with_reducible refine Below.setCell ?_ ?_ _) | (with_reducible refine belowStep (by assumption) ?_ ?_) | (with_reducible exact Below.size (by assumption)) | go_size)))).1)).mono ?_; rintro e w26 ⟨rfl, hb26⟩; have hz26 := hb26.size; (try simp only [World.size_alloc, World.size_setCell, World.size_drew, World.heap_drewN] at hz26)
                  go_wp2_with fail
                  refine (HPE.out _ (HE.out.below (by (repeat' (first | (with_reducible exact Below.refl _ _) | (with_reducible assumption) | (with_reducible refine Below.drew ?_) | (with_reducible refine belowDrewN ?_ _) | (with_reducible refine Below.alloc ?_ ?_ _) | (with_reducible refine Below.setCell ?_ ?_ _) | (with_reducible refine belowStep (by assumption) ?_ ?_) | (with_reducible exact Below.size (by assumption)) | go_size))))).mono ?_; rintro e w27 ⟨v27, rfl, ho27, hb27⟩; have hz27 := hb27.size; (try simp only [World.size_alloc, World.size_setCell, World.size_drew, World.heap_drewN] at hz27)
                  obtain ⟨A27, c27, rfl, hr27⟩ := ho27.form
                  have H27 := Lib.hid hr27
                  clear ho27 hr27
                  have L1 := (hb27.cell (p := ⟨g2, 0, none⟩) (show g2 < w26.heap.size by omega)).trans ((hb26.cell (p := ⟨g2, 0, none⟩) hgb).trans HL1.out)
                  have L2 := (hb27.cell (p := ⟨g2, 1, none⟩) (show g2 < w26.heap.size by omega)).trans ((hb26.cell (p := ⟨g2, 1, none⟩) hgb).trans HL2.out)
                  go_wp2_with fail
                  refine (pSums_yes _ _ _ _ _ _ (H3.out.below (by (repeat' (first | (with_reducible exact Below.refl _ _) | (with_reducible assumption) | (with_reducible refine Below.drew ?_) | (with_reducible refine belowDrewN ?_ _) | (with_reducible refine Below.alloc ?_ ?_ _) | (with_reducible refine Below.setCell ?_ ?_ _) | (with_reducible refine belowStep (by assumption) ?_ ?_) | (with_reducible exact Below.size (by assumption)) | go_size)))) lol H64o.out He2.out rfl rfl).mono ?_; rintro e w28 ⟨rfl, hb28⟩; have hz28 := hb28.size; (try simp only [World.size_alloc, World.size_setCell, World.size_drew, World.heap_drewN] at hz28)
                  go_wp2_with fail
                  refine (pSame_same _ _ _ _ _ (scaleL xs k) (H27.out.below (by (repeat' (first | (with_reducible exact Below.refl _ _) | (with_reducible assumption) | (with_reducible refine Below.drew ?_) | (with_reducible refine belowDrewN ?_ _) | (with_reducible refine Below.alloc ?_ ?_ _) | (with_reducible refine Below.setCell ?_ ?_ _) | (with_reducible refine belowStep (by assumption) ?_ ?_) | (with_reducible exact Below.size (by assumption)) | go_size)))) (H3.out.below (by (repeat' (first | (with_reducible exact Below.refl _ _) | (with_reducible assumption) | (with_reducible refine Below.drew ?_) | (with_reducible refine belowDrewN ?_ _) | (with_reducible refine Below.alloc ?_ ?_ _) | (with_reducible refine Below.setCell ?_ ?_ _) | (with_reducible refine belowStep (by assumption) ?_ ?_) | (with_reducible exact Below.size (by assumption)) | go_size)))) lol).mono ?_; rintro e w29 ⟨rfl, k29, rfl⟩
                  go_wp2
                  go_ret
                  exact ⟨rfl, by (repeat' (first | (with_reducible exact Below.refl _ _) | (with_reducible assumption) | (with_reducible refine Below.drew ?_) | (with_reducible refine belowDrewN ?_ _) | (with_reducible refine Below.alloc ?_ ?_ _) | (with_reducible refine Below.setCell ?_ ?_ _) | (with_reducible refine belowStep (by assumption) ?_ ?_) | (with_reducible exact Below.size (by assumption)) | go_size))⟩
          | false =>
            clear htd
            go_wp2
            go_loop [99] (fun v99 => ∃ j : Nat, j ≤ xs.length ∧ v99 = .int .i64 j) (fun v99 => xs.length - (intOf v99).toNat)
            case atStart => exact ⟨0, Nat.zero_le _, rfl⟩
            case round =>
              obtain ⟨j, hj, rfl⟩ := hrel
              by_cases hlt : j < xs.length
              · obtain ⟨b, o, x, rfl, hb, hx, hcell⟩ := (Hxs.out.below (by (repeat' (first | (with_reducible exact Below.refl _ _) | (with_reducible assumption) | (with_reducible refine Below.drew ?_) | (with_reducible refine belowDrewN ?_ _) | (with_reducible refine Below.alloc ?_ ?_ _) | (with_reducible refine Below.setCell ?_ ?_ _) | (with_reducible refine belowStep (by assumption) ?_ ?_) | (with_reducible exact Below.size (by assumption)) | go_size)) : Below w2.heap.size w2 w10)).at_ hlt
                have hxm := List.mem_of_getElem? hx
                have hx1 := Hpos.out x hxm
                have hmd : (cM xs % x != 0) = false := by rw [Int.emod_eq_zero_of_dvd (Hdv.out x hxm)]; rfl
                have hmd2 : ((cM xs).tmod x != 0) = false := by rw [Int.tmod_eq_emod_of_nonneg (by omega), Int.emod_eq_zero_of_dvd (Hdv.out x hxm)]; rfl
                clear hx hxm
                go_wp2
                go_round
                case rel => exact ⟨j + 1, by omega, by go_num⟩
                case measure => simp [intOf]; omega
              · obtain rfl : j = xs.length := by omega
                obtain ⟨oS1, oS2, oS3, oS4, oS5⟩ := TS.out
                (try have sl4 : w8.heap.size < w10.heap.size := by omega)
                (try have sl5 : w8.heap.size < w10.heap.size + 1 := by omega)
                (try have sl6 : w8.heap.size ≠ w10.heap.size := by omega)
                (try have sl7 : w10.heap.size ≠ w8.heap.size := by omega)
                have sl1 : w8.heap.size < w8.heap.size + 1 + 1 := by omega
                have sl2 : w8.heap.size ≠ w8.heap.size + 1 := by omega
                have sl3 : w8.heap.size + 1 ≠ w8.heap.size := by omega
                go_upto_region 25 with fail
                go_cut [21, 22] (fun s21 s22 wx => ∃ g2 : Nat, s21 = .pointer (some ⟨g2, 0, none⟩) ∧ s22 = .bool true ∧ w10.heap.size ≤ g2 ∧ g2 < wx.heap.size ∧ wx.cell? ⟨g2, 0, none⟩ = some (.int .i64 (eN (scaleL xs k))) ∧ wx.cell? ⟨g2, 1, none⟩ = some (.int .i64 (eD (scaleL xs k))) ∧ Below w10.heap.size w10 wx)
                case first =>
                  go_region_held3 (fun w' => w'.cell? ⟨w8.heap.size, 0, none⟩ = some (.int .i64 (sumN xs)) ∧ w'.cell? ⟨w8.heap.size, 1, none⟩ = some (.int .i64 (sumD xs))) (go_keep) (first | (go_at_call 26; refine (pWhole_any _ _).mono ?_; rintro e w21 ⟨rfl, hb21⟩; obtain ⟨hc21, hf21⟩ := bcellB hb21; have hz21 := hb21.size; (try simp only [World.size_alloc, World.size_setCell, World.size_drew, World.heap_drewN] at hc21 hf21 hz21); (try have hy21_00 : w8.heap.size < w21.heap.size := by omega); (try have hn21_00 : w8.heap.size ≠ w21.heap.size := by omega); (try have hm21_00 : w21.heap.size ≠ w8.heap.size := by omega); (try have hp21_00 : w8.heap.size < w21.heap.size + 1 := by omega); (try have hy21_01 : w8.heap.size + 1 < w21.heap.size := by omega); (try have hn21_01 : w8.heap.size + 1 ≠ w21.heap.size := by omega); (try have hm21_01 : w21.heap.size ≠ w8.heap.size + 1 := by omega); (try have hp21_01 : w8.heap.size + 1 < w21.heap.size + 1 := by omega); (try have hy21_10 : w10.heap.size < w21.heap.size := by omega); (try have hn21_10 : w10.heap.size ≠ w21.heap.size := by omega); (try have hm21_10 : w21.heap.size ≠ w10.heap.size := by omega); (try have hp21_10 : w10.heap.size < w21.heap.size + 1 := by omega); (try have hy21_11 : w10.heap.size + 1 < w21.heap.size := by omega); (try have hn21_11 : w10.heap.size + 1 ≠ w21.heap.size := by omega); (try have hm21_11 : w21.heap.size ≠ w10.heap.size + 1 := by omega); (try have hp21_11 : w10.heap.size + 1 < w21.heap.size + 1 := by omega)) | (go_at_call 27; refine (HDV.out _).mono ?_; rintro e w22 ⟨rfl, hb22⟩; obtain ⟨hc22, hf22⟩ := bcellB hb22; have hz22 := hb22.size; (try simp only [World.size_alloc, World.size_setCell, World.size_drew, World.heap_drewN] at hc22 hf22 hz22); (try have hy22_00 : w8.heap.size < w22.heap.size := by omega); (try have hn22_00 : w8.heap.size ≠ w22.heap.size := by omega); (try have hm22_00 : w22.heap.size ≠ w8.heap.size := by omega); (try have hp22_00 : w8.heap.size < w22.heap.size + 1 := by omega); (try have hy22_01 : w8.heap.size + 1 < w22.heap.size := by omega); (try have hn22_01 : w8.heap.size + 1 ≠ w22.heap.size := by omega); (try have hm22_01 : w22.heap.size ≠ w8.heap.size + 1 := by omega); (try have hp22_01 : w8.heap.size + 1 < w22.heap.size + 1 := by omega); (try have hy22_10 : w10.heap.size < w22.heap.size := by omega); (try have hn22_10 : w10.heap.size ≠ w22.heap.size := by omega); (try have hm22_10 : w22.heap.size ≠ w10.heap.size := by omega); (try have hp22_10 : w10.heap.size < w22.heap.size + 1 := by omega); (try have hy22_11 : w10.heap.size + 1 < w22.heap.size := by omega); (try have hn22_11 : w10.heap.size + 1 ≠ w22.heap.size := by omega); (try have hm22_11 : w22.heap.size ≠ w10.heap.size + 1 := by omega); (try have hp22_11 : w10.heap.size + 1 < w22.heap.size + 1 := by omega); (try have hy22_20 : w21.heap.size < w22.heap.size := by omega); (try have hn22_20 : w21.heap.size ≠ w22.heap.size := by omega); (try have hm22_20 : w22.heap.size ≠ w21.heap.size := by omega); (try have hp22_20 : w21.heap.size < w22.heap.size + 1 := by omega); (try have hy22_21 : w21.heap.size + 1 < w22.heap.size := by omega); (try have hn22_21 : w21.heap.size + 1 ≠ w22.heap.size := by omega); (try have hm22_21 : w22.heap.size ≠ w21.heap.size + 1 := by omega); (try have hp22_21 : w21.heap.size + 1 < w22.heap.size + 1 := by omega)))
                  all_goals go_wp2_with fail
                  all_goals go_meet
                  all_goals refine ⟨_, rfl, rfl, ?_, ?_, ?_, ?_, by (repeat' (first | (with_reducible exact Below.refl _ _) | (with_reducible assumption) | (with_reducible refine Below.drew ?_) | (with_reducible refine belowDrewN ?_ _) | (with_reducible refine Below.alloc ?_ ?_ _) | (with_reducible refine Below.setCell ?_ ?_ _) | (with_reducible refine belowStep (by assumption) ?_ ?_) | (with_reducible exact Below.size (by assumption)) | go_size))⟩
                  all_goals first | go_size | (first | (simp [*, World.cell?_alloc_some, World.cell?_setCell_far]; done) | (simp [go_sem, *]; done))
                case rest =>
                  obtain ⟨w25, rfl⟩ : ∃ w25 : World, w25 = wc := ⟨_, rfl⟩
                  obtain ⟨g2, rfl, rfl, hga, hgb, hl1, hl2, hb25⟩ := hcut
                  have hz25 := hb25.size
                  (try simp only [World.size_alloc] at hz25 hga)
                  have HL1 := Lib.hid hl1
                  have HL2 := Lib.hid hl2
                  clear hl1 hl2
                  clear oS1 oS2 oS3 oS4 oS5
                  go_wp2_with fail
                  refine (textE_yes _ _ _ _ (H3.out.below (by (repeat' (first | (with_reducible exact Below.refl _ _) | (with_reducible assumption) | (with_reducible refine Below.drew ?_) | (with_reducible refine belowDrewN ?_ _) | (with_reducible refine Below.alloc ?_ ?_ _) | (with_reducible refine Below.setCell ?_ ?_ _) | (with_reducible refine belowStep (by assumption) ?_ ?_) | (with_reducible exact Below.size (by assumption)) | go_size)))) lol He2.out ((HE.out.below (by (repeat' (first | (with_reducible exact Below.refl _ _) | (with_reducible assumption) | (with_reducible refine Below.drew ?_) | (with_reducible refine belowDrewN ?_ _) | (with_reducible refine Below.alloc ?_ ?_ _) | (with_reducible refine Below.setCell ?_ ?_ _) | (with_reducible refine belowStep (by assumption) ?_ ?_) | (with_reducible exact Below.size (by assumption)) | go_size)))).1)).mono ?_; rintro e w26 ⟨rfl, hb26⟩; have hz26 := hb26.size; (try simp only [World.size_alloc, World.size_setCell, World.size_drew, World.heap_drewN] at hz26)
                  go_wp2_with fail
                  refine (HPE.out _ (HE.out.below (by (repeat' (first | (with_reducible exact Below.refl _ _) | (with_reducible assumption) | (with_reducible refine Below.drew ?_) | (with_reducible refine belowDrewN ?_ _) | (with_reducible refine Below.alloc ?_ ?_ _) | (with_reducible refine Below.setCell ?_ ?_ _) | (with_reducible refine belowStep (by assumption) ?_ ?_) | (with_reducible exact Below.size (by assumption)) | go_size))))).mono ?_; rintro e w27 ⟨v27, rfl, ho27, hb27⟩; have hz27 := hb27.size; (try simp only [World.size_alloc, World.size_setCell, World.size_drew, World.heap_drewN] at hz27)
                  obtain ⟨A27, c27, rfl, hr27⟩ := ho27.form
                  have H27 := Lib.hid hr27
                  clear ho27 hr27
                  have L1 := (hb27.cell (p := ⟨g2, 0, none⟩) (show g2 < w26.heap.size by omega)).trans ((hb26.cell (p := ⟨g2, 0, none⟩) hgb).trans HL1.out)
                  have L2 := (hb27.cell (p := ⟨g2, 1, none⟩) (show g2 < w26.heap.size by omega)).trans ((hb26.cell (p := ⟨g2, 1, none⟩) hgb).trans HL2.out)
                  go_wp2_with fail
                  refine (pSums_yes _ _ _ _ _ _ (H3.out.below (by (repeat' (first | (with_reducible exact Below.refl _ _) | (with_reducible assumption) | (with_reducible refine Below.drew ?_) | (with_reducible refine belowDrewN ?_ _) | (with_reducible refine Below.alloc ?_ ?_ _) | (with_reducible refine Below.setCell ?_ ?_ _) | (with_reducible refine belowStep (by assumption) ?_ ?_) | (with_reducible exact Below.size (by assumption)) | go_size)))) lol H64o.out He2.out rfl rfl).mono ?_; rintro e w28 ⟨rfl, hb28⟩; have hz28 := hb28.size; (try simp only [World.size_alloc, World.size_setCell, World.size_drew, World.heap_drewN] at hz28)
                  go_wp2_with fail
                  refine (pSame_same _ _ _ _ _ (scaleL xs k) (H27.out.below (by (repeat' (first | (with_reducible exact Below.refl _ _) | (with_reducible assumption) | (with_reducible refine Below.drew ?_) | (with_reducible refine belowDrewN ?_ _) | (with_reducible refine Below.alloc ?_ ?_ _) | (with_reducible refine Below.setCell ?_ ?_ _) | (with_reducible refine belowStep (by assumption) ?_ ?_) | (with_reducible exact Below.size (by assumption)) | go_size)))) (H3.out.below (by (repeat' (first | (with_reducible exact Below.refl _ _) | (with_reducible assumption) | (with_reducible refine Below.drew ?_) | (with_reducible refine belowDrewN ?_ _) | (with_reducible refine Below.alloc ?_ ?_ _) | (with_reducible refine Below.setCell ?_ ?_ _) | (with_reducible refine belowStep (by assumption) ?_ ?_) | (with_reducible exact Below.size (by assumption)) | go_size)))) lol).mono ?_; rintro e w29 ⟨rfl, k29, rfl⟩
                  go_wp2
                  go_ret
                  exact ⟨rfl, by (repeat' (first | (with_reducible exact Below.refl _ _) | (with_reducible assumption) | (with_reducible refine Below.drew ?_) | (with_reducible refine belowDrewN ?_ _) | (with_reducible refine Below.alloc ?_ ?_ _) | (with_reducible refine Below.setCell ?_ ?_ _) | (with_reducible refine belowStep (by assumption) ?_ ?_) | (with_reducible exact Below.size (by assumption)) | go_size))⟩
      | false =>
        have Hc := Lib.hid hc
        clear hc
        obtain ⟨oS1, oS2, oS3, oS4, oS5⟩ := TS.out
        (try have sl4 : w8.heap.size < w10.heap.size := by omega)
        (try have sl5 : w8.heap.size < w10.heap.size + 1 := by omega)
        (try have sl6 : w8.heap.size ≠ w10.heap.size := by omega)
        (try have sl7 : w10.heap.size ≠ w8.heap.size := by omega)
        have sl1 : w8.heap.size < w8.heap.size + 1 + 1 := by omega
        have sl2 : w8.heap.size ≠ w8.heap.size + 1 := by omega
        have sl3 : w8.heap.size + 1 ≠ w8.heap.size := by omega
        go_upto_region 25 with fail
        go_cut [21, 22] (fun s21 s22 wx => ∃ g2 : Nat, s21 = .pointer (some ⟨g2, 0, none⟩) ∧ s22 = .bool true ∧ (w8.alloc (.cells #[.int .i64 (sumN xs), .int .i64 (sumD xs)] 27)).heap.size ≤ g2 ∧ g2 < wx.heap.size ∧ wx.cell? ⟨g2, 0, none⟩ = some (.int .i64 (eN (scaleL xs k))) ∧ wx.cell? ⟨g2, 1, none⟩ = some (.int .i64 (eD (scaleL xs k))) ∧ Below (w8.alloc (.cells #[.int .i64 (sumN xs), .int .i64 (sumD xs)] 27)).heap.size (w8.alloc (.cells #[.int .i64 (sumN xs), .int .i64 (sumD xs)] 27)) wx)
        case first =>
          go_region_held3 (fun w' => w'.cell? ⟨w8.heap.size, 0, none⟩ = some (.int .i64 (sumN xs)) ∧ w'.cell? ⟨w8.heap.size, 1, none⟩ = some (.int .i64 (sumD xs))) (go_keep) (first | (go_at_call 26; refine (pWhole_any _ _).mono ?_; rintro e w21 ⟨rfl, hb21⟩; obtain ⟨hc21, hf21⟩ := bcellB hb21; have hz21 := hb21.size; (try simp only [World.size_alloc, World.size_setCell, World.size_drew, World.heap_drewN] at hc21 hf21 hz21); (try have hy21_00 : w8.heap.size < w21.heap.size := by omega); (try have hn21_00 : w8.heap.size ≠ w21.heap.size := by omega); (try have hm21_00 : w21.heap.size ≠ w8.heap.size := by omega); (try have hp21_00 : w8.heap.size < w21.heap.size + 1 := by omega); (try have hy21_01 : w8.heap.size + 1 < w21.heap.size := by omega); (try have hn21_01 : w8.heap.size + 1 ≠ w21.heap.size := by omega); (try have hm21_01 : w21.heap.size ≠ w8.heap.size + 1 := by omega); (try have hp21_01 : w8.heap.size + 1 < w21.heap.size + 1 := by omega); (try have hy21_10 : w10.heap.size < w21.heap.size := by omega); (try have hn21_10 : w10.heap.size ≠ w21.heap.size := by omega); (try have hm21_10 : w21.heap.size ≠ w10.heap.size := by omega); (try have hp21_10 : w10.heap.size < w21.heap.size + 1 := by omega); (try have hy21_11 : w10.heap.size + 1 < w21.heap.size := by omega); (try have hn21_11 : w10.heap.size + 1 ≠ w21.heap.size := by omega); (try have hm21_11 : w21.heap.size ≠ w10.heap.size + 1 := by omega); (try have hp21_11 : w10.heap.size + 1 < w21.heap.size + 1 := by omega)) | (go_at_call 27; refine (HDV.out _).mono ?_; rintro e w22 ⟨rfl, hb22⟩; obtain ⟨hc22, hf22⟩ := bcellB hb22; have hz22 := hb22.size; (try simp only [World.size_alloc, World.size_setCell, World.size_drew, World.heap_drewN] at hc22 hf22 hz22); (try have hy22_00 : w8.heap.size < w22.heap.size := by omega); (try have hn22_00 : w8.heap.size ≠ w22.heap.size := by omega); (try have hm22_00 : w22.heap.size ≠ w8.heap.size := by omega); (try have hp22_00 : w8.heap.size < w22.heap.size + 1 := by omega); (try have hy22_01 : w8.heap.size + 1 < w22.heap.size := by omega); (try have hn22_01 : w8.heap.size + 1 ≠ w22.heap.size := by omega); (try have hm22_01 : w22.heap.size ≠ w8.heap.size + 1 := by omega); (try have hp22_01 : w8.heap.size + 1 < w22.heap.size + 1 := by omega); (try have hy22_10 : w10.heap.size < w22.heap.size := by omega); (try have hn22_10 : w10.heap.size ≠ w22.heap.size := by omega); (try have hm22_10 : w22.heap.size ≠ w10.heap.size := by omega); (try have hp22_10 : w10.heap.size < w22.heap.size + 1 := by omega); (try have hy22_11 : w10.heap.size + 1 < w22.heap.size := by omega); (try have hn22_11 : w10.heap.size + 1 ≠ w22.heap.size := by omega); (try have hm22_11 : w22.heap.size ≠ w10.heap.size + 1 := by omega); (try have hp22_11 : w10.heap.size + 1 < w22.heap.size + 1 := by omega); (try have hy22_20 : w21.heap.size < w22.heap.size := by omega); (try have hn22_20 : w21.heap.size ≠ w22.heap.size := by omega); (try have hm22_20 : w22.heap.size ≠ w21.heap.size := by omega); (try have hp22_20 : w21.heap.size < w22.heap.size + 1 := by omega); (try have hy22_21 : w21.heap.size + 1 < w22.heap.size := by omega); (try have hn22_21 : w21.heap.size + 1 ≠ w22.heap.size := by omega); (try have hm22_21 : w22.heap.size ≠ w21.heap.size + 1 := by omega); (try have hp22_21 : w21.heap.size + 1 < w22.heap.size + 1 := by omega)))
          all_goals go_wp2_with fail
          all_goals go_meet
          all_goals refine ⟨_, rfl, rfl, ?_, ?_, ?_, ?_, by (repeat' (first | (with_reducible exact Below.refl _ _) | (with_reducible assumption) | (with_reducible refine Below.drew ?_) | (with_reducible refine belowDrewN ?_ _) | (with_reducible refine Below.alloc ?_ ?_ _) | (with_reducible refine Below.setCell ?_ ?_ _) | (with_reducible refine belowStep (by assumption) ?_ ?_) | (with_reducible exact Below.size (by assumption)) | go_size))⟩
          all_goals first | go_size | (first | (simp [*, World.cell?_alloc_some, World.cell?_setCell_far]; done) | (simp [go_sem, *]; done))
        case rest =>
          obtain ⟨w25, rfl⟩ : ∃ w25 : World, w25 = wc := ⟨_, rfl⟩
          obtain ⟨g2, rfl, rfl, hga, hgb, hl1, hl2, hb25⟩ := hcut
          have hz25 := hb25.size
          (try simp only [World.size_alloc] at hz25 hga)
          have HL1 := Lib.hid hl1
          have HL2 := Lib.hid hl2
          clear hl1 hl2
          clear oS1 oS2 oS3 oS4 oS5
          go_wp2_with fail
          refine (textE_yes _ _ _ _ (H3.out.below (by (repeat' (first | (with_reducible exact Below.refl _ _) | (with_reducible assumption) | (with_reducible refine Below.drew ?_) | (with_reducible refine belowDrewN ?_ _) | (with_reducible refine Below.alloc ?_ ?_ _) | (with_reducible refine Below.setCell ?_ ?_ _) | (with_reducible refine belowStep (by assumption) ?_ ?_) | (with_reducible exact Below.size (by assumption)) | go_size)))) lol He2.out ((HE.out.below (by (repeat' (first | (with_reducible exact Below.refl _ _) | (with_reducible assumption) | (with_reducible refine Below.drew ?_) | (with_reducible refine belowDrewN ?_ _) | (with_reducible refine Below.alloc ?_ ?_ _) | (with_reducible refine Below.setCell ?_ ?_ _) | (with_reducible refine belowStep (by assumption) ?_ ?_) | (with_reducible exact Below.size (by assumption)) | go_size)))).1)).mono ?_; rintro e w26 ⟨rfl, hb26⟩; have hz26 := hb26.size; (try simp only [World.size_alloc, World.size_setCell, World.size_drew, World.heap_drewN] at hz26)
          go_wp2_with fail
          refine (HPE.out _ (HE.out.below (by (repeat' (first | (with_reducible exact Below.refl _ _) | (with_reducible assumption) | (with_reducible refine Below.drew ?_) | (with_reducible refine belowDrewN ?_ _) | (with_reducible refine Below.alloc ?_ ?_ _) | (with_reducible refine Below.setCell ?_ ?_ _) | (with_reducible refine belowStep (by assumption) ?_ ?_) | (with_reducible exact Below.size (by assumption)) | go_size))))).mono ?_; rintro e w27 ⟨v27, rfl, ho27, hb27⟩; have hz27 := hb27.size; (try simp only [World.size_alloc, World.size_setCell, World.size_drew, World.heap_drewN] at hz27)
          obtain ⟨A27, c27, rfl, hr27⟩ := ho27.form
          have H27 := Lib.hid hr27
          clear ho27 hr27
          have L1 := (hb27.cell (p := ⟨g2, 0, none⟩) (show g2 < w26.heap.size by omega)).trans ((hb26.cell (p := ⟨g2, 0, none⟩) hgb).trans HL1.out)
          have L2 := (hb27.cell (p := ⟨g2, 1, none⟩) (show g2 < w26.heap.size by omega)).trans ((hb26.cell (p := ⟨g2, 1, none⟩) hgb).trans HL2.out)
          go_wp2_with fail
          refine (pSums_yes _ _ _ _ _ _ (H3.out.below (by (repeat' (first | (with_reducible exact Below.refl _ _) | (with_reducible assumption) | (with_reducible refine Below.drew ?_) | (with_reducible refine belowDrewN ?_ _) | (with_reducible refine Below.alloc ?_ ?_ _) | (with_reducible refine Below.setCell ?_ ?_ _) | (with_reducible refine belowStep (by assumption) ?_ ?_) | (with_reducible exact Below.size (by assumption)) | go_size)))) lol H64o.out He2.out rfl rfl).mono ?_; rintro e w28 ⟨rfl, hb28⟩; have hz28 := hb28.size; (try simp only [World.size_alloc, World.size_setCell, World.size_drew, World.heap_drewN] at hz28)
          go_wp2_with fail
          refine (pSame_same _ _ _ _ _ (scaleL xs k) (H27.out.below (by (repeat' (first | (with_reducible exact Below.refl _ _) | (with_reducible assumption) | (with_reducible refine Below.drew ?_) | (with_reducible refine belowDrewN ?_ _) | (with_reducible refine Below.alloc ?_ ?_ _) | (with_reducible refine Below.setCell ?_ ?_ _) | (with_reducible refine belowStep (by assumption) ?_ ?_) | (with_reducible exact Below.size (by assumption)) | go_size)))) (H3.out.below (by (repeat' (first | (with_reducible exact Below.refl _ _) | (with_reducible assumption) | (with_reducible refine Below.drew ?_) | (with_reducible refine belowDrewN ?_ _) | (with_reducible refine Below.alloc ?_ ?_ _) | (with_reducible refine Below.setCell ?_ ?_ _) | (with_reducible refine belowStep (by assumption) ?_ ?_) | (with_reducible exact Below.size (by assumption)) | go_size)))) lol).mono ?_; rintro e w29 ⟨rfl, k29, rfl⟩
          go_wp2
          go_ret
          exact ⟨rfl, by (repeat' (first | (with_reducible exact Below.refl _ _) | (with_reducible assumption) | (with_reducible refine Below.drew ?_) | (with_reducible refine belowDrewN ?_ _) | (with_reducible refine Below.alloc ?_ ?_ _) | (with_reducible refine Below.setCell ?_ ?_ _) | (with_reducible refine belowStep (by assumption) ?_ ?_) | (with_reducible exact Below.size (by assumption)) | go_size))⟩
    | false =>
      have Hs := Lib.hid hs
      clear hs
      go_wp2_with fail
      refine (scale_any _ k (by omega) _ _ _ Hxs.out lxs H64.out).mono ?_; rintro e w3 ⟨v3, rfl, ho3, hb3⟩; have hz3 := hb3.size; (try simp only [World.size_alloc, World.size_setCell, World.size_drew, World.heap_drewN] at hz3)
      obtain ⟨A3, c3, rfl, hr3⟩ := ho3.form
      have H3 := Lib.hid hr3
      clear ho3 hr3
      go_wp2_with fail
      refine (spec_scale_any _ k (by omega) _ _ _ (Hxs.out.below (by (repeat' (first | (with_reducible exact Below.refl _ _) | (with_reducible assumption) | (with_reducible refine Below.drew ?_) | (with_reducible refine belowDrewN ?_ _) | (with_reducible refine Below.alloc ?_ ?_ _) | (with_reducible refine Below.setCell ?_ ?_ _) | (with_reducible refine belowStep (by assumption) ?_ ?_) | (with_reducible exact Below.size (by assumption)) | go_size)))) lxs).mono ?_; rintro e w4 ⟨A4, c4, rfl, hr4, hb4⟩; have hz4 := hb4.size; (try simp only [World.size_alloc, World.size_setCell, World.size_drew, World.heap_drewN] at hz4)
      have H4 := Lib.hid hr4
      clear hr4
      rw [Hs.out]
      go_wp2_with fail
      refine (pSame_same _ _ _ _ _ (scaleL xs k) (H3.out.below (by (repeat' (first | (with_reducible exact Below.refl _ _) | (with_reducible assumption) | (with_reducible refine Below.drew ?_) | (with_reducible refine belowDrewN ?_ _) | (with_reducible refine Below.alloc ?_ ?_ _) | (with_reducible refine Below.setCell ?_ ?_ _) | (with_reducible refine belowStep (by assumption) ?_ ?_) | (with_reducible exact Below.size (by assumption)) | go_size)))) H4.out lol).mono ?_; rintro e w5 ⟨rfl, k5, rfl⟩
      go_wp2_with fail
      refine (common_any _ _ _ _ (Hxs.out.below (by (repeat' (first | (with_reducible exact Below.refl _ _) | (with_reducible assumption) | (with_reducible refine Below.drew ?_) | (with_reducible refine belowDrewN ?_ _) | (with_reducible refine Below.alloc ?_ ?_ _) | (with_reducible refine Below.setCell ?_ ?_ _) | (with_reducible refine belowStep (by assumption) ?_ ?_) | (with_reducible exact Below.size (by assumption)) | go_size)))) lxs H64.out).mono ?_; rintro e w6 ⟨rfl, hb6⟩; have hz6 := hb6.size; (try simp only [World.size_alloc, World.size_setCell, World.size_drew, World.heap_drewN] at hz6)
      go_wp2_with fail
      refine (spec_common_any _ _ _ _ (Hxs.out.below (by (repeat' (first | (with_reducible exact Below.refl _ _) | (with_reducible assumption) | (with_reducible refine Below.drew ?_) | (with_reducible refine belowDrewN ?_ _) | (with_reducible refine Below.alloc ?_ ?_ _) | (with_reducible refine Below.setCell ?_ ?_ _) | (with_reducible refine belowStep (by assumption) ?_ ?_) | (with_reducible exact Below.size (by assumption)) | go_size)))) lxs).mono ?_; rintro e w7 ⟨rfl, hb7⟩; have hz7 := hb7.size; (try simp only [World.size_alloc, World.size_setCell, World.size_drew, World.heap_drewN] at hz7)
      go_wp2_with fail
      refine (sumOf_any _ _ _ _ (Hxs.out.below (by (repeat' (first | (with_reducible exact Below.refl _ _) | (with_reducible assumption) | (with_reducible refine Below.drew ?_) | (with_reducible refine belowDrewN ?_ _) | (with_reducible refine Below.alloc ?_ ?_ _) | (with_reducible refine Below.setCell ?_ ?_ _) | (with_reducible refine belowStep (by assumption) ?_ ?_) | (with_reducible exact Below.size (by assumption)) | go_size)))) lxs H64.out).mono ?_; rintro e w8 ⟨rfl, hb8⟩; have hz8 := hb8.size; (try simp only [World.size_alloc, World.size_setCell, World.size_drew, World.heap_drewN] at hz8)
      cases he : expB xs with
      | true =>
        have He := Lib.hid he
        clear he
        rw [show eN xs = sumN xs from by rw [eN, if_pos He.out], show eD xs = sumD xs from by rw [eD, if_pos He.out]]
        have Hgs := Lib.hid (good_sum He.out)
        have TS := Lib.hid (TwoAt.new w8 (sumN xs) (sumD xs) 27)
        cases hc : cB xs with
        | true =>
          have HMW := Lib.hid (show redB (sumN xs * cM xs) (sumD xs) = true → redD (sumN xs * cM xs) (sumD xs) = 1 from by have h := mul_whole hc; rwa [Int.mul_one] at h)
          obtain ⟨_, dv, m1, m2⟩ := c_told hc
          have HgM := Lib.hid (good_one (m := cM xs) (by omega) m2)
          have Hdv := Lib.hid dv
          have Hpos := Lib.hid (fun x hx => (expB_small He.out x hx).1)
          have Hc := Lib.hid hc
          clear hc dv
          obtain ⟨oS1, oS2, oS3, oS4, oS5⟩ := TS.out
          have sl1 : w8.heap.size < w8.heap.size + 1 + 1 := by omega
          have sl2 : w8.heap.size ≠ w8.heap.size + 1 := by omega
          have sl3 : w8.heap.size + 1 ≠ w8.heap.size := by omega
          go_upto_region 14 with fail
          go_cut [17, 18] (fun s17 s18 wx => ∃ (g1 : Nat) (t : Bool) (dd nn : Int), s17 = .pointer (some ⟨g1, 0, none⟩) ∧ s18 = .bool t ∧ (t = true → dd = 1) ∧ w8.heap.size + 1 ≤ g1 ∧ g1 < wx.heap.size ∧ wx.cell? ⟨g1, 0, none⟩ = some (.int .i64 nn) ∧ wx.cell? ⟨g1, 1, none⟩ = some (.int .i64 dd) ∧ Below (w8.heap.size + 1) (w8.alloc (.cells #[.int .i64 (sumN xs), .int .i64 (sumD xs)] 27)) wx)
          case first =>
            go_region_held3 (fun w' => w'.cell? ⟨w8.heap.size, 0, none⟩ = some (.int .i64 (sumN xs)) ∧ w'.cell? ⟨w8.heap.size, 1, none⟩ = some (.int .i64 (sumD xs))) (go_keep) (first | (go_at_call 26; refine (pWhole_any _ _).mono ?_; rintro e w9 ⟨rfl, hb9⟩; obtain ⟨hc9, hf9⟩ := bcellB hb9; have hz9 := hb9.size; (try simp only [World.size_alloc, World.size_setCell, World.size_drew, World.heap_drewN] at hc9 hf9 hz9); (try have hy9_00 : w8.heap.size < w9.heap.size := by omega); (try have hn9_00 : w8.heap.size ≠ w9.heap.size := by omega); (try have hm9_00 : w9.heap.size ≠ w8.heap.size := by omega); (try have hp9_00 : w8.heap.size < w9.heap.size + 1 := by omega); (try have hy9_01 : w8.heap.size + 1 < w9.heap.size := by omega); (try have hn9_01 : w8.heap.size + 1 ≠ w9.heap.size := by omega); (try have hm9_01 : w9.heap.size ≠ w8.heap.size + 1 := by omega); (try have hp9_01 : w8.heap.size + 1 < w9.heap.size + 1 := by omega)) | (go_at_call 25; refine (mul_yes _ _ _ _ _ Hgs.out HgM.out).mono ?_; rintro e w10 ⟨rfl, hb10⟩; obtain ⟨hc10, hf10⟩ := bcellB hb10; have hz10 := hb10.size; (try simp only [World.size_alloc, World.size_setCell, World.size_drew, World.heap_drewN] at hc10 hf10 hz10); (try have hy10_00 : w8.heap.size < w10.heap.size := by omega); (try have hn10_00 : w8.heap.size ≠ w10.heap.size := by omega); (try have hm10_00 : w10.heap.size ≠ w8.heap.size := by omega); (try have hp10_00 : w8.heap.size < w10.heap.size + 1 := by omega); (try have hy10_01 : w8.heap.size + 1 < w10.heap.size := by omega); (try have hn10_01 : w8.heap.size + 1 ≠ w10.heap.size := by omega); (try have hm10_01 : w10.heap.size ≠ w8.heap.size + 1 := by omega); (try have hp10_01 : w8.heap.size + 1 < w10.heap.size + 1 := by omega); (try have hy10_10 : w9.heap.size < w10.heap.size := by omega); (try have hn10_10 : w9.heap.size ≠ w10.heap.size := by omega); (try have hm10_10 : w10.heap.size ≠ w9.heap.size := by omega); (try have hp10_10 : w9.heap.size < w10.heap.size + 1 := by omega); (try have hy10_11 : w9.heap.size + 1 < w10.heap.size := by omega); (try have hn10_11 : w9.heap.size + 1 ≠ w10.heap.size := by omega); (try have hm10_11 : w10.heap.size ≠ w9.heap.size + 1 := by omega); (try have hp10_11 : w9.heap.size + 1 < w10.heap.size + 1 := by omega)))
            all_goals go_wp2_with fail
            all_goals go_meet
            all_goals refine ⟨_, _, _, redN (sumN xs * cM xs) (sumD xs), rfl, rfl, HMW.out, ?_, ?_, ?_, ?_, by (repeat' (first | (with_reducible exact Below.refl _ _) | (with_reducible assumption) | (with_reducible refine Below.drew ?_) | (with_reducible refine belowDrewN ?_ _) | (with_reducible refine Below.alloc ?_ ?_ _) | (with_reducible refine Below.setCell ?_ ?_ _) | (with_reducible refine belowStep (by assumption) ?_ ?_) | (with_reducible exact Below.size (by assumption)) | go_size))⟩
            all_goals first | go_size | (first | (simp [*, World.cell?_alloc_some, World.cell?_setCell_far]; done) | (simp [go_sem, *]; done))
          case rest =>
            obtain ⟨w10, rfl⟩ : ∃ w10 : World, w10 = wc := ⟨_, rfl⟩
            obtain ⟨g1, t, dd, nn, rfl, rfl, htd, hg1, hg1b, hm1, hm2', hb10⟩ := hcut
            have hz10 := hb10.size
            (try simp only [World.size_alloc] at hz10)
            clear oS1 oS2 oS3 oS4 oS5
            have TS := Lib.hid (TS.out.below (w' := w10) (by simpa using hb10))
            cases t with
            | true =>
              have hdd := htd rfl
              subst hdd
              clear htd
              go_wp2
              go_loop [99] (fun v99 => ∃ j : Nat, j ≤ xs.length ∧ v99 = .int .i64 j) (fun v99 => xs.length - (intOf v99).toNat)
              case atStart => exact ⟨0, Nat.zero_le _, rfl⟩
              case round =>
                obtain ⟨j, hj, rfl⟩ := hrel
                by_cases hlt : j < xs.length
                · obtain ⟨b, o, x, rfl, hb, hx, hcell⟩ := (Hxs.out.below (by (repeat' (first | (with_reducible exact Below.refl _ _) | (with_reducible assumption) | (with_reducible refine Below.drew ?_) | (with_reducible refine belowDrewN ?_ _) | (with_reducible refine Below.alloc ?_ ?_ _) | (with_reducible refine Below.setCell ?_ ?_ _) | (with_reducible refine belowStep (by assumption) ?_ ?_) | (with_reducible exact Below.size (by assumption)) | go_size)) : Below w2.heap.size w2 w10)).at_ hlt
                  have hxm := List.mem_of_getElem? hx
                  have hx1 := Hpos.out x hxm
                  have hmd : (cM xs % x != 0) = false := by rw [Int.emod_eq_zero_of_dvd (Hdv.out x hxm)]; rfl
                  have hmd2 : ((cM xs).tmod x != 0) = false := by rw [Int.tmod_eq_emod_of_nonneg (by omega), Int.emod_eq_zero_of_dvd (Hdv.out x hxm)]; rfl
                  clear hx hxm
                  go_wp2
                  go_round
                  case rel => exact ⟨j + 1, by omega, by go_num⟩
                  case measure => simp [intOf]; omega
                · obtain rfl : j = xs.length := by omega
                  go_wp2
                  go_ret
                  exact ⟨rfl, by (repeat' (first | (with_reducible exact Below.refl _ _) | (with_reducible assumption) | (with_reducible refine Below.drew ?_) | (with_reducible refine belowDrewN ?_ _) | (with_reducible refine Below.alloc ?_ ?_ _) | (with_reducible refine Below.setCell ?_ ?_ _) | (with_reducible refine belowStep (by assumption) ?_ ?_) | (with_reducible exact Below.size (by assumption)) | go_size))⟩
            | false =>
              clear htd
              go_wp2
              go_loop [99] (fun v99 => ∃ j : Nat, j ≤ xs.length ∧ v99 = .int .i64 j) (fun v99 => xs.length - (intOf v99).toNat)
              case atStart => exact ⟨0, Nat.zero_le _, rfl⟩
              case round =>
                obtain ⟨j, hj, rfl⟩ := hrel
                by_cases hlt : j < xs.length
                · obtain ⟨b, o, x, rfl, hb, hx, hcell⟩ := (Hxs.out.below (by (repeat' (first | (with_reducible exact Below.refl _ _) | (with_reducible assumption) | (with_reducible refine Below.drew ?_) | (with_reducible refine belowDrewN ?_ _) | (with_reducible refine Below.alloc ?_ ?_ _) | (with_reducible refine Below.setCell ?_ ?_ _) | (with_reducible refine belowStep (by assumption) ?_ ?_) | (with_reducible exact Below.size (by assumption)) | go_size)) : Below w2.heap.size w2 w10)).at_ hlt
                  have hxm := List.mem_of_getElem? hx
                  have hx1 := Hpos.out x hxm
                  have hmd : (cM xs % x != 0) = false := by rw [Int.emod_eq_zero_of_dvd (Hdv.out x hxm)]; rfl
                  have hmd2 : ((cM xs).tmod x != 0) = false := by rw [Int.tmod_eq_emod_of_nonneg (by omega), Int.emod_eq_zero_of_dvd (Hdv.out x hxm)]; rfl
                  clear hx hxm
                  go_wp2
                  go_round
                  case rel => exact ⟨j + 1, by omega, by go_num⟩
                  case measure => simp [intOf]; omega
                · obtain rfl : j = xs.length := by omega
                  go_wp2
                  go_ret
                  exact ⟨rfl, by (repeat' (first | (with_reducible exact Below.refl _ _) | (with_reducible assumption) | (with_reducible refine Below.drew ?_) | (with_reducible refine belowDrewN ?_ _) | (with_reducible refine Below.alloc ?_ ?_ _) | (with_reducible refine Below.setCell ?_ ?_ _) | (with_reducible refine belowStep (by assumption) ?_ ?_) | (with_reducible exact Below.size (by assumption)) | go_size))⟩
        | false =>
          have Hc := Lib.hid hc
          clear hc
          go_wp2
          go_ret
          exact ⟨rfl, by (repeat' (first | (with_reducible exact Below.refl _ _) | (with_reducible assumption) | (with_reducible refine Below.drew ?_) | (with_reducible refine belowDrewN ?_ _) | (with_reducible refine Below.alloc ?_ ?_ _) | (with_reducible refine Below.setCell ?_ ?_ _) | (with_reducible refine belowStep (by assumption) ?_ ?_) | (with_reducible exact Below.size (by assumption)) | go_size))⟩
      | false =>
        have Hc := Lib.hid (c_no he).2
        clear he
        rw [Hc.out]
        go_wp2
        go_ret
        exact ⟨rfl, by (repeat' (first | (with_reducible exact Below.refl _ _) | (with_reducible assumption) | (with_reducible refine Below.drew ?_) | (with_reducible refine belowDrewN ?_ _) | (with_reducible refine Below.alloc ?_ ?_ _) | (with_reducible refine Below.setCell ?_ ?_ _) | (with_reducible refine belowStep (by assumption) ?_ ?_) | (with_reducible exact Below.size (by assumption)) | go_size))⟩

theorem FnScaledExpansions_door (os : Os) (args : Array Value) : laidMetH Tryd.prog Rows.fnScaledExpansionsRow.laid ((World.laidAll Tryd.prog os Rows.fnScaledExpansionsRow.laid).forCall (fun _ _ => 0) ⟨#[], args, []⟩).memory :=
  by rw [MakeChecks.laidMetH_plain _ _ _ (by kernel_rfl)]; exact laidMet_laidAll _ (by kernel_rfl) (by kernel_rfl)
set_option maxRecDepth 100000 in
theorem FnScaledExpansions_lifted (os : Os) (started : os.Started) (H : Type) (enc : TypeId × Value → H) :
    ReturnsInHanded {} Tryd.checked os 4 .any (fun w args => (Rows.fnScaledExpansionsSpec.pre enc Tryd.prog Tryd.f4 Rows.fnScaledExpansionsRow.domain false w args ∧ laidMetH Tryd.prog Rows.fnScaledExpansionsRow.laid w) ∧ sizedMet enc Tryd.prog Tryd.f4 (OpenSpec.ofChange Rows.fnScaledExpansionsSpec) false w args)
      (Rows.fnScaledExpansionsSpec.post enc Tryd.prog Tryd.f4 false true false false) := by
  refine handed_and_shaped (C := Tryd.checked) (X := fun w _ => laidMetH Tryd.prog Rows.fnScaledExpansionsRow.laid w) (fun _ _ _ hh h => h.of_heap hh) own started (by kernel_rfl) Tryd.func4
    (ChangeSpec.witness_shaped (enc := enc) (C := Tryd.checked) (os := os) (X := fun w _ => laidMetH Tryd.prog Rows.fnScaledExpansionsRow.laid w) false (World.laidAll Tryd.prog os Rows.fnScaledExpansionsRow.laid) #[.slice none 0 0, .slice none 0 0] 8 (World.laidAll_os _ _ _) (World.shaped_of_ZipB (by kernel_rfl) (by kernel_rfl)) (by kernel_rfl) (by kernel_rfl) (by kernel_rfl) (FnScaledExpansions_door os _)) ?_
  intro W base args ds gs before hval0 hW hcnd _ hL hsh _
  have hval : ∀ (j : Nat) t v, Tryd.f4.params[j]? = some t → args[j]? = some v → Value.okWide Tryd.prog W .any base t v := hval0
  have hW' := hW
  have hlt : ∀ p ∈ before, p.block < W.heap.size := fun p hp => hW'.lt p hp
  obtain ⟨p, q, hA0, hV, rfl, hfz, hnd⟩ := hW
  have hA : DataW.TrodAll enc Tryd.prog W 0 (fun _ => true) true Tryd.f4.params.toList args.toList ds p := hA0
  rw [Tryd.params4] at hA hval
  obtain ⟨v0, vs0, d0, ds0, p0, q0, hargs, rfl, rfl, h0, r0⟩ := trodAll_cons hA
  obtain ⟨v1, vs1, d1, ds1, p1, q1, rfl, rfl, rfl, h1, r1⟩ := trodAll_cons r0
  obtain ⟨rfl, rfl, rfl⟩ := trodAll_nil r1
  obtain rfl : args = #[v0, v1] := by cases args; simp_all
  obtain ⟨rfl, rfl⟩ := trodVars_none hV
  obtain ⟨Ax, cx, nx, rfl, hx⟩ := open_bytes_reads Tryd.underlying22 Tryd.underlying5 (by kernel_rfl) (hval 0 22 v0 rfl rfl) h0 (fun y hy => hlt y (by simp [hy]))
  obtain ⟨Ay, cy, ny, rfl, hy⟩ := open_bytes_reads Tryd.underlying22 Tryd.underlying5 (by kernel_rfl) (hval 1 22 v1 rfl rfl) h1 (fun y hy => hlt y (by simp [hy]))
  rw [MakeChecks.laidMetH_plain _ _ _ (by kernel_rfl)] at hL
  have hM : laidMet Tryd.prog Rows.fnScaledExpansionsRow.laid W := hL
  have hE := EnvA.of_laid hsh (hM.tail.tail) (hM.tail.tail.tail.tail) (hM.tail.tail.tail.tail.tail)
  refine (FnScaledExpansions_walk W Ax cx nx Ay cy ny hx hy hE).mono fun e W' ⟨he, hg⟩ => ?_
  subst he
  exact ⟨_, rfl, law_post laidOut (by rw [Tryd.params4]; intro t ht; simp only [List.mem_cons, List.not_mem_nil, or_false] at ht; rcases ht with rfl | rfl <;> exact ⟨by kernel_rfl, of_decide_eq_true (by kernel_rfl)⟩) (by kernel_rfl) Tryd.underlying4 rfl hW' rfl hg⟩

theorem FnScaledExpansions_closed : joinedFacts Tryd.prog 4 Tryd.f4 Rows.fnScaledExpansionsSpec Rows.fnScaledExpansionsRow = true := by
  unfold joinedFacts
  rw [mayEnter_eq, lifts_eq, make_eq]
  kernel_rfl

theorem FnScaledExpansions_holds : Rows.FnScaledExpansionsSaid :=
  OpenClaim.holds_of_wide 4 Tryd.f4 rfl rfl rfl rfl rfl rfl rfl ⟨rfl, rfl, rfl, rfl, rfl⟩ rfl rfl rfl rfl rfl (by kernel_rfl) Tryd.func4 FnScaledExpansions_closed
    (of_decide_eq_true (by kernel_rfl)) (by unfold Func.isWrapper; first | (rw [if_pos (by decide +kernel)]; kernel_rfl) | (rw [if_neg (by decide +kernel)]; exact ⟨rfl, rfl⟩))
    (fun os started H enc _ => FnScaledExpansions_lifted os started H enc)

/-- the tied card -/
theorem FnScaledExpansions_card : Rows.FnScaledExpansionsCardSaid :=
  Claim7.holds_tied_plain_at .later [] [.data, .data, .data, .data, .sentinel, .sentinel, .pinned] true (true, "3c35f23367bd7b1a2912b67ab19a34c71b3bc79e422fe1ef1114309c403ee493") true
    FnScaledExpansions_holds (fun _ h => by cases h) (by kernel_rfl) (fun _ h => by cases h) fnScaledExpansions_row_tie rfl ⟨rfl, rfl⟩ (by kernel_rfl) rfl
    (fun f fn hf hfn => by
      obtain rfl : f = 4 := Option.some.inj ((show Tryd.prog.funcNamed "loop.example/g01107/laws.FnScaledExpansions" = some 4 by kernel_rfl).symm.trans hf) |>.symm
      obtain rfl : fn = Tryd.f4 := (Option.some.inj (Tryd.func4.symm.trans hfn)).symm
      exact ⟨by kernel_rfl, fun j t ht => by
        rw [Tryd.params4] at ht
        have hm : t ∈ [22, 22] := by simpa using Array.mem_of_getElem? ht
        have hall : ([22, 22].all fun u => !Tryd.prog.wantsStandIn u) = true := by kernel_rfl
        exact (show Tryd.prog.wantsStandIn t = false by simpa using List.all_eq_true.1 hall t hm)⟩)
    (by kernel_rfl)

end Go.Proofs.YtfcklhppemidhaaDoor
