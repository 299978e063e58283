
/-
  For all bytes: an index is drawn; what the first of Sylvester's numbers leave of 1 is the unit fraction of their product, as the model tells, and they are the greedy expansion of the rest. No condition.
-/
import Derived.Test.YtbjblkfibinenacDrawSyl
import Derived.Test.YtbjblkfibinenacShell
import Derived.Test.YtbjblkfibinenacSame
namespace Go.Proofs.Ytbjblkfibinenac
open Go.ChangeShapes Go.WideShapes Go.ChangeAt Go.RowKit Go.Joins Go.Deep
theorem RetQ.retS {v : Value} {w : World} {e : Ending} {w' : World} (h : RetQ v w e w') : Ret v w e w' := by
  obtain ⟨rfl, k, rfl⟩ := h
  exact ⟨rfl, by (repeat' (first | (with_reducible exact Below.refl _ _) | (with_reducible assumption) | (with_reducible refine Below.drew ?_) | (with_reducible refine belowDrewN ?_ _) | (with_reducible refine Below.alloc ?_ ?_ _) | (with_reducible refine Below.setCell ?_ ?_ _) | (with_reducible refine belowStep (by assumption) ?_ ?_) | (with_reducible exact Below.size (by assumption)) | go_size))⟩
set_option maxRecDepth 1000000 in
set_option maxHeartbeats 200000000 in
theorem FnSylvesterNumbers_walk (w : World) (A : Option Addr) (c n : Nat) (B : Option Addr) (d m' : Nat) (hA : ReadsB w A n ∧ n ≤ 9223372036854775807) (hB : ReadsB w B m' ∧ m' ≤ 9223372036854775807) :
    Calls Try.prog 8 #[.slice A n c, .slice B m' d] w (Ret (.bool true) w) := by
  obtain ⟨hA, hn⟩ := hA
  obtain ⟨hB, hm'⟩ := hB
  have HA := Lib.hid hA
  clear hA hB
  cases hbig : bigB n m' with
  | true =>
    go_enter Try.func8, Try.ntmps8
    go_wp2_with fail
    refine (big_any _ _ _ _ _ _ _ hn hm').mono ?_; rintro e w1 ⟨rfl, k1, rfl⟩
    go_wp2
    go_ret
    exact ⟨rfl, by (repeat' (first | (with_reducible exact Below.refl _ _) | (with_reducible assumption) | (with_reducible refine Below.drew ?_) | (with_reducible refine belowDrewN ?_ _) | (with_reducible refine Below.alloc ?_ ?_ _) | (with_reducible refine Below.setCell ?_ ?_ _) | (with_reducible refine belowStep (by assumption) ?_ ?_) | (with_reducible exact Below.size (by assumption)) | go_size))⟩
  | false =>
    have hn2 : n ≤ 1048576 := by
      simp only [bigB, Bool.or_eq_false_iff, decide_eq_false_iff_not] at hbig
      omega
    go_enter Try.func8, Try.ntmps8
    go_wp2_with fail
    refine (big_any _ _ _ _ _ _ _ hn hm').mono ?_; rintro e w1 ⟨rfl, k1, rfl⟩
    go_wp2_with fail
    refine (drawSylGap_any _ A n c (HA.out.below (by (repeat' (first | (with_reducible exact Below.refl _ _) | (with_reducible assumption) | (with_reducible refine Below.drew ?_) | (with_reducible refine belowDrewN ?_ _) | (with_reducible refine Below.alloc ?_ ?_ _) | (with_reducible refine Below.setCell ?_ ?_ _) | (with_reducible refine belowStep (by assumption) ?_ ?_) | (with_reducible exact Below.size (by assumption)) | go_size)))) hn2).mono ?_; rintro e w2 ⟨k, rfl, hk0, hk1, hb2⟩
    have hz2 := hb2.size
    (try simp only [World.heap_drewN] at hz2)
    clear hbig
    by_cases hk : 0 ≤ k ∧ k ≤ 5
    · obtain ⟨m, rfl⟩ := Int.eq_ofNat_of_zero_le hk.1
      have hm : m ≤ 5 := by omega
      have E : Hid (sylB (m : Int) = true ∧ sylG (m : Int) = syl m - 1 ∧ sylU (m : Int) = 1 ∧ sylN (m : Int) = syl m) := Lib.hid ⟨by simp [sylB, hk.1, hk.2], by rw [sylG, if_pos hk]; rfl, by rw [sylU, if_pos hk], by rw [sylN, if_pos hk]; rfl⟩
      have Ej : Hid (∀ j : Nat, j ≤ 5 → sylN (j : Int) = syl j ∧ sylB (j : Int) = true) := Lib.hid fun j hj => ⟨by rw [sylN, if_pos ⟨by omega, by omega⟩]; rfl, by simp [sylB]; omega⟩
      have S := Lib.hid (syl_sum m hm)
      have G := Lib.hid (syl_gex m hm)
      have hll := sylL_len m
      have hll2 : (sylL m).length ≤ 5 := by omega
      have hs2 := syl_two m
      have hs3 := syl_small m hm
      clear hk hk0 hk1 hll
      go_wp2_with fail
      refine (sylGap_any _ _).mono ?_; rintro e w3 ⟨rfl, hb3⟩; have hz3 := hb3.size; (try simp only [World.size_alloc, World.size_setCell, World.size_drew, World.heap_drewN] at hz3)
      rw [E.out.1, E.out.2.1, E.out.2.2.1]
      have TG := Lib.hid (TwoAt.new w3 (1) (syl m - 1) 27)
      go_wp2_with fail
      refine (spec_sylGap_any _ _).mono ?_; rintro e w4 ⟨rfl, hb4⟩; have hz4 := hb4.size; (try simp only [World.size_alloc] at hz4)
      rw [E.out.1, E.out.2.1, E.out.2.2.1]
      have TG := Lib.hid (TG.out.below hb4)
      have TH := Lib.hid (TwoAt.new w4 (1) (syl m - 1) 27)
      have TG := Lib.hid (TG.out.below ((Below.refl _ _).alloc (Nat.le_refl _) (.cells #[.int .i64 (1), .int .i64 (syl m - 1)] 27)))
      obtain ⟨oG1, oG2, oG3, oG4, oG5⟩ := TG.out
      obtain ⟨oH1, oH2, oH3, oH4, oH5⟩ := TH.out
      have hne34 : w3.heap.size ≠ w4.heap.size := by omega
      go_wp2
      clear oG1 oG2 oG3 oG4 oG5
      clear oH1 oH2 oH3 oH4 oH5
      go_loopw [10, 11, 12] (fun v10 v11 v12 wr => ∃ j : Nat, j ≤ m ∧ v12 = .int .i64 (j : Int) ∧ v10 = .int .i64 (syl j - 1) ∧ (∃ A c, v11 = .slice A (sylL j).length c) ∧ OwnI wr (w4.heap.size + 1) v11 (sylL j) ∧ Below (w4.heap.size + 1) (w4.alloc (.cells #[.int .i64 (1), .int .i64 (syl m - 1)] 27)) wr) (fun _ _ v12 _ => m - (intOf v12).toNat)
      case atStart => exact ⟨0, Nat.zero_le _, rfl, rfl, ⟨_, _, rfl⟩, OwnI.empty _ _, by (repeat' (first | (with_reducible exact Below.refl _ _) | (with_reducible assumption) | (with_reducible refine Below.drew ?_) | (with_reducible refine belowDrewN ?_ _) | (with_reducible refine Below.alloc ?_ ?_ _) | (with_reducible refine Below.setCell ?_ ?_ _) | (with_reducible refine belowStep (by assumption) ?_ ?_) | (with_reducible exact Below.size (by assumption)) | go_size))⟩
      case round =>
        obtain ⟨j, hj, rfl, rfl, ⟨A1, c1, rfl⟩, ho, hbr⟩ := hrel
        have hzr := hbr.size
        (try simp only [World.size_alloc] at hzr)
        by_cases hlt : j < m
        · have e1 := Lib.hid (Ej.out j (by omega))
          have hp := syl_prod j (by omega)
          rw [Int.mul_comm] at hp
          have h2 := syl_two j
          have h3 := syl_small j (by omega)
          have E2 := Lib.hid (syl_next j)
          have hL : Hid (sylL (j + 1) = sylL j ++ [syl j]) := Lib.hid rfl
          have hl5 : (sylL j).length ≤ 5 := by rw [sylL_len]; omega
          have Ho := Lib.hid ho
          clear ho
          go_wp2_with fail
          refine (sylTerm_any (j : Int) _).mono ?_; rintro e w20 ⟨rfl, k20, rfl⟩
          rw [e1.out.1, e1.out.2]
          go_wp2_with fail
          refine (spec_sylTerm_any (j : Int) _).mono ?_; rintro e w21 ⟨rfl, k21, rfl⟩
          rw [e1.out.1, e1.out.2]
          generalize syl j = s at *
          generalize sylL j = ls at *
          go_wp2_with (at_builtin; refine wpList_app _ (o := ⟨some 86, _, _, _, _, _⟩) (ys := [s]) rfl _ _ rfl rfl (OwnI.below Ho.out (by (repeat' (first | (with_reducible exact Below.refl _ _) | (with_reducible assumption) | (with_reducible refine Below.drew ?_) | (with_reducible refine belowDrewN ?_ _) | (with_reducible refine Below.alloc ?_ ?_ _) | (with_reducible refine Below.setCell ?_ ?_ _) | (with_reducible refine belowStep (by assumption) ?_ ?_) | (with_reducible exact Below.size (by assumption)) | go_size)))) (1) (1) (by first | (simp; done) | (simp; omega)) rfl (Reads.one _ s) (by (try simp only [List.length_nil, List.length_cons]); omega) (by first | exact Nat.le_refl _ | ((try simp only [World.size_alloc, World.heap_drewN]); omega)) ?_; intro v22 w22 ho22 hb22 hg22 ht22; clear hg22 ht22; have hz22 := hb22.size; (try simp only [World.size_alloc, World.heap_drewN] at hz22))
          obtain ⟨A6, c6, rfl, hr6⟩ := ho22.form
          go_roundw
          case rel => exact ⟨j + 1, by omega, by go_num, by rw [E2.out, Int.mul_comm s]; (try congr 1); (try omega), ⟨A6, c6, by simp [hL.out]⟩, by rw [hL.out]; simpa using ho22, by (repeat' (first | (with_reducible exact Below.refl _ _) | (with_reducible assumption) | (with_reducible refine Below.drew ?_) | (with_reducible refine belowDrewN ?_ _) | (with_reducible refine Below.alloc ?_ ?_ _) | (with_reducible refine Below.setCell ?_ ?_ _) | (with_reducible refine belowStep (by assumption) ?_ ?_) | (with_reducible exact Below.size (by assumption)) | go_size))⟩
          case measure => simp [intOf]; omega
        · obtain rfl : j = m := by omega
          have TG := Lib.hid (TG.out.below (w' := wr) (by simpa using hbr))
          obtain ⟨A2, c2, e2, hr2⟩ := ho.form
          injection e2 with e21 e22 e23
          subst e21
          subst e23
          clear e22
          have Hr2 := Lib.hid hr2
          clear ho hr2
          have hgg := good_gap j hm
          have hg1 : goodB 1 1 = true := by decide +kernel
          have hsb := Lib.hid fun (w : World) => (by
            have h := sub_yes 1 1 1 (syl j - 1) w hg1 hgg (by omega)
            rw [S.out.1, S.out.2.1, S.out.2.2] at h
            exact h)
          go_wp2_with fail
          refine ((sylTerm_any (j : Int) _).mono fun _ _ q => q.retS).mono ?_; rintro e w30 ⟨rfl, hb30⟩; have hz30 := hb30.size; (try simp only [World.size_alloc, World.size_setCell, World.size_drew, World.heap_drewN] at hz30)
          rw [E.out.2.2.2, E.out.1]
          obtain ⟨oG1, oG2, oG3, oG4, oG5⟩ := TG.out
          have hlt3r : w3.heap.size < w30.heap.size := by omega
          go_upto_region 22 with fail
          go_cut [19, 20] (fun s19 s20 wx => ∃ g2 : Nat, s19 = .pointer (some ⟨g2, 0, none⟩) ∧ s20 = .bool true ∧ wr.heap.size ≤ g2 ∧ g2 < wx.heap.size ∧ wx.cell? ⟨g2, 0, none⟩ = some (.int .i64 (syl j - 2)) ∧ wx.cell? ⟨g2, 1, none⟩ = some (.int .i64 (syl j - 1)) ∧ Below wr.heap.size wr wx)
          case first =>
            have HC : Hid (∀ w' : World, Below wr.heap.size wr w' → w'.cell? ⟨w3.heap.size, 0, none⟩ = some (.int .i64 1) ∧ w'.cell? ⟨w3.heap.size, 1, none⟩ = some (.int .i64 (syl j - 1))) := Lib.hid fun w' h => ⟨(TG.out.below h).1, (TG.out.below h).2.1⟩
            go_region_held3 (fun w' => w'.cell? ⟨w3.heap.size, 0, none⟩ = some (.int .i64 1) ∧ w'.cell? ⟨w3.heap.size, 1, none⟩ = some (.int .i64 (syl j - 1))) (exact HC.out _ (by (repeat' (first | (with_reducible exact Below.refl _ _) | (with_reducible assumption) | (with_reducible refine Below.drew ?_) | (with_reducible refine belowDrewN ?_ _) | (with_reducible refine Below.alloc ?_ ?_ _) | (with_reducible refine Below.setCell ?_ ?_ _) | (with_reducible refine belowStep (by assumption) ?_ ?_) | (with_reducible exact Below.size (by assumption)) | go_size)))) (first | (go_at_call 43; refine (pWhole_any' _ _).mono ?_; rintro e w21 ⟨rfl, hb21⟩; obtain ⟨hc21, hf21⟩ := bcellB hb21; have hz21 := hb21.size; (try simp only [World.size_alloc, World.size_drew] at hc21 hf21 hz21); (try have hy21_00 : w3.heap.size < w21.heap.size := by omega); (try have hn21_00 : w3.heap.size ≠ w21.heap.size := by omega); (try have hm21_00 : w21.heap.size ≠ w3.heap.size := by omega); (try have hp21_00 : w3.heap.size < w21.heap.size + 1 := by omega); (try have hy21_01 : w3.heap.size + 1 < w21.heap.size := by omega); (try have hn21_01 : w3.heap.size + 1 ≠ w21.heap.size := by omega); (try have hm21_01 : w21.heap.size ≠ w3.heap.size + 1 := by omega); (try have hp21_01 : w3.heap.size + 1 < w21.heap.size + 1 := by omega); (try have hy21_10 : w30.heap.size < w21.heap.size := by omega); (try have hn21_10 : w30.heap.size ≠ w21.heap.size := by omega); (try have hm21_10 : w21.heap.size ≠ w30.heap.size := by omega); (try have hp21_10 : w30.heap.size < w21.heap.size + 1 := by omega); (try have hy21_11 : w30.heap.size + 1 < w21.heap.size := by omega); (try have hn21_11 : w30.heap.size + 1 ≠ w21.heap.size := by omega); (try have hm21_11 : w21.heap.size ≠ w30.heap.size + 1 := by omega); (try have hp21_11 : w30.heap.size + 1 < w21.heap.size + 1 := by omega)) | (go_at_call 37; refine (hsb.out _).mono ?_; rintro e w22 ⟨rfl, hb22⟩; obtain ⟨hc22, hf22⟩ := bcellB hb22; have hz22 := hb22.size; (try simp only [World.size_alloc] at hc22 hf22 hz22); (try have hy22_00 : w3.heap.size < w22.heap.size := by omega); (try have hn22_00 : w3.heap.size ≠ w22.heap.size := by omega); (try have hm22_00 : w22.heap.size ≠ w3.heap.size := by omega); (try have hp22_00 : w3.heap.size < w22.heap.size + 1 := by omega); (try have hy22_01 : w3.heap.size + 1 < w22.heap.size := by omega); (try have hn22_01 : w3.heap.size + 1 ≠ w22.heap.size := by omega); (try have hm22_01 : w22.heap.size ≠ w3.heap.size + 1 := by omega); (try have hp22_01 : w3.heap.size + 1 < w22.heap.size + 1 := by omega); (try have hy22_10 : w30.heap.size < w22.heap.size := by omega); (try have hn22_10 : w30.heap.size ≠ w22.heap.size := by omega); (try have hm22_10 : w22.heap.size ≠ w30.heap.size := by omega); (try have hp22_10 : w30.heap.size < w22.heap.size + 1 := by omega); (try have hy22_11 : w30.heap.size + 1 < w22.heap.size := by omega); (try have hn22_11 : w30.heap.size + 1 ≠ w22.heap.size := by omega); (try have hm22_11 : w22.heap.size ≠ w30.heap.size + 1 := by omega); (try have hp22_11 : w30.heap.size + 1 < w22.heap.size + 1 := by omega); (try have hy22_20 : w21.heap.size < w22.heap.size := by omega); (try have hn22_20 : w21.heap.size ≠ w22.heap.size := by omega); (try have hm22_20 : w22.heap.size ≠ w21.heap.size := by omega); (try have hp22_20 : w21.heap.size < w22.heap.size + 1 := by omega); (try have hy22_21 : w21.heap.size + 1 < w22.heap.size := by omega); (try have hn22_21 : w21.heap.size + 1 ≠ w22.heap.size := by omega); (try have hm22_21 : w22.heap.size ≠ w21.heap.size + 1 := by omega); (try have hp22_21 : w21.heap.size + 1 < w22.heap.size + 1 := by omega)))
            all_goals go_wp2_with fail
            all_goals go_meet
            all_goals refine ⟨_, rfl, rfl, ?_, ?_, ?_, ?_, by (repeat' (first | (with_reducible exact Below.refl _ _) | (with_reducible assumption) | (with_reducible refine Below.drew ?_) | (with_reducible refine belowDrewN ?_ _) | (with_reducible refine Below.alloc ?_ ?_ _) | (with_reducible refine Below.setCell ?_ ?_ _) | (with_reducible refine belowStep (by assumption) ?_ ?_) | (with_reducible exact Below.size (by assumption)) | go_size))⟩
            all_goals first | go_size | (first | (simp [*, World.cell?_alloc_some, World.cell?_setCell_far]; done) | (simp [go_sem, *]; done))
          case rest =>
            obtain ⟨w25, rfl⟩ : ∃ w25 : World, w25 = wc := ⟨_, rfl⟩
            obtain ⟨g2, rfl, rfl, hga, hgb, hl1, hl2, hb25⟩ := hcut
            have hz25 := hb25.size
            clear oG1 oG2 oG3 oG4 oG5
            have TG := Lib.hid (TG.out.below (w' := w25) (by (repeat' (first | (with_reducible exact Below.refl _ _) | (with_reducible assumption) | (with_reducible refine Below.drew ?_) | (with_reducible refine belowDrewN ?_ _) | (with_reducible refine Below.alloc ?_ ?_ _) | (with_reducible refine Below.setCell ?_ ?_ _) | (with_reducible refine belowStep (by assumption) ?_ ?_) | (with_reducible exact Below.size (by assumption)) | go_size))))
            go_wp2_with fail
            refine (greedyExp_any (syl j - 2) (syl j - 1) _ (by omega) (by omega)).mono ?_; rintro e w26 ⟨v26, rfl, ho26, hb26⟩; have hz26 := hb26.size; (try simp only [World.size_alloc, World.size_setCell, World.size_drew, World.heap_drewN] at hz26)
            rw [G.out] at ho26
            rw [G.out]
            obtain ⟨A26, c26, rfl, hr26⟩ := (show OwnI w26 _ v26 (sylL j) from ho26).form
            have H26 := Lib.hid hr26
            clear ho26 hr26 hl1 hl2
            have TG := Lib.hid (TG.out.below hb26)
            have hz26 := hb26.size
            have hw1 : IntKind.i64.wrap (syl j - 1 + 1) = syl j := by rw [show syl j - 1 + 1 = syl j by omega]; exact IntWalk.i64_in _ (by omega)
            have hw2 : (syl j == syl j) = true := by simp
            have hw3 : IntKind.i64.wrap (syl j) = syl j := IntWalk.i64_in _ (by omega)
            have hw4 : (syl j == syl j - 1 + 1) = true := by simp
            have hw5 : (syl j == IntKind.i64.wrap (syl j - 1 + 1)) = true := by rw [hw1]; exact hw2
            have HS := Lib.hid fun (w' : World) (h : Below w26.heap.size w26 w') => (show Calls Try.prog 29 #[.slice A26 (sylL j).length c26, .slice A1 (sylL j).length c1] w' (Ret (.bool true) w') from by
              have h0 := pSame_any w' A26 A1 c26 c1 (sylL j) (sylL j) (H26.out.below h) ((Hr2.out.below (w' := w26) (by (repeat' (first | (with_reducible exact Below.refl _ _) | (with_reducible assumption) | (with_reducible refine Below.drew ?_) | (with_reducible refine belowDrewN ?_ _) | (with_reducible refine Below.alloc ?_ ?_ _) | (with_reducible refine Below.setCell ?_ ?_ _) | (with_reducible refine belowStep (by assumption) ?_ ?_) | (with_reducible exact Below.size (by assumption)) | go_size)))).below h) (by omega) (by omega)
              rw [decide_eq_true rfl] at h0
              exact h0.mono fun _ _ q => by obtain ⟨rfl, k, rfl⟩ := q; exact ⟨rfl, by (repeat' (first | (with_reducible exact Below.refl _ _) | (with_reducible assumption) | (with_reducible refine Below.drew ?_) | (with_reducible refine belowDrewN ?_ _) | (with_reducible refine Below.alloc ?_ ?_ _) | (with_reducible refine Below.setCell ?_ ?_ _) | (with_reducible refine belowStep (by assumption) ?_ ?_) | (with_reducible exact Below.size (by assumption)) | go_size))⟩)
            have HC : Hid (∀ w' : World, Below w26.heap.size w26 w' → w'.cell? ⟨w3.heap.size, 0, none⟩ = some (.int .i64 1) ∧ w'.cell? ⟨w3.heap.size, 1, none⟩ = some (.int .i64 (syl j - 1))) := Lib.hid fun w' h => ⟨(TG.out.below h).1, (TG.out.below h).2.1⟩
            clear  TG H26 Hr2 E Ej S G hsb
            clear hj hlt hgg hg1 hll2 TH HA
            go_wp2_with fail
            go_region_held3 (fun w' => w'.cell? ⟨w3.heap.size, 0, none⟩ = some (.int .i64 1) ∧ w'.cell? ⟨w3.heap.size, 1, none⟩ = some (.int .i64 (syl j - 1))) (exact HC.out _ (by (repeat' (first | (with_reducible exact Below.refl _ _) | (with_reducible assumption) | (with_reducible refine Below.drew ?_) | (with_reducible refine belowDrewN ?_ _) | (with_reducible refine Below.alloc ?_ ?_ _) | (with_reducible refine Below.setCell ?_ ?_ _) | (with_reducible refine belowStep (by assumption) ?_ ?_) | (with_reducible exact Below.size (by assumption)) | go_size)))) (first | (go_at_call 36; refine (pUnit_any _ _).mono ?_; rintro e w31 ⟨rfl, hb31⟩; have hz31 := hb31.size; (try simp only [World.size_drew] at hz31)) | (go_at_call 29; refine (HS.out _ (by (repeat' (first | (with_reducible exact Below.refl _ _) | (with_reducible assumption) | (with_reducible refine Below.drew ?_) | (with_reducible refine belowDrewN ?_ _) | (with_reducible refine Below.alloc ?_ ?_ _) | (with_reducible refine Below.setCell ?_ ?_ _) | (with_reducible refine belowStep (by assumption) ?_ ?_) | (with_reducible exact Below.size (by assumption)) | go_size)))).mono ?_; rintro e w32 ⟨rfl, hb32⟩; have hz32 := hb32.size; (try simp only [World.size_alloc, World.size_drew, World.heap_drewN] at hz32)))
            all_goals
              go_wp2
              go_ret
              exact ⟨rfl, by (repeat' (first | (with_reducible exact Below.refl _ _) | (with_reducible assumption) | (with_reducible refine Below.drew ?_) | (with_reducible refine belowDrewN ?_ _) | (with_reducible refine Below.alloc ?_ ?_ _) | (with_reducible refine Below.setCell ?_ ?_ _) | (with_reducible refine belowStep (by assumption) ?_ ?_) | (with_reducible exact Below.size (by assumption)) | go_size))⟩
    · have E : Hid (sylB k = false ∧ sylG k = 0 ∧ sylU k = 0) := Lib.hid ⟨by simp [sylB]; omega, by rw [sylG, if_neg hk], by rw [sylU, if_neg hk]⟩
      clear hk
      go_wp2_with fail
      refine (sylGap_any _ _).mono ?_; rintro e w3 ⟨rfl, hb3⟩; have hz3 := hb3.size; (try simp only [World.size_alloc, World.size_setCell, World.size_drew, World.heap_drewN] at hz3)
      rw [E.out.1, E.out.2.1, E.out.2.2]
      have TG := Lib.hid (TwoAt.new w3 (0) (0) 27)
      go_wp2_with fail
      refine (spec_sylGap_any _ _).mono ?_; rintro e w4 ⟨rfl, hb4⟩; have hz4 := hb4.size; (try simp only [World.size_alloc] at hz4)
      rw [E.out.1, E.out.2.1, E.out.2.2]
      have TG := Lib.hid (TG.out.below hb4)
      have TH := Lib.hid (TwoAt.new w4 (0) (0) 27)
      have TG := Lib.hid (TG.out.below ((Below.refl _ _).alloc (Nat.le_refl _) (.cells #[.int .i64 (0), .int .i64 (0)] 27)))
      obtain ⟨oG1, oG2, oG3, oG4, oG5⟩ := TG.out
      obtain ⟨oH1, oH2, oH3, oH4, oH5⟩ := TH.out
      go_wp2
      go_ret
      exact ⟨rfl, by (repeat' (first | (with_reducible exact Below.refl _ _) | (with_reducible assumption) | (with_reducible refine Below.drew ?_) | (with_reducible refine belowDrewN ?_ _) | (with_reducible refine Below.alloc ?_ ?_ _) | (with_reducible refine Below.setCell ?_ ?_ _) | (with_reducible refine belowStep (by assumption) ?_ ?_) | (with_reducible exact Below.size (by assumption)) | go_size))⟩

set_option maxRecDepth 100000 in
theorem FnSylvesterNumbers_lifted (os : Os) (started : os.Started) (H : Type) (enc : TypeId × Value → H) :
    ReturnsInHanded {} Try.checked os 8 .any (Rows.fnSylvesterNumbersSpec.pre6 enc Try.prog Try.f8 Rows.fnSylvesterNumbersRow.domain false) (Rows.fnSylvesterNumbersSpec.post enc Try.prog Try.f8 false true false false) := by
  refine returnsInHanded_of_change (C := Try.checked) own started (by kernel_rfl) Try.func8
    (ChangeSpec.witness6 (enc := enc) (C := Try.checked) false ⟨#[], #[.slice none 0 0, .slice none 0 0], []⟩ 8 (by kernel_rfl) (by kernel_rfl) (by kernel_rfl) (by kernel_rfl)) ?_
  intro W base args ds gs before hval0 hW hcnd _
  have hval : ∀ (j : Nat) t v, Try.f8.params[j]? = some t → args[j]? = some v → Value.okWide Try.prog W .any base t v := hval0
  have hW' := hW
  have hlt : ∀ p ∈ before, p.block < W.heap.size := fun p hp => hW'.lt p hp
  obtain ⟨p, q, hA0, hV, rfl, hfz, hnd⟩ := hW
  have hA : DataW.TrodAll enc Try.prog W 0 (fun _ => true) true Try.f8.params.toList args.toList ds p := hA0
  rw [Try.params8] at hA hval
  obtain ⟨v0, vs0, d0, ds0, p0, q0, hargs, rfl, rfl, h0, r0⟩ := trodAll_cons hA
  obtain ⟨v1, vs1, d1, ds1, p1, q1, rfl, rfl, rfl, h1, r1⟩ := trodAll_cons r0
  obtain ⟨rfl, rfl, rfl⟩ := trodAll_nil r1
  obtain rfl : args = #[v0, v1] := by cases args; simp_all
  obtain ⟨rfl, rfl⟩ := trodVars_none hV
  obtain ⟨Aa, ca, na, rfl, ha⟩ := open_bytes_reads Try.underlying36 Try.underlying5 (by kernel_rfl) (hval 0 36 v0 rfl rfl) h0 (fun y hy => hlt y (by simp [hy]))
  obtain ⟨Ab, cb, nb, rfl, hb⟩ := open_bytes_reads Try.underlying36 Try.underlying5 (by kernel_rfl) (hval 1 36 v1 rfl rfl) h1 (fun y hy => hlt y (by simp [hy]))
  refine (FnSylvesterNumbers_walk W Aa ca na Ab cb nb ha hb).mono fun e W' ⟨he, hg⟩ => ?_
  subst he
  exact ⟨_, rfl, law_post laidOut (by rw [Try.params8]; intro t ht; simp only [List.mem_cons, List.not_mem_nil, or_false] at ht; rcases ht with rfl | rfl <;> exact ⟨by kernel_rfl, of_decide_eq_true (by kernel_rfl)⟩) (by kernel_rfl) Try.underlying4 rfl hW' rfl hg⟩

theorem FnSylvesterNumbers_closed : joinedFacts Try.prog 8 Try.f8 Rows.fnSylvesterNumbersSpec Rows.fnSylvesterNumbersRow = true := by
  unfold joinedFacts
  rw [mayEnter_eq, lifts_eq, make_eq]
  kernel_rfl

theorem FnSylvesterNumbers_holds : Rows.FnSylvesterNumbersSaid :=
  OpenClaim.holds_of_wide 8 Try.f8 rfl rfl rfl rfl rfl rfl rfl ⟨rfl, rfl, rfl, rfl, rfl⟩ rfl rfl rfl rfl rfl (by kernel_rfl) Try.func8 FnSylvesterNumbers_closed
    (of_decide_eq_true (by kernel_rfl)) (by unfold Func.isWrapper; first | (rw [if_pos (by decide +kernel)]; kernel_rfl) | (rw [if_neg (by decide +kernel)]; exact ⟨rfl, rfl⟩))
    (fun os started H enc _ => FnSylvesterNumbers_lifted os started H enc)

end Go.Proofs.Ytbjblkfibinenac
