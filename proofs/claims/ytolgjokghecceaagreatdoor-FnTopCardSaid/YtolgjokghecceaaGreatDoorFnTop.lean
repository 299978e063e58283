import Derived.Test.YtolgjokghecceaaGreatDoorPt1
import Derived.Test.YtolgjokghecceaaGreatDoorMsI
import Derived.Test.YtolgjokghecceaaGreatDoorPierce
import Derived.Test.YtolgjokghecceaaGreatDoorPk41
import Derived.Test.YtolgjokghecceaaGreatDoorPk1
import Derived.Test.YtolgjokghecceaaGreatDoorTopL

/-
  For all bytes: a fraction is drawn; its best expansion is the model's and has the fraction as its sum; the numerators of the greedy way fall, the terms taken away one by one leave 0, the merged list keeps the sum, and the Pierce list gives the fraction back. The row lists the names of the methods that are compared, as the program's text lays them. No other condition.
-/
namespace Go.Proofs.YtolgjokghecceaaGreatDoor
open Go.ChangeShapes Go.WideShapes Go.ChangeAt Go.RowKit Go.Joins Go.Deep
theorem RetQ.retL {v : Value} {w : World} {e : Ending} {w' : World} (h : RetQ v w e w') : Ret v w e w' := by
  obtain ⟨rfl, k, rfl⟩ := h
  exact ⟨rfl, by (repeat' (first | (with_reducible exact Below.refl _ _) | (with_reducible assumption) | (with_reducible refine Below.drew ?_) | (with_reducible refine belowDrewN ?_ _) | (with_reducible refine Below.alloc ?_ ?_ _) | (with_reducible refine Below.setCell ?_ ?_ _) | (with_reducible refine belowStep (by assumption) ?_ ?_) | (with_reducible exact Below.size (by assumption)) | go_size))⟩
set_option maxRecDepth 100000 in
set_option maxHeartbeats 32000000 in
theorem FnTop_walk (w : World) (A : Option Addr) (c n : Nat) (B : Option Addr) (d m' : Nat) (hA : ReadsB w A n ∧ n ≤ 9223372036854775807) (hB : ReadsB w B m' ∧ m' ≤ 9223372036854775807) (hE : EnvM w) :
    Calls Tryz.prog 6 #[.slice A n c, .slice B m' d] w (Ret (.bool true) w) := by
  obtain ⟨hA, hn⟩ := hA
  obtain ⟨hB, hm'⟩ := hB
  have HA := Lib.hid hA
  have HE := Lib.hid hE
  clear hA hB hE
  cases hbig : bigB n m' with
  | true =>
    go_enter Tryz.func6, Tryz.ntmps6
    go_wp2_with fail
    refine (big_any _ _ _ _ _ _ _ hn hm').mono ?_; rintro e w1 ⟨rfl, k1, rfl⟩
    go_wp2
    go_ret
    exact ⟨rfl, by (repeat' (first | (with_reducible exact Below.refl _ _) | (with_reducible assumption) | (with_reducible refine Below.drew ?_) | (with_reducible refine belowDrewN ?_ _) | (with_reducible refine Below.alloc ?_ ?_ _) | (with_reducible refine Below.setCell ?_ ?_ _) | (with_reducible refine belowStep (by assumption) ?_ ?_) | (with_reducible exact Below.size (by assumption)) | go_size))⟩
  | false =>
    have hn2 : n ≤ 1048576 ∧ m' ≤ 1048576 := by
      simp only [bigB, Bool.or_eq_false_iff, decide_eq_false_iff_not] at hbig
      omega
    go_enter Tryz.func6, Tryz.ntmps6
    go_wp2_with fail
    refine (big_any _ _ _ _ _ _ _ hn hm').mono ?_; rintro e w1 ⟨rfl, k1, rfl⟩
    go_wp2_with fail
    refine (drawBest_any _ A n c (HA.out.below (by (repeat' (first | (with_reducible exact Below.refl _ _) | (with_reducible assumption) | (with_reducible refine Below.drew ?_) | (with_reducible refine belowDrewN ?_ _) | (with_reducible refine Below.alloc ?_ ?_ _) | (with_reducible refine Below.setCell ?_ ?_ _) | (with_reducible refine belowStep (by assumption) ?_ ?_) | (with_reducible exact Below.size (by assumption)) | go_size)))) hn2.1).mono ?_; rintro e w2 ⟨a, b, rfl, ha, hb, hb2⟩
    have hz2 := hb2.size
    (try simp only [World.heap_drewN] at hz2)
    clear hbig
    have TG := Lib.hid (TwoAt.new w2 (a) (b) 27)
    have hl5 := beO_len a b
    have HF := Lib.hid fun h => beO_backT (a := a) (b := b) h
    have H5 := Lib.hid fun (w' : World) (h : Below w.heap.size w w') => bestMethod_any a b w' ha hb (HE.out.below h)
    have H6 := Lib.hid fun (w' : World) => spec_bestMethod_any a b w'
    generalize (beO a b).getD [] = bs at *
    generalize (beO a b).isSome = tb at *
    obtain ⟨oG1, oG2, oG3, oG4, oG5⟩ := TG.out
    go_wp2_with fail
    refine (H5.out _ (by (repeat' (first | (with_reducible exact Below.refl _ _) | (with_reducible assumption) | (with_reducible refine Below.drew ?_) | (with_reducible refine belowDrewN ?_ _) | (with_reducible refine Below.alloc ?_ ?_ _) | (with_reducible refine Below.setCell ?_ ?_ _) | (with_reducible refine belowStep (by assumption) ?_ ?_) | (with_reducible exact Below.size (by assumption)) | go_size)))).mono ?_; rintro e w6 ⟨v6, rfl, ho6, hb6⟩; have hz6 := hb6.size; (try simp only [World.size_alloc, World.size_setCell, World.size_drew, World.heap_drewN] at hz6)
    clear oG1 oG2 oG3 oG4 oG5
    have TG := Lib.hid (TG.out.below hb6)
    obtain ⟨A6, c6, rfl, hr6⟩ := ho6.form
    have HR6 := Lib.hid hr6
    have hbw6 : Below w.heap.size w w6 := by (repeat' (first | (with_reducible exact Below.refl _ _) | (with_reducible assumption) | (with_reducible refine Below.drew ?_) | (with_reducible refine belowDrewN ?_ _) | (with_reducible refine Below.alloc ?_ ?_ _) | (with_reducible refine Below.setCell ?_ ?_ _) | (with_reducible refine belowStep (by assumption) ?_ ?_) | (with_reducible exact Below.size (by assumption)) | go_size))
    clear ho6 hr6 H5
    obtain ⟨oG1, oG2, oG3, oG4, oG5⟩ := TG.out
    go_wp2_with fail
    refine (H6.out _).mono ?_; rintro e w7 ⟨A7, c7, rfl, hr7, hb7⟩; have hz7 := hb7.size; (try simp only [World.size_alloc, World.size_setCell, World.size_drew, World.heap_drewN] at hz7)
    clear oG1 oG2 oG3 oG4 oG5
    have TG := Lib.hid (TG.out.below hb7)
    have HR7 := Lib.hid hr7
    have HR6 := Lib.hid (HR6.out.below hb7)
    have hbw7 : Below w.heap.size w w7 := by (repeat' (first | (with_reducible exact Below.refl _ _) | (with_reducible assumption) | (with_reducible refine Below.drew ?_) | (with_reducible refine belowDrewN ?_ _) | (with_reducible refine Below.alloc ?_ ?_ _) | (with_reducible refine Below.setCell ?_ ?_ _) | (with_reducible refine belowStep (by assumption) ?_ ?_) | (with_reducible exact Below.size (by assumption)) | go_size))
    clear hr7 H6
    obtain ⟨oG1, oG2, oG3, oG4, oG5⟩ := TG.out
    go_wp2_with fail
    refine ((pSame_same _ _ _ _ _ _ HR6.out HR7.out (by omega)).mono fun _ _ h => h.retL).mono ?_; rintro e w8 ⟨rfl, hb8⟩
    have hz8 := hb8.size
    clear oG1 oG2 oG3 oG4 oG5
    have TG := Lib.hid (TG.out.below hb8)
    have HR6 := Lib.hid (HR6.out.below hb8)
    have hbw8 : Below w.heap.size w w8 := by (repeat' (first | (with_reducible exact Below.refl _ _) | (with_reducible assumption) | (with_reducible refine Below.drew ?_) | (with_reducible refine belowDrewN ?_ _) | (with_reducible refine Below.alloc ?_ ?_ _) | (with_reducible refine Below.setCell ?_ ?_ _) | (with_reducible refine belowStep (by assumption) ?_ ?_) | (with_reducible exact Below.size (by assumption)) | go_size))
    clear HR7
    cases tb with
    | false =>
      obtain ⟨oG1, oG2, oG3, oG4, oG5⟩ := TG.out
      go_wp2
      go_ret
      exact ⟨rfl, by (repeat' (first | (with_reducible exact Below.refl _ _) | (with_reducible assumption) | (with_reducible refine Below.drew ?_) | (with_reducible refine belowDrewN ?_ _) | (with_reducible refine Below.alloc ?_ ?_ _) | (with_reducible refine Below.setCell ?_ ?_ _) | (with_reducible refine belowStep (by assumption) ?_ ?_) | (with_reducible exact Below.size (by assumption)) | go_size))⟩
    | true =>
      obtain ⟨hgd, M⟩ := HF.out rfl
      have HGd := Lib.hid hgd
      have M := Lib.hid M
      have HQ0 : Hid (rq a b = sumQ (bs.drop 0)) := Lib.hid (ms_q M.out)
      have HPS := Lib.hid fun (w : World) (h : Reads w A6 bs) => pSums_yes w a b A6 c6 bs h (by omega) M.out.x64 M.out.exp M.out.sum.1 M.out.sum.2
      have HIE := Lib.hid fun (w : World) (h : Reads w A6 bs) => isExpansion_any w A6 c6 bs h (by omega) M.out.x64
      rw [M.out.exp] at HIE
      clear HF hgd
      obtain ⟨oG1, oG2, oG3, oG4, oG5⟩ := TG.out
      go_wp2_with fail
      refine (HPS.out _ HR6.out).mono ?_; rintro e w9 ⟨rfl, hb9⟩; have hz9 := hb9.size; (try simp only [World.size_alloc, World.size_setCell, World.size_drew, World.heap_drewN] at hz9)
      clear oG1 oG2 oG3 oG4 oG5
      have TG := Lib.hid (TG.out.below hb9)
      have HR := Lib.hid (HR6.out.below hb9)
      have hbw9 : Below w.heap.size w w9 := by (repeat' (first | (with_reducible exact Below.refl _ _) | (with_reducible assumption) | (with_reducible refine Below.drew ?_) | (with_reducible refine belowDrewN ?_ _) | (with_reducible refine Below.alloc ?_ ?_ _) | (with_reducible refine Below.setCell ?_ ?_ _) | (with_reducible refine belowStep (by assumption) ?_ ?_) | (with_reducible exact Below.size (by assumption)) | go_size))
      clear HPS HR6
      obtain ⟨oG1, oG2, oG3, oG4, oG5⟩ := TG.out
      go_wp2_with fail
      refine (HIE.out _ HR.out).mono ?_; rintro e w10 ⟨rfl, hb10⟩; have hz10 := hb10.size; (try simp only [World.size_alloc, World.size_setCell, World.size_drew, World.heap_drewN] at hz10)
      clear oG1 oG2 oG3 oG4 oG5
      have TG := Lib.hid (TG.out.below hb10)
      have HR := Lib.hid (HR.out.below hb10)
      have hbw10 : Below w.heap.size w w10 := by (repeat' (first | (with_reducible exact Below.refl _ _) | (with_reducible assumption) | (with_reducible refine Below.drew ?_) | (with_reducible refine belowDrewN ?_ _) | (with_reducible refine Below.alloc ?_ ?_ _) | (with_reducible refine Below.setCell ?_ ?_ _) | (with_reducible refine belowStep (by assumption) ?_ ?_) | (with_reducible exact Below.size (by assumption)) | go_size))
      clear HIE
      obtain ⟨oG1, oG2, oG3, oG4, oG5⟩ := TG.out
      go_wp2_with fail
      refine (numerators_any a b _ ha hb).mono ?_; rintro e w11 ⟨v11, rfl, ho11, hb11⟩; have hz11 := hb11.size; (try simp only [World.size_alloc, World.size_setCell, World.size_drew, World.heap_drewN] at hz11)
      clear oG1 oG2 oG3 oG4 oG5
      have TG := Lib.hid (TG.out.below hb11)
      have HR := Lib.hid (HR.out.below hb11)
      have hbw11 : Below w.heap.size w w11 := by (repeat' (first | (with_reducible exact Below.refl _ _) | (with_reducible assumption) | (with_reducible refine Below.drew ?_) | (with_reducible refine belowDrewN ?_ _) | (with_reducible refine Below.alloc ?_ ?_ _) | (with_reducible refine Below.setCell ?_ ?_ _) | (with_reducible refine belowStep (by assumption) ?_ ?_) | (with_reducible exact Below.size (by assumption)) | go_size))
      clear hb2 hb6 hb7 hb8 hb9 hb10
      cases hN : nmO a b with
      | none =>
        obtain ⟨A11, c11, rfl, -⟩ := ho11.form
        clear hN ho11 hb11
        simp only [Option.getD_none, Option.isSome_none]
        have hbwt := hbw11
        have TR := Lib.hid (TwoAt.new w11 (a) (b) 27)
        have HRR := Lib.hid (HR.out.below (w' := w11.alloc (.cells #[.int .i64 (a), .int .i64 (b)] 27)) (by (repeat' (first | (with_reducible exact Below.refl _ _) | (with_reducible assumption) | (with_reducible refine Below.drew ?_) | (with_reducible refine belowDrewN ?_ _) | (with_reducible refine Below.alloc ?_ ?_ _) | (with_reducible refine Below.setCell ?_ ?_ _) | (with_reducible refine belowStep (by assumption) ?_ ?_) | (with_reducible exact Below.size (by assumption)) | go_size))))
        have TG0 := TG
        obtain ⟨oG1, oG2, oG3, oG4, oG5⟩ := TG.out
        go_wp2
        clear oG1 oG2 oG3 oG4 oG5
        go_loopw [84] (fun v84 wr => ∃ (k : Nat) (n d : Int), k ≤ bs.length ∧ v84 = .int .i64 (k : Int) ∧ goodB n d = true ∧ rq n d = sumQ (bs.drop k) ∧ TwoAt wr w11.heap.size n d ∧ Below w11.heap.size w11 wr) (fun v84 _ => bs.length - (intOf v84).toNat)
        case atStart => exact ⟨0, a, b, Nat.zero_le _, rfl, HGd.out, HQ0.out, TR.out, by (repeat' (first | (with_reducible exact Below.refl _ _) | (with_reducible assumption) | (with_reducible refine Below.drew ?_) | (with_reducible refine belowDrewN ?_ _) | (with_reducible refine Below.alloc ?_ ?_ _) | (with_reducible refine Below.setCell ?_ ?_ _) | (with_reducible refine belowStep (by assumption) ?_ ?_) | (with_reducible exact Below.size (by assumption)) | go_size))⟩
        case round =>
          obtain ⟨k, n, d, hk, rfl, hg, hq, htw, hbr⟩ := hrel
          have HG := Lib.hid hg
          have HQ := Lib.hid hq
          have TW := Lib.hid htw
          have hzr := hbr.size
          have hzr2 := htw.2.2.2.2
          have hgb := good_bounds hg
          clear hg hq htw
          by_cases hlt : k < bs.length
          · obtain ⟨b1, o1, x, eA, hb1, hx, hcell⟩ := (HR.out.below hbr).at_ hlt
            have hd := drop_at hx
            have hxs := expB_small M.out.exp x (List.mem_of_getElem? hx)
            have hs0 := sumQ_nonneg (xs := bs.drop (k + 1)) (fun y hy => (expB_small M.out.exp y (List.mem_of_mem_drop hy)).1)
            obtain ⟨hge, hnx⟩ := sub_stepT HG.out hxs.1 (show rq n d = 1 / (x : Rat) + sumQ (bs.drop (k + 1)) by rw [HQ.out, hd]; rfl) hs0
            have hki : (k : Int) < (bs.length : Int) := by omega
            have HSub := Lib.hid fun (w : World) => sub_yes n d 1 x w HG.out (good_unitT hxs.1 hxs.2) hge
            have HN := Lib.hid hnx
            generalize redN (n * x - 1 * d) (d * x) = n' at *
            generalize redD (n * x - 1 * d) (d * x) = d' at *
            generalize redB (n * x - 1 * d) (d * x) = tt at *
            subst eA
            clear hx hd hs0 hge hnx
            obtain ⟨q1, q2, q3, q4, q5⟩ := TW.out
            have HCD : Hid (∀ w' : World, Below wr.heap.size wr w' → w'.cell? ⟨w11.heap.size, 0, none⟩ = some (.int .i64 n) ∧ w'.cell? ⟨w11.heap.size, 1, none⟩ = some (.int .i64 d)) := Lib.hid fun w' h => ⟨(TW.out.below h).1, (TW.out.below h).2.1⟩
            go_upto_region 23 with fail
            go_cut [16, 17] (fun s16 s17 wx => ∃ g2 : Nat, s16 = .pointer (some ⟨g2, 0, none⟩) ∧ s17 = .bool tt ∧ wr.heap.size ≤ g2 ∧ g2 < wx.heap.size ∧ wx.cell? ⟨g2, 0, none⟩ = some (.int .i64 n') ∧ wx.cell? ⟨g2, 1, none⟩ = some (.int .i64 d') ∧ Below wr.heap.size wr wx)
            case first =>
              go_region_held3 (fun w' => w'.cell? ⟨w11.heap.size, 0, none⟩ = some (.int .i64 n) ∧ w'.cell? ⟨w11.heap.size, 1, none⟩ = some (.int .i64 d)) (exact HCD.out _ (by (repeat' (first | (with_reducible exact Below.refl _ _) | (with_reducible assumption) | (with_reducible refine Below.drew ?_) | (with_reducible refine belowDrewN ?_ _) | (with_reducible refine Below.alloc ?_ ?_ _) | (with_reducible refine Below.setCell ?_ ?_ _) | (with_reducible refine belowStep (by assumption) ?_ ?_) | (with_reducible exact Below.size (by assumption)) | go_size)))) (first | (go_at_call 27; refine (pUnitT_any _ _).mono ?_; rintro e w31 ⟨rfl, hb31⟩; obtain ⟨hc31, hf31⟩ := bcellB hb31; have hz31 := hb31.size; (try simp only [World.size_alloc, World.size_setCell, World.size_drew, World.heap_drewN] at hc31 hf31 hz31); (try have hy31_00 : w11.heap.size < w31.heap.size := by omega); (try have hn31_00 : w11.heap.size ≠ w31.heap.size := by omega); (try have hm31_00 : w31.heap.size ≠ w11.heap.size := by omega); (try have hp31_00 : w11.heap.size < w31.heap.size + 1 := by omega); (try have hy31_01 : w11.heap.size + 1 < w31.heap.size := by omega); (try have hn31_01 : w11.heap.size + 1 ≠ w31.heap.size := by omega); (try have hm31_01 : w31.heap.size ≠ w11.heap.size + 1 := by omega); (try have hp31_01 : w11.heap.size + 1 < w31.heap.size + 1 := by omega); (try have hy31_10 : wr.heap.size < w31.heap.size := by omega); (try have hn31_10 : wr.heap.size ≠ w31.heap.size := by omega); (try have hm31_10 : w31.heap.size ≠ wr.heap.size := by omega); (try have hp31_10 : wr.heap.size < w31.heap.size + 1 := by omega); (try have hy31_11 : wr.heap.size + 1 < w31.heap.size := by omega); (try have hn31_11 : wr.heap.size + 1 ≠ w31.heap.size := by omega); (try have hm31_11 : w31.heap.size ≠ wr.heap.size + 1 := by omega); (try have hp31_11 : wr.heap.size + 1 < w31.heap.size + 1 := by omega)) | (go_at_call 26; refine (HSub.out _).mono ?_; rintro e w32 ⟨rfl, hb32⟩; obtain ⟨hc32, hf32⟩ := bcellB hb32; have hz32 := hb32.size; (try simp only [World.size_alloc, World.size_setCell, World.size_drew, World.heap_drewN] at hc32 hf32 hz32); (try have hy32_00 : w11.heap.size < w32.heap.size := by omega); (try have hn32_00 : w11.heap.size ≠ w32.heap.size := by omega); (try have hm32_00 : w32.heap.size ≠ w11.heap.size := by omega); (try have hp32_00 : w11.heap.size < w32.heap.size + 1 := by omega); (try have hy32_01 : w11.heap.size + 1 < w32.heap.size := by omega); (try have hn32_01 : w11.heap.size + 1 ≠ w32.heap.size := by omega); (try have hm32_01 : w32.heap.size ≠ w11.heap.size + 1 := by omega); (try have hp32_01 : w11.heap.size + 1 < w32.heap.size + 1 := by omega); (try have hy32_10 : wr.heap.size < w32.heap.size := by omega); (try have hn32_10 : wr.heap.size ≠ w32.heap.size := by omega); (try have hm32_10 : w32.heap.size ≠ wr.heap.size := by omega); (try have hp32_10 : wr.heap.size < w32.heap.size + 1 := by omega); (try have hy32_11 : wr.heap.size + 1 < w32.heap.size := by omega); (try have hn32_11 : wr.heap.size + 1 ≠ w32.heap.size := by omega); (try have hm32_11 : w32.heap.size ≠ wr.heap.size + 1 := by omega); (try have hp32_11 : wr.heap.size + 1 < w32.heap.size + 1 := by omega); (try have hy32_20 : w31.heap.size < w32.heap.size := by omega); (try have hn32_20 : w31.heap.size ≠ w32.heap.size := by omega); (try have hm32_20 : w32.heap.size ≠ w31.heap.size := by omega); (try have hp32_20 : w31.heap.size < w32.heap.size + 1 := by omega); (try have hy32_21 : w31.heap.size + 1 < w32.heap.size := by omega); (try have hn32_21 : w31.heap.size + 1 ≠ w32.heap.size := by omega); (try have hm32_21 : w32.heap.size ≠ w31.heap.size + 1 := by omega); (try have hp32_21 : w31.heap.size + 1 < w32.heap.size + 1 := by omega)))
              all_goals go_wp2_with fail
              all_goals go_meet
              all_goals refine ⟨_, rfl, rfl, ?_, ?_, ?_, ?_, by (repeat' (first | (with_reducible exact Below.refl _ _) | (with_reducible assumption) | (with_reducible refine Below.drew ?_) | (with_reducible refine belowDrewN ?_ _) | (with_reducible refine Below.alloc ?_ ?_ _) | (with_reducible refine Below.setCell ?_ ?_ _) | (with_reducible refine belowStep (by assumption) ?_ ?_) | (with_reducible exact Below.size (by assumption)) | go_size))⟩
              all_goals first | go_size | (first | (simp [*, World.cell?_alloc_some, World.cell?_setCell_far]; done) | (simp [go_sem, *]; done))
            case rest =>
              obtain ⟨w33, rfl⟩ : ∃ w33 : World, w33 = wc := ⟨_, rfl⟩
              obtain ⟨g2, rfl, rfl, hga, hgb2, hl3, hl4, hb33⟩ := hcut
              have hz33 := hb33.size
              clear q1 q2 q3 q4 q5
              have TW := Lib.hid (TW.out.below hb33)
              obtain ⟨q1, q2, q3, q4, q5⟩ := TW.out
              have hne : w11.heap.size ≠ g2 := by omega
              have hne2 : g2 ≠ w11.heap.size := by omega
              cases tt with
              | false =>
                go_wp2
                go_ret
                exact ⟨rfl, (hbwt.trans (hbr.mono (by have := hbwt.size; omega))).trans (hb33.mono (by have := hbwt.size; omega))⟩
              | true =>
                obtain ⟨hg', hq'⟩ := HN.out rfl
                have HG' := Lib.hid hg'
                have HQ' := Lib.hid hq'
                clear hg' hq'
                go_wp2
                go_roundw
                case rel => exact ⟨k + 1, n', d', by omega, by go_num, HG'.out, HQ'.out, by (refine ⟨?_, ?_, ?_, ?_, ?_⟩ <;> first | (simp only [World.size_alloc, World.size_setCell, World.size_drew, World.heap_drewN]; omega) | (first | (simp [*, World.cell?_alloc_some, World.cell?_setCell_far]; done) | (simp [go_sem, *]; done))), by (repeat' (first | (with_reducible exact Below.refl _ _) | (with_reducible assumption) | (with_reducible refine Below.drew ?_) | (with_reducible refine belowDrewN ?_ _) | (with_reducible refine Below.alloc ?_ ?_ _) | (with_reducible refine Below.setCell ?_ ?_ _) | (with_reducible refine belowStep (by assumption) ?_ ?_) | (with_reducible exact Below.size (by assumption)) | go_size))⟩
                case measure => simp [intOf]; omega
          · obtain rfl : k = bs.length := by omega
            obtain rfl : n = 0 := rq_zero HG.out (by rw [HQ.out, drop_all]; rfl)
            have hbw : Below w.heap.size w wr := hbwt.trans (hbr.mono (by have := hbwt.size; omega))
            have HR := Lib.hid (HR.out.below hbr)
            have TG := Lib.hid (TG0.out.below hbr)
            have HM := Lib.hid fun (w : World) (h : Reads w A6 bs) => mergeAll_any w A6 c6 bs h (by omega) M.out.x64
            obtain ⟨ms, hms, MA⟩ := ma_told M.out.exp
            rw [hms] at HM
            have MA := Lib.hid MA
            clear hms TG0 HRR TR HQ HG HQ0
            go_wp2_with fail
            refine (HM.out _ (HR.out.below (by (repeat' (first | (with_reducible exact Below.refl _ _) | (with_reducible assumption) | (with_reducible refine Below.drew ?_) | (with_reducible refine belowDrewN ?_ _) | (with_reducible refine Below.alloc ?_ ?_ _) | (with_reducible refine Below.setCell ?_ ?_ _) | (with_reducible refine belowStep (by assumption) ?_ ?_) | (with_reducible exact Below.size (by assumption)) | go_size))))).mono ?_; rintro e w41 ⟨v41, rfl, ho41, hb41⟩; have hz41 := hb41.size; (try simp only [World.size_alloc, World.size_setCell, World.size_drew, World.heap_drewN] at hz41)
            obtain ⟨A41, c41, rfl, hr41⟩ := (show OwnI w41 _ v41 ms from ho41).form
            have HX := Lib.hid hr41
            clear ho41 hr41 HM
            have TG := Lib.hid (TG.out.below hb41)
            have TW := Lib.hid (TW.out.below hb41)
            have hbw41 : Below w.heap.size w w41 := by (repeat' (first | (with_reducible exact Below.refl _ _) | (with_reducible assumption) | (with_reducible refine Below.drew ?_) | (with_reducible refine belowDrewN ?_ _) | (with_reducible refine Below.alloc ?_ ?_ _) | (with_reducible refine Below.setCell ?_ ?_ _) | (with_reducible refine belowStep (by assumption) ?_ ?_) | (with_reducible exact Below.size (by assumption)) | go_size))
            have h24 := MA.out.l24
            have HPS := Lib.hid fun (w : World) (h : Reads w A41 ms) => pSums_yes w a b A41 c41 ms h (by omega) MA.out.y64 MA.out.exp (MA.out.sum.1.trans M.out.sum.1) (MA.out.sum.2.trans M.out.sum.2)
            simp only [Option.getD_some, Option.isSome_some]
            obtain ⟨oG1, oG2, oG3, oG4, oG5⟩ := TG.out
            go_wp2_with fail
            refine (pierceOf_any a b _ ha hb).mono ?_; rintro e w42 ⟨v42, rfl, ho42, hb42⟩; have hz42 := hb42.size; (try simp only [World.size_alloc, World.size_setCell, World.size_drew, World.heap_drewN] at hz42)
            clear oG1 oG2 oG3 oG4 oG5
            have TG := Lib.hid (TG.out.below hb42)
            have TW := Lib.hid (TW.out.below hb42)
            have HX := Lib.hid (HX.out.below hb42)
            have hbw42 : Below w.heap.size w w42 := by (repeat' (first | (with_reducible exact Below.refl _ _) | (with_reducible assumption) | (with_reducible refine Below.drew ?_) | (with_reducible refine belowDrewN ?_ _) | (with_reducible refine Below.alloc ?_ ?_ _) | (with_reducible refine Below.setCell ?_ ?_ _) | (with_reducible refine belowStep (by assumption) ?_ ?_) | (with_reducible exact Below.size (by assumption)) | go_size))
            cases hE : pieO a b with
            | none =>
              obtain ⟨A42, c42, rfl, -⟩ := ho42.form
              clear hE ho42
              simp only [Option.getD_none, Option.isSome_none]
              obtain ⟨oG1, oG2, oG3, oG4, oG5⟩ := TG.out
              obtain ⟨q1, q2, q3, q4, q5⟩ := TW.out
              go_wp2_with fail
              refine (HPS.out _ (HX.out.below (by (repeat' (first | (with_reducible exact Below.refl _ _) | (with_reducible assumption) | (with_reducible refine Below.drew ?_) | (with_reducible refine belowDrewN ?_ _) | (with_reducible refine Below.alloc ?_ ?_ _) | (with_reducible refine Below.setCell ?_ ?_ _) | (with_reducible refine belowStep (by assumption) ?_ ?_) | (with_reducible exact Below.size (by assumption)) | go_size))))).mono ?_; rintro e w43 ⟨rfl, hb43⟩; have hz43 := hb43.size; (try simp only [World.size_alloc, World.size_setCell, World.size_drew, World.heap_drewN] at hz43)
              clear oG1 oG2 oG3 oG4 oG5
              clear q1 q2 q3 q4 q5
              go_wp2
              go_ret
              exact ⟨rfl, by (repeat' (first | (with_reducible exact Below.refl _ _) | (with_reducible assumption) | (with_reducible refine Below.drew ?_) | (with_reducible refine belowDrewN ?_ _) | (with_reducible refine Below.alloc ?_ ?_ _) | (with_reducible refine Below.setCell ?_ ?_ _) | (with_reducible refine belowStep (by assumption) ?_ ?_) | (with_reducible exact Below.size (by assumption)) | go_size))⟩
            | some ps =>
              have L0 := Lib.hid (pieO_back hE)
              rw [hE] at ho42
              obtain ⟨A42, c42, rfl, hr42⟩ := (show OwnI w42 _ v42 ps from ho42).form
              have HP := Lib.hid hr42
              clear hE ho42 hr42
              simp only [Option.getD_some, Option.isSome_some]
              have hp24 := L0.out.l24
              go_wp2_with fail
              refine (fromPierce_any _ A42 c42 ps HP.out (by omega) L0.out.x64).mono ?_; rintro e w44 ⟨rfl, hb44⟩; have hz44 := hb44.size; (try simp only [World.size_alloc, World.size_setCell, World.size_drew, World.heap_drewN] at hz44)
              rw [L0.out.back.1, L0.out.back.2.1, L0.out.back.2.2]
              have TG := Lib.hid (TG.out.below hb44)
              have TW := Lib.hid (TW.out.below hb44)
              have HX := Lib.hid (HX.out.below hb44)
              have hbw44 : Below w.heap.size w w44 := by (repeat' (first | (with_reducible exact Below.refl _ _) | (with_reducible assumption) | (with_reducible refine Below.drew ?_) | (with_reducible refine belowDrewN ?_ _) | (with_reducible refine Below.alloc ?_ ?_ _) | (with_reducible refine Below.setCell ?_ ?_ _) | (with_reducible refine belowStep (by assumption) ?_ ?_) | (with_reducible exact Below.size (by assumption)) | go_size))
              have TJ := Lib.hid (TwoAt.new w44 (a) (b) 27)
              have TG := Lib.hid (TG.out.below ((Below.refl _ _).alloc (Nat.le_refl _) (.cells #[.int .i64 (a), .int .i64 (b)] 27)))
              have TW := Lib.hid (TW.out.below ((Below.refl _ _).alloc (Nat.le_refl _) (.cells #[.int .i64 (a), .int .i64 (b)] 27)))
              have HX := Lib.hid (HX.out.below (w' := w44.alloc (.cells #[.int .i64 (a), .int .i64 (b)] 27)) (by (repeat' (first | (with_reducible exact Below.refl _ _) | (with_reducible assumption) | (with_reducible refine Below.drew ?_) | (with_reducible refine belowDrewN ?_ _) | (with_reducible refine Below.alloc ?_ ?_ _) | (with_reducible refine Below.setCell ?_ ?_ _) | (with_reducible refine belowStep (by assumption) ?_ ?_) | (with_reducible exact Below.size (by assumption)) | go_size))))
              obtain ⟨oG1, oG2, oG3, oG4, oG5⟩ := TG.out
              obtain ⟨oJ1, oJ2, oJ3, oJ4, oJ5⟩ := TJ.out
              obtain ⟨q1, q2, q3, q4, q5⟩ := TW.out
              have hne3 : w2.heap.size ≠ w44.heap.size := by omega
              go_wp2_with fail
              refine (HPS.out _ (HX.out.below (by (repeat' (first | (with_reducible exact Below.refl _ _) | (with_reducible assumption) | (with_reducible refine Below.drew ?_) | (with_reducible refine belowDrewN ?_ _) | (with_reducible refine Below.alloc ?_ ?_ _) | (with_reducible refine Below.setCell ?_ ?_ _) | (with_reducible refine belowStep (by assumption) ?_ ?_) | (with_reducible exact Below.size (by assumption)) | go_size))))).mono ?_; rintro e w45 ⟨rfl, hb45⟩; have hz45 := hb45.size; (try simp only [World.size_alloc, World.size_setCell, World.size_drew, World.heap_drewN] at hz45)
              clear oG1 oG2 oG3 oG4 oG5
              clear oJ1 oJ2 oJ3 oJ4 oJ5
              clear q1 q2 q3 q4 q5
              go_wp2
              go_ret
              exact ⟨rfl, by (repeat' (first | (with_reducible exact Below.refl _ _) | (with_reducible assumption) | (with_reducible refine Below.drew ?_) | (with_reducible refine belowDrewN ?_ _) | (with_reducible refine Below.alloc ?_ ?_ _) | (with_reducible refine Below.setCell ?_ ?_ _) | (with_reducible refine belowStep (by assumption) ?_ ?_) | (with_reducible exact Below.size (by assumption)) | go_size))⟩
      | some ns =>
        have HFall := Lib.hid (nm_fall HGd.out hN)
        have hnl := nm_len hN
        rw [hN] at ho11
        obtain ⟨A11, c11, rfl, hr11⟩ := (show OwnI w11 _ v11 ns from ho11).form
        have HN11 := Lib.hid hr11
        clear hN ho11 hr11 hb11
        simp only [Option.getD_some, Option.isSome_some]
        go_wp2
        go_loopw [12] (fun vi wr => ∃ (k : Nat), k ≤ ns.length ∧ vi = .int .i64 ((k : Int) + 1) ∧ Below w11.heap.size w11 wr) (fun vi _ => ns.length + 1 - (intOf vi).toNat)
        case atStart => exact ⟨0, Nat.zero_le _, rfl, Below.refl _ _⟩
        case round =>
          obtain ⟨k, hk, rfl, hbn⟩ := hrel
          have hzn := hbn.size
          by_cases hlt : k + 1 < ns.length
          · obtain ⟨b1, o1, x, y, rfl, hb1, hx, hy, hcell, hcell2⟩ := (HN11.out.below hbn).at2 hlt (show k < ns.length by omega)
            have hxy := HFall.out k y x hy hx
            have hki : (k : Int) + 1 < (ns.length : Int) := by omega
            clear hx hy
            go_wp2
            go_quiet (fail)
            go_wp2
            go_roundw
            case rel => exact ⟨k + 1, by omega, by go_num, by (repeat' (first | (with_reducible exact Below.refl _ _) | (with_reducible assumption) | (with_reducible refine Below.drew ?_) | (with_reducible refine belowDrewN ?_ _) | (with_reducible refine Below.alloc ?_ ?_ _) | (with_reducible refine Below.setCell ?_ ?_ _) | (with_reducible refine belowStep (by assumption) ?_ ?_) | (with_reducible exact Below.size (by assumption)) | go_size))⟩
            case measure => simp [intOf]; omega
          · have hki : ¬ ((k : Int) + 1 < (ns.length : Int)) := by omega
            obtain ⟨w12, rfl⟩ : ∃ w12 : World, w12 = wr := ⟨_, rfl⟩
            have hbwt : Below w.heap.size w w12 := hbw11.trans (hbn.mono (by have := hbw11.size; omega))
            have HR := Lib.hid (HR.out.below hbn)
            have TG := Lib.hid (TG.out.below hbn)
            clear hbn hbw11
            have TR := Lib.hid (TwoAt.new w12 (a) (b) 27)
            have HRR := Lib.hid (HR.out.below (w' := w12.alloc (.cells #[.int .i64 (a), .int .i64 (b)] 27)) (by (repeat' (first | (with_reducible exact Below.refl _ _) | (with_reducible assumption) | (with_reducible refine Below.drew ?_) | (with_reducible refine belowDrewN ?_ _) | (with_reducible refine Below.alloc ?_ ?_ _) | (with_reducible refine Below.setCell ?_ ?_ _) | (with_reducible refine belowStep (by assumption) ?_ ?_) | (with_reducible exact Below.size (by assumption)) | go_size))))
            have TG0 := TG
            obtain ⟨oG1, oG2, oG3, oG4, oG5⟩ := TG.out
            go_wp2
            clear oG1 oG2 oG3 oG4 oG5
            go_loopw [84] (fun v84 wr => ∃ (k : Nat) (n d : Int), k ≤ bs.length ∧ v84 = .int .i64 (k : Int) ∧ goodB n d = true ∧ rq n d = sumQ (bs.drop k) ∧ TwoAt wr w12.heap.size n d ∧ Below w12.heap.size w12 wr) (fun v84 _ => bs.length - (intOf v84).toNat)
            case atStart => exact ⟨0, a, b, Nat.zero_le _, rfl, HGd.out, HQ0.out, TR.out, by (repeat' (first | (with_reducible exact Below.refl _ _) | (with_reducible assumption) | (with_reducible refine Below.drew ?_) | (with_reducible refine belowDrewN ?_ _) | (with_reducible refine Below.alloc ?_ ?_ _) | (with_reducible refine Below.setCell ?_ ?_ _) | (with_reducible refine belowStep (by assumption) ?_ ?_) | (with_reducible exact Below.size (by assumption)) | go_size))⟩
            case round =>
              obtain ⟨k, n, d, hk, rfl, hg, hq, htw, hbr⟩ := hrel
              have HG := Lib.hid hg
              have HQ := Lib.hid hq
              have TW := Lib.hid htw
              have hzr := hbr.size
              have hzr2 := htw.2.2.2.2
              have hgb := good_bounds hg
              clear hg hq htw
              by_cases hlt : k < bs.length
              · obtain ⟨b1, o1, x, eA, hb1, hx, hcell⟩ := (HR.out.below hbr).at_ hlt
                have hd := drop_at hx
                have hxs := expB_small M.out.exp x (List.mem_of_getElem? hx)
                have hs0 := sumQ_nonneg (xs := bs.drop (k + 1)) (fun y hy => (expB_small M.out.exp y (List.mem_of_mem_drop hy)).1)
                obtain ⟨hge, hnx⟩ := sub_stepT HG.out hxs.1 (show rq n d = 1 / (x : Rat) + sumQ (bs.drop (k + 1)) by rw [HQ.out, hd]; rfl) hs0
                have hki : (k : Int) < (bs.length : Int) := by omega
                have HSub := Lib.hid fun (w : World) => sub_yes n d 1 x w HG.out (good_unitT hxs.1 hxs.2) hge
                have HN := Lib.hid hnx
                generalize redN (n * x - 1 * d) (d * x) = n' at *
                generalize redD (n * x - 1 * d) (d * x) = d' at *
                generalize redB (n * x - 1 * d) (d * x) = tt at *
                subst eA
                clear hx hd hs0 hge hnx
                obtain ⟨q1, q2, q3, q4, q5⟩ := TW.out
                have HCD : Hid (∀ w' : World, Below wr.heap.size wr w' → w'.cell? ⟨w12.heap.size, 0, none⟩ = some (.int .i64 n) ∧ w'.cell? ⟨w12.heap.size, 1, none⟩ = some (.int .i64 d)) := Lib.hid fun w' h => ⟨(TW.out.below h).1, (TW.out.below h).2.1⟩
                go_upto_region 23 with fail
                go_cut [16, 17] (fun s16 s17 wx => ∃ g2 : Nat, s16 = .pointer (some ⟨g2, 0, none⟩) ∧ s17 = .bool tt ∧ wr.heap.size ≤ g2 ∧ g2 < wx.heap.size ∧ wx.cell? ⟨g2, 0, none⟩ = some (.int .i64 n') ∧ wx.cell? ⟨g2, 1, none⟩ = some (.int .i64 d') ∧ Below wr.heap.size wr wx)
                case first =>
                  go_region_held3 (fun w' => w'.cell? ⟨w12.heap.size, 0, none⟩ = some (.int .i64 n) ∧ w'.cell? ⟨w12.heap.size, 1, none⟩ = some (.int .i64 d)) (exact HCD.out _ (by (repeat' (first | (with_reducible exact Below.refl _ _) | (with_reducible assumption) | (with_reducible refine Below.drew ?_) | (with_reducible refine belowDrewN ?_ _) | (with_reducible refine Below.alloc ?_ ?_ _) | (with_reducible refine Below.setCell ?_ ?_ _) | (with_reducible refine belowStep (by assumption) ?_ ?_) | (with_reducible exact Below.size (by assumption)) | go_size)))) (first | (go_at_call 27; refine (pUnitT_any _ _).mono ?_; rintro e w31 ⟨rfl, hb31⟩; obtain ⟨hc31, hf31⟩ := bcellB hb31; have hz31 := hb31.size; (try simp only [World.size_alloc, World.size_setCell, World.size_drew, World.heap_drewN] at hc31 hf31 hz31); (try have hy31_00 : w12.heap.size < w31.heap.size := by omega); (try have hn31_00 : w12.heap.size ≠ w31.heap.size := by omega); (try have hm31_00 : w31.heap.size ≠ w12.heap.size := by omega); (try have hp31_00 : w12.heap.size < w31.heap.size + 1 := by omega); (try have hy31_01 : w12.heap.size + 1 < w31.heap.size := by omega); (try have hn31_01 : w12.heap.size + 1 ≠ w31.heap.size := by omega); (try have hm31_01 : w31.heap.size ≠ w12.heap.size + 1 := by omega); (try have hp31_01 : w12.heap.size + 1 < w31.heap.size + 1 := by omega); (try have hy31_10 : wr.heap.size < w31.heap.size := by omega); (try have hn31_10 : wr.heap.size ≠ w31.heap.size := by omega); (try have hm31_10 : w31.heap.size ≠ wr.heap.size := by omega); (try have hp31_10 : wr.heap.size < w31.heap.size + 1 := by omega); (try have hy31_11 : wr.heap.size + 1 < w31.heap.size := by omega); (try have hn31_11 : wr.heap.size + 1 ≠ w31.heap.size := by omega); (try have hm31_11 : w31.heap.size ≠ wr.heap.size + 1 := by omega); (try have hp31_11 : wr.heap.size + 1 < w31.heap.size + 1 := by omega)) | (go_at_call 26; refine (HSub.out _).mono ?_; rintro e w32 ⟨rfl, hb32⟩; obtain ⟨hc32, hf32⟩ := bcellB hb32; have hz32 := hb32.size; (try simp only [World.size_alloc, World.size_setCell, World.size_drew, World.heap_drewN] at hc32 hf32 hz32); (try have hy32_00 : w12.heap.size < w32.heap.size := by omega); (try have hn32_00 : w12.heap.size ≠ w32.heap.size := by omega); (try have hm32_00 : w32.heap.size ≠ w12.heap.size := by omega); (try have hp32_00 : w12.heap.size < w32.heap.size + 1 := by omega); (try have hy32_01 : w12.heap.size + 1 < w32.heap.size := by omega); (try have hn32_01 : w12.heap.size + 1 ≠ w32.heap.size := by omega); (try have hm32_01 : w32.heap.size ≠ w12.heap.size + 1 := by omega); (try have hp32_01 : w12.heap.size + 1 < w32.heap.size + 1 := by omega); (try have hy32_10 : wr.heap.size < w32.heap.size := by omega); (try have hn32_10 : wr.heap.size ≠ w32.heap.size := by omega); (try have hm32_10 : w32.heap.size ≠ wr.heap.size := by omega); (try have hp32_10 : wr.heap.size < w32.heap.size + 1 := by omega); (try have hy32_11 : wr.heap.size + 1 < w32.heap.size := by omega); (try have hn32_11 : wr.heap.size + 1 ≠ w32.heap.size := by omega); (try have hm32_11 : w32.heap.size ≠ wr.heap.size + 1 := by omega); (try have hp32_11 : wr.heap.size + 1 < w32.heap.size + 1 := by omega); (try have hy32_20 : w31.heap.size < w32.heap.size := by omega); (try have hn32_20 : w31.heap.size ≠ w32.heap.size := by omega); (try have hm32_20 : w32.heap.size ≠ w31.heap.size := by omega); (try have hp32_20 : w31.heap.size < w32.heap.size + 1 := by omega); (try have hy32_21 : w31.heap.size + 1 < w32.heap.size := by omega); (try have hn32_21 : w31.heap.size + 1 ≠ w32.heap.size := by omega); (try have hm32_21 : w32.heap.size ≠ w31.heap.size + 1 := by omega); (try have hp32_21 : w31.heap.size + 1 < w32.heap.size + 1 := by omega)))
                  all_goals go_wp2_with fail
                  all_goals go_meet
                  all_goals refine ⟨_, rfl, rfl, ?_, ?_, ?_, ?_, by (repeat' (first | (with_reducible exact Below.refl _ _) | (with_reducible assumption) | (with_reducible refine Below.drew ?_) | (with_reducible refine belowDrewN ?_ _) | (with_reducible refine Below.alloc ?_ ?_ _) | (with_reducible refine Below.setCell ?_ ?_ _) | (with_reducible refine belowStep (by assumption) ?_ ?_) | (with_reducible exact Below.size (by assumption)) | go_size))⟩
                  all_goals first | go_size | (first | (simp [*, World.cell?_alloc_some, World.cell?_setCell_far]; done) | (simp [go_sem, *]; done))
                case rest =>
                  obtain ⟨w33, rfl⟩ : ∃ w33 : World, w33 = wc := ⟨_, rfl⟩
                  obtain ⟨g2, rfl, rfl, hga, hgb2, hl3, hl4, hb33⟩ := hcut
                  have hz33 := hb33.size
                  clear q1 q2 q3 q4 q5
                  have TW := Lib.hid (TW.out.below hb33)
                  obtain ⟨q1, q2, q3, q4, q5⟩ := TW.out
                  have hne : w12.heap.size ≠ g2 := by omega
                  have hne2 : g2 ≠ w12.heap.size := by omega
                  cases tt with
                  | false =>
                    go_wp2
                    go_ret
                    exact ⟨rfl, (hbwt.trans (hbr.mono (by have := hbwt.size; omega))).trans (hb33.mono (by have := hbwt.size; omega))⟩
                  | true =>
                    obtain ⟨hg', hq'⟩ := HN.out rfl
                    have HG' := Lib.hid hg'
                    have HQ' := Lib.hid hq'
                    clear hg' hq'
                    go_wp2
                    go_roundw
                    case rel => exact ⟨k + 1, n', d', by omega, by go_num, HG'.out, HQ'.out, by (refine ⟨?_, ?_, ?_, ?_, ?_⟩ <;> first | (simp only [World.size_alloc, World.size_setCell, World.size_drew, World.heap_drewN]; omega) | (first | (simp [*, World.cell?_alloc_some, World.cell?_setCell_far]; done) | (simp [go_sem, *]; done))), by (repeat' (first | (with_reducible exact Below.refl _ _) | (with_reducible assumption) | (with_reducible refine Below.drew ?_) | (with_reducible refine belowDrewN ?_ _) | (with_reducible refine Below.alloc ?_ ?_ _) | (with_reducible refine Below.setCell ?_ ?_ _) | (with_reducible refine belowStep (by assumption) ?_ ?_) | (with_reducible exact Below.size (by assumption)) | go_size))⟩
                    case measure => simp [intOf]; omega
              · obtain rfl : k = bs.length := by omega
                obtain rfl : n = 0 := rq_zero HG.out (by rw [HQ.out, drop_all]; rfl)
                have hbw : Below w.heap.size w wr := hbwt.trans (hbr.mono (by have := hbwt.size; omega))
                have HR := Lib.hid (HR.out.below hbr)
                have TG := Lib.hid (TG0.out.below hbr)
                have HM := Lib.hid fun (w : World) (h : Reads w A6 bs) => mergeAll_any w A6 c6 bs h (by omega) M.out.x64
                obtain ⟨ms, hms, MA⟩ := ma_told M.out.exp
                rw [hms] at HM
                have MA := Lib.hid MA
                clear hms TG0 HRR TR HQ HG HQ0
                go_wp2_with fail
                refine (HM.out _ (HR.out.below (by (repeat' (first | (with_reducible exact Below.refl _ _) | (with_reducible assumption) | (with_reducible refine Below.drew ?_) | (with_reducible refine belowDrewN ?_ _) | (with_reducible refine Below.alloc ?_ ?_ _) | (with_reducible refine Below.setCell ?_ ?_ _) | (with_reducible refine belowStep (by assumption) ?_ ?_) | (with_reducible exact Below.size (by assumption)) | go_size))))).mono ?_; rintro e w41 ⟨v41, rfl, ho41, hb41⟩; have hz41 := hb41.size; (try simp only [World.size_alloc, World.size_setCell, World.size_drew, World.heap_drewN] at hz41)
                obtain ⟨A41, c41, rfl, hr41⟩ := (show OwnI w41 _ v41 ms from ho41).form
                have HX := Lib.hid hr41
                clear ho41 hr41 HM
                have TG := Lib.hid (TG.out.below hb41)
                have TW := Lib.hid (TW.out.below hb41)
                have hbw41 : Below w.heap.size w w41 := by (repeat' (first | (with_reducible exact Below.refl _ _) | (with_reducible assumption) | (with_reducible refine Below.drew ?_) | (with_reducible refine belowDrewN ?_ _) | (with_reducible refine Below.alloc ?_ ?_ _) | (with_reducible refine Below.setCell ?_ ?_ _) | (with_reducible refine belowStep (by assumption) ?_ ?_) | (with_reducible exact Below.size (by assumption)) | go_size))
                have h24 := MA.out.l24
                have HPS := Lib.hid fun (w : World) (h : Reads w A41 ms) => pSums_yes w a b A41 c41 ms h (by omega) MA.out.y64 MA.out.exp (MA.out.sum.1.trans M.out.sum.1) (MA.out.sum.2.trans M.out.sum.2)
                simp only [Option.getD_some, Option.isSome_some]
                obtain ⟨oG1, oG2, oG3, oG4, oG5⟩ := TG.out
                go_wp2_with fail
                refine (pierceOf_any a b _ ha hb).mono ?_; rintro e w42 ⟨v42, rfl, ho42, hb42⟩; have hz42 := hb42.size; (try simp only [World.size_alloc, World.size_setCell, World.size_drew, World.heap_drewN] at hz42)
                clear oG1 oG2 oG3 oG4 oG5
                have TG := Lib.hid (TG.out.below hb42)
                have TW := Lib.hid (TW.out.below hb42)
                have HX := Lib.hid (HX.out.below hb42)
                have hbw42 : Below w.heap.size w w42 := by (repeat' (first | (with_reducible exact Below.refl _ _) | (with_reducible assumption) | (with_reducible refine Below.drew ?_) | (with_reducible refine belowDrewN ?_ _) | (with_reducible refine Below.alloc ?_ ?_ _) | (with_reducible refine Below.setCell ?_ ?_ _) | (with_reducible refine belowStep (by assumption) ?_ ?_) | (with_reducible exact Below.size (by assumption)) | go_size))
                cases hE : pieO a b with
                | none =>
                  obtain ⟨A42, c42, rfl, -⟩ := ho42.form
                  clear hE ho42
                  simp only [Option.getD_none, Option.isSome_none]
                  obtain ⟨oG1, oG2, oG3, oG4, oG5⟩ := TG.out
                  obtain ⟨q1, q2, q3, q4, q5⟩ := TW.out
                  go_wp2_with fail
                  refine (HPS.out _ (HX.out.below (by (repeat' (first | (with_reducible exact Below.refl _ _) | (with_reducible assumption) | (with_reducible refine Below.drew ?_) | (with_reducible refine belowDrewN ?_ _) | (with_reducible refine Below.alloc ?_ ?_ _) | (with_reducible refine Below.setCell ?_ ?_ _) | (with_reducible refine belowStep (by assumption) ?_ ?_) | (with_reducible exact Below.size (by assumption)) | go_size))))).mono ?_; rintro e w43 ⟨rfl, hb43⟩; have hz43 := hb43.size; (try simp only [World.size_alloc, World.size_setCell, World.size_drew, World.heap_drewN] at hz43)
                  clear oG1 oG2 oG3 oG4 oG5
                  clear q1 q2 q3 q4 q5
                  go_wp2
                  go_ret
                  exact ⟨rfl, by (repeat' (first | (with_reducible exact Below.refl _ _) | (with_reducible assumption) | (with_reducible refine Below.drew ?_) | (with_reducible refine belowDrewN ?_ _) | (with_reducible refine Below.alloc ?_ ?_ _) | (with_reducible refine Below.setCell ?_ ?_ _) | (with_reducible refine belowStep (by assumption) ?_ ?_) | (with_reducible exact Below.size (by assumption)) | go_size))⟩
                | some ps =>
                  have L0 := Lib.hid (pieO_back hE)
                  rw [hE] at ho42
                  obtain ⟨A42, c42, rfl, hr42⟩ := (show OwnI w42 _ v42 ps from ho42).form
                  have HP := Lib.hid hr42
                  clear hE ho42 hr42
                  simp only [Option.getD_some, Option.isSome_some]
                  have hp24 := L0.out.l24
                  go_wp2_with fail
                  refine (fromPierce_any _ A42 c42 ps HP.out (by omega) L0.out.x64).mono ?_; rintro e w44 ⟨rfl, hb44⟩; have hz44 := hb44.size; (try simp only [World.size_alloc, World.size_setCell, World.size_drew, World.heap_drewN] at hz44)
                  rw [L0.out.back.1, L0.out.back.2.1, L0.out.back.2.2]
                  have TG := Lib.hid (TG.out.below hb44)
                  have TW := Lib.hid (TW.out.below hb44)
                  have HX := Lib.hid (HX.out.below hb44)
                  have hbw44 : Below w.heap.size w w44 := by (repeat' (first | (with_reducible exact Below.refl _ _) | (with_reducible assumption) | (with_reducible refine Below.drew ?_) | (with_reducible refine belowDrewN ?_ _) | (with_reducible refine Below.alloc ?_ ?_ _) | (with_reducible refine Below.setCell ?_ ?_ _) | (with_reducible refine belowStep (by assumption) ?_ ?_) | (with_reducible exact Below.size (by assumption)) | go_size))
                  have TJ := Lib.hid (TwoAt.new w44 (a) (b) 27)
                  have TG := Lib.hid (TG.out.below ((Below.refl _ _).alloc (Nat.le_refl _) (.cells #[.int .i64 (a), .int .i64 (b)] 27)))
                  have TW := Lib.hid (TW.out.below ((Below.refl _ _).alloc (Nat.le_refl _) (.cells #[.int .i64 (a), .int .i64 (b)] 27)))
                  have HX := Lib.hid (HX.out.below (w' := w44.alloc (.cells #[.int .i64 (a), .int .i64 (b)] 27)) (by (repeat' (first | (with_reducible exact Below.refl _ _) | (with_reducible assumption) | (with_reducible refine Below.drew ?_) | (with_reducible refine belowDrewN ?_ _) | (with_reducible refine Below.alloc ?_ ?_ _) | (with_reducible refine Below.setCell ?_ ?_ _) | (with_reducible refine belowStep (by assumption) ?_ ?_) | (with_reducible exact Below.size (by assumption)) | go_size))))
                  obtain ⟨oG1, oG2, oG3, oG4, oG5⟩ := TG.out
                  obtain ⟨oJ1, oJ2, oJ3, oJ4, oJ5⟩ := TJ.out
                  obtain ⟨q1, q2, q3, q4, q5⟩ := TW.out
                  have hne3 : w2.heap.size ≠ w44.heap.size := by omega
                  go_wp2_with fail
                  refine (HPS.out _ (HX.out.below (by (repeat' (first | (with_reducible exact Below.refl _ _) | (with_reducible assumption) | (with_reducible refine Below.drew ?_) | (with_reducible refine belowDrewN ?_ _) | (with_reducible refine Below.alloc ?_ ?_ _) | (with_reducible refine Below.setCell ?_ ?_ _) | (with_reducible refine belowStep (by assumption) ?_ ?_) | (with_reducible exact Below.size (by assumption)) | go_size))))).mono ?_; rintro e w45 ⟨rfl, hb45⟩; have hz45 := hb45.size; (try simp only [World.size_alloc, World.size_setCell, World.size_drew, World.heap_drewN] at hz45)
                  clear oG1 oG2 oG3 oG4 oG5
                  clear oJ1 oJ2 oJ3 oJ4 oJ5
                  clear q1 q2 q3 q4 q5
                  go_wp2
                  go_ret
                  exact ⟨rfl, by (repeat' (first | (with_reducible exact Below.refl _ _) | (with_reducible assumption) | (with_reducible refine Below.drew ?_) | (with_reducible refine belowDrewN ?_ _) | (with_reducible refine Below.alloc ?_ ?_ _) | (with_reducible refine Below.setCell ?_ ?_ _) | (with_reducible refine belowStep (by assumption) ?_ ?_) | (with_reducible exact Below.size (by assumption)) | go_size))⟩

theorem FnTop_door (os : Os) (args : Array Value) : laidMetH Tryz.prog Rows.fnTopRow.laid ((World.doorLaid Tryz.prog 400 os).forCall (fun _ _ => 0) ⟨#[], args, []⟩).memory :=
  laidMetH_of_parts3 (fuel := 8) (laidMet_of_run' 8 (by kernel_rfl) (by kernel_rfl)) (by kernel_rfl) (by kernel_rfl)
set_option maxRecDepth 100000 in
theorem FnTop_lifted (os : Os) (started : os.Started) (H : Type) (enc : TypeId × Value → H) :
    ReturnsInHanded {} Tryz.checked os 6 .any (fun w args => (Rows.fnTopSpec.pre enc Tryz.prog Tryz.f6 Rows.fnTopRow.domain false w args ∧ laidMetH Tryz.prog Rows.fnTopRow.laid w) ∧ sizedMet enc Tryz.prog Tryz.f6 (OpenSpec.ofChange Rows.fnTopSpec) false w args)
      (Rows.fnTopSpec.post enc Tryz.prog Tryz.f6 false true false false) := by
  refine returnsInHanded_of_change_and (C := Tryz.checked) (X := fun w _ => laidMetH Tryz.prog Rows.fnTopRow.laid w) (fun _ _ _ hh h => h.of_heap hh) own started (by kernel_rfl) Tryz.func6
    (ChangeSpec.witness_shaped (enc := enc) (C := Tryz.checked) (os := os) (X := fun w _ => laidMetH Tryz.prog Rows.fnTopRow.laid w) false (World.doorLaid Tryz.prog 400 os) #[.slice none 0 0, .slice none 0 0] 8 rfl (World.shaped_of_RefB (by kernel_rfl) (by kernel_rfl)) (by kernel_rfl) (by kernel_rfl) (by kernel_rfl) (FnTop_door os _)) ?_
  intro W base args ds gs before hval0 hW hcnd _ hL _
  have hval : ∀ (j : Nat) t v, Tryz.f6.params[j]? = some t → args[j]? = some v → Value.okWide Tryz.prog W .any base t v := hval0
  have hW' := hW
  have hlt : ∀ p ∈ before, p.block < W.heap.size := fun p hp => hW'.lt p hp
  obtain ⟨p, q, hA0, hV, rfl, hfz, hnd⟩ := hW
  have hA : DataW.TrodAll enc Tryz.prog W 0 (fun _ => true) true Tryz.f6.params.toList args.toList ds p := hA0
  rw [Tryz.params6] at hA hval
  obtain ⟨v0, vs0, d0, ds0, p0, q0, hargs, rfl, rfl, h0, r0⟩ := trodAll_cons hA
  obtain ⟨v1, vs1, d1, ds1, p1, q1, rfl, rfl, rfl, h1, r1⟩ := trodAll_cons r0
  obtain ⟨rfl, rfl, rfl⟩ := trodAll_nil r1
  obtain rfl : args = #[v0, v1] := by cases args; simp_all
  obtain ⟨gx, tx, csx, fuelx, g1, pvx, rfl, -, -, -, -, -⟩ := trodVars_one hV
  obtain ⟨Aa, ca, na, rfl, ha⟩ := open_bytes_reads Tryz.underlying32 Tryz.underlying5 (by kernel_rfl) (hval 0 32 v0 rfl rfl) h0 (fun y hy => hlt y (by simp [hy]))
  obtain ⟨Ab, cb, nb, rfl, hb⟩ := open_bytes_reads Tryz.underlying32 Tryz.underlying5 (by kernel_rfl) (hval 1 32 v1 rfl rfl) h1 (fun y hy => hlt y (by simp [hy]))
  rw [MakeChecks.laidMetH_plain _ _ _ (by kernel_rfl)] at hL
  have hM : laidMet Tryz.prog Rows.fnTopRow.laid W := hL
  have hE := EnvM.of_laid (hM)
  refine (FnTop_walk W Aa ca na Ab cb nb ha hb hE).mono fun e W' ⟨he, hg⟩ => ?_
  subst he
  exact ⟨_, rfl, law_post1 laidOut (by rw [Tryz.params6]; intro t ht; simp only [List.mem_cons, List.not_mem_nil, or_false] at ht; rcases ht with rfl | rfl <;> exact ⟨by kernel_rfl, of_decide_eq_true (by kernel_rfl)⟩) (by kernel_rfl) Tryz.underlying4 rfl gCmp (show (Tryz.prog.globals[0]?).map (·.type) = some 45 by kernel_rfl) Tryz.underlying45 Tryz.underlying9 hE.2 hW' rfl hg⟩

theorem FnTop_closed : joinedFacts Tryz.prog 6 Tryz.f6 Rows.fnTopSpec Rows.fnTopRow = true := by
  unfold joinedFacts
  rw [mayEnter_eq, lifts_eq, make_eq]
  kernel_rfl

theorem FnTop_holds : Rows.FnTopSaid :=
  OpenClaim.holds_of_wide 6 Tryz.f6 rfl rfl rfl rfl rfl rfl rfl ⟨rfl, rfl, rfl, rfl, rfl⟩ rfl rfl rfl rfl rfl (by kernel_rfl) Tryz.func6 FnTop_closed
    (of_decide_eq_true (by kernel_rfl)) (by unfold Func.isWrapper; first | (rw [if_pos (by decide +kernel)]; kernel_rfl) | (rw [if_neg (by decide +kernel)]; exact ⟨rfl, rfl⟩))
    (fun os started H enc _ => FnTop_lifted os started H enc)

/-- the tied card -/
theorem FnTop_card : Rows.FnTopCardSaid :=
  Claim7.holds_tied_plain_at .later [] [.data] true (true, "9edf5acc83f21724f60a0e5eacfc5ee9c7577ca2dcab961a3bc48d2aeca39cf8") false
    FnTop_holds (fun _ h => by cases h) (by kernel_rfl) (fun _ h => by cases h) fnTop_row_tie rfl ⟨rfl, rfl⟩ (by kernel_rfl) rfl
    (fun f fn hf hfn => by
      obtain rfl : f = 6 := Option.some.inj ((show Tryz.prog.funcNamed "loop.example/g01107/laws.FnTop" = some 6 by kernel_rfl).symm.trans hf) |>.symm
      obtain rfl : fn = Tryz.f6 := (Option.some.inj (Tryz.func6.symm.trans hfn)).symm
      exact ⟨by kernel_rfl, fun j t ht => by
        rw [Tryz.params6] at ht
        have hm : t ∈ [32, 32] := by simpa using Array.mem_of_getElem? ht
        have hall : ([32, 32].all fun u => !Tryz.prog.wantsStandIn u) = true := by kernel_rfl
        exact (show Tryz.prog.wantsStandIn t = false by simpa using List.all_eq_true.1 hall t hm)⟩)
    (by kernel_rfl)

end Go.Proofs.YtolgjokghecceaaGreatDoor
