
/-
  For all bytes: a fraction and a number are drawn; the greedy terms from the number on are the model's and have the fraction as their sum, and no term could have been less. No condition.
-/
import Derived.Test.YtbjblkfibinenacLawK
import Derived.Test.YtbjblkfibinenacDrawP
import Derived.Test.YtbjblkfibinenacShell
import Derived.Test.YtbjblkfibinenacGfrL
namespace Go.Proofs.Ytbjblkfibinenac
open Go.ChangeShapes Go.WideShapes Go.ChangeAt Go.RowKit Go.Joins Go.Deep
theorem RetQ.retL {v : Value} {w : World} {e : Ending} {w' : World} (h : RetQ v w e w') : Ret v w e w' := by
  obtain ⟨rfl, k, rfl⟩ := h
  exact ⟨rfl, by (repeat' (first | (with_reducible exact Below.refl _ _) | (with_reducible assumption) | (with_reducible refine Below.drew ?_) | (with_reducible refine belowDrewN ?_ _) | (with_reducible refine Below.alloc ?_ ?_ _) | (with_reducible refine Below.setCell ?_ ?_ _) | (with_reducible refine belowStep (by assumption) ?_ ?_) | (with_reducible exact Below.size (by assumption)) | go_size))⟩
set_option maxRecDepth 100000 in
set_option maxHeartbeats 32000000 in
theorem FnGreedyFromNumbers_walk (w : World) (A : Option Addr) (c n : Nat) (B : Option Addr) (d m' : Nat) (hA : ReadsB w A n ∧ n ≤ 9223372036854775807) (hB : ReadsB w B m' ∧ m' ≤ 9223372036854775807) :
    Calls Try.prog 7 #[.slice A n c, .slice B m' d] w (Ret (.bool true) w) := by
  obtain ⟨hA, hn⟩ := hA
  obtain ⟨hB, hm'⟩ := hB
  have HA := Lib.hid hA
  clear hA hB
  cases hbig : bigB n m' with
  | true =>
    go_enter Try.func7, Try.ntmps7
    go_wp2_with fail
    refine (big_any _ _ _ _ _ _ _ hn hm').mono ?_; rintro e w1 ⟨rfl, k1, rfl⟩
    go_wp2
    go_ret
    exact ⟨rfl, by (repeat' (first | (with_reducible exact Below.refl _ _) | (with_reducible assumption) | (with_reducible refine Below.drew ?_) | (with_reducible refine belowDrewN ?_ _) | (with_reducible refine Below.alloc ?_ ?_ _) | (with_reducible refine Below.setCell ?_ ?_ _) | (with_reducible refine belowStep (by assumption) ?_ ?_) | (with_reducible exact Below.size (by assumption)) | go_size))⟩
  | false =>
    have hn2 : n ≤ 1048576 ∧ m' ≤ 1048576 := by
      simp only [bigB, Bool.or_eq_false_iff, decide_eq_false_iff_not] at hbig
      omega
    go_enter Try.func7, Try.ntmps7
    go_wp2_with fail
    refine (big_any _ _ _ _ _ _ _ hn hm').mono ?_; rintro e w1 ⟨rfl, k1, rfl⟩
    go_wp2_with fail
    refine (drawGreedyFrom_any _ A n c (HA.out.below (by (repeat' (first | (with_reducible exact Below.refl _ _) | (with_reducible assumption) | (with_reducible refine Below.drew ?_) | (with_reducible refine belowDrewN ?_ _) | (with_reducible refine Below.alloc ?_ ?_ _) | (with_reducible refine Below.setCell ?_ ?_ _) | (with_reducible refine belowStep (by assumption) ?_ ?_) | (with_reducible exact Below.size (by assumption)) | go_size)))) hn2.1).mono ?_; rintro e w2 ⟨a, b, low, rfl, ha, hb, hl, hb2⟩
    have hz2 := hb2.size
    (try simp only [World.heap_drewN] at hz2)
    clear hbig
    have TG := Lib.hid (TwoAt.new w2 (a) (b) 27)
    obtain ⟨oG1, oG2, oG3, oG4, oG5⟩ := TG.out
    go_wp2_with fail
    refine (greedyFrom_any a b low _ ha hb hl).mono ?_; rintro e w5 ⟨v5, rfl, ho5, hb5⟩; have hz5 := hb5.size; (try simp only [World.size_alloc] at hz5)
    clear oG1 oG2 oG3 oG4 oG5
    have TG := Lib.hid (TG.out.below hb5)
    obtain ⟨A5, c5, rfl, hr5⟩ := ho5.form
    have HR5 := Lib.hid hr5
    clear ho5 hr5
    obtain ⟨oG1, oG2, oG3, oG4, oG5⟩ := TG.out
    go_wp2_with fail
    refine (spec_greedyFrom_any a b low _).mono ?_; rintro e w6 ⟨A6, c6, rfl, hr6, hb6⟩; have hz6 := hb6.size; (try simp only [World.size_alloc, World.size_setCell, World.size_drew, World.heap_drewN] at hz6)
    clear oG1 oG2 oG3 oG4 oG5
    have TG := Lib.hid (TG.out.below hb6)
    have HR6 := Lib.hid hr6
    have HR5 := Lib.hid (HR5.out.below hb6)
    have hxl := gfrO_len a b low
    clear hr6
    obtain ⟨oG1, oG2, oG3, oG4, oG5⟩ := TG.out
    go_wp2_with fail
    refine ((pSame_same _ _ _ _ _ _ HR5.out HR6.out (by omega)).mono fun _ _ h => h.retL).mono ?_; rintro e w7 ⟨rfl, hb7⟩
    have hz7 := hb7.size
    clear oG1 oG2 oG3 oG4 oG5
    have TG := Lib.hid (TG.out.below hb7)
    have HR7 := Lib.hid (HR5.out.below hb7)
    have hbw7 : Below w.heap.size w w7 := by (repeat' (first | (with_reducible exact Below.refl _ _) | (with_reducible assumption) | (with_reducible refine Below.drew ?_) | (with_reducible refine belowDrewN ?_ _) | (with_reducible refine Below.alloc ?_ ?_ _) | (with_reducible refine Below.setCell ?_ ?_ _) | (with_reducible refine belowStep (by assumption) ?_ ?_) | (with_reducible exact Below.size (by assumption)) | go_size))
    clear HR6 HR5
    obtain ⟨oG1, oG2, oG3, oG4, oG5⟩ := TG.out
    cases hE : gfrO a b low with
    | none =>
      clear hE
      go_wp2
      go_ret
      exact ⟨rfl, by (repeat' (first | (with_reducible exact Below.refl _ _) | (with_reducible assumption) | (with_reducible refine Below.drew ?_) | (with_reducible refine belowDrewN ?_ _) | (with_reducible refine Below.alloc ?_ ?_ _) | (with_reducible refine Below.setCell ?_ ?_ _) | (with_reducible refine belowStep (by assumption) ?_ ?_) | (with_reducible exact Below.size (by assumption)) | go_size))⟩
    | some xs =>
      have L := Lib.hid (gfrO_back hE)
      rw [hE] at HR7
      have HR := Lib.hid (show Reads w7 A5 xs from HR7.out)
      simp only [Option.getD_some, Option.isSome_some]
      have hx24 := L.out.l24
      obtain ⟨l1, l2⟩ := L.out.low
      clear hE hxl
      have HPS := Lib.hid fun (w : World) (h : Reads w A5 xs) => pSums_yes w a b A5 c5 xs h (by omega) L.out.x64 L.out.exp L.out.sum.1 L.out.sum.2
      go_wp2_with fail
      refine (HPS.out _ (HR.out.below (by (repeat' (first | (with_reducible exact Below.refl _ _) | (with_reducible assumption) | (with_reducible refine Below.drew ?_) | (with_reducible refine belowDrewN ?_ _) | (with_reducible refine Below.alloc ?_ ?_ _) | (with_reducible refine Below.setCell ?_ ?_ _) | (with_reducible refine belowStep (by assumption) ?_ ?_) | (with_reducible exact Below.size (by assumption)) | go_size))))).mono ?_; rintro e w9 ⟨rfl, hb9⟩; have hz9 := hb9.size; (try simp only [World.size_alloc, World.size_setCell, World.size_drew, World.heap_drewN] at hz9)
      clear oG1 oG2 oG3 oG4 oG5
      have TG := Lib.hid (TG.out.below hb9)
      have TR := Lib.hid (TwoAt.new w9 (a) (b) 27)
      have HR := Lib.hid (HR.out.below hb9)
      have hbw9 : Below w.heap.size w w9 := by (repeat' (first | (with_reducible exact Below.refl _ _) | (with_reducible assumption) | (with_reducible refine Below.drew ?_) | (with_reducible refine belowDrewN ?_ _) | (with_reducible refine Below.alloc ?_ ?_ _) | (with_reducible refine Below.setCell ?_ ?_ _) | (with_reducible refine belowStep (by assumption) ?_ ?_) | (with_reducible exact Below.size (by assumption)) | go_size))
      obtain ⟨es0, hw0, ht0⟩ := L.out.walk
      have HW0 := Lib.hid hw0
      have HT0 := Lib.hid ht0
      clear HPS hw0 ht0
      obtain ⟨oG1, oG2, oG3, oG4, oG5⟩ := TG.out
      go_wp2
      go_loopw [12, 58] (fun v12 v58 wr => ∃ (k kk : Nat) (es : List (Int × Int × Int)) (n d l : Int), k ≤ xs.length ∧ v58 = .int .i64 k ∧ v12 = .int .i64 l ∧ walkR (stG pick1) kk l n d = some es ∧ takenOf es = xs.drop k ∧ goodB n d = true ∧ 1 ≤ l ∧ l ≤ 1000000001 ∧ TwoAt wr w9.heap.size n d ∧ Below w9.heap.size w9 wr) (fun _ v58 _ => xs.length - (intOf v58).toNat)
      case atStart => exact ⟨0, 24, es0, a, b, low, Nat.zero_le _, rfl, rfl, HW0.out, HT0.out, L.out.good, by omega, by omega, TR.out, by (repeat' (first | (with_reducible exact Below.refl _ _) | (with_reducible assumption) | (with_reducible refine Below.drew ?_) | (with_reducible refine belowDrewN ?_ _) | (with_reducible refine Below.alloc ?_ ?_ _) | (with_reducible refine Below.setCell ?_ ?_ _) | (with_reducible refine belowStep (by assumption) ?_ ?_) | (with_reducible exact Below.size (by assumption)) | go_size))⟩
      case round =>
        obtain ⟨k, kk, es, n, d, l, hk, rfl, rfl, hw, ht, hg, hl1, hl2, htw, hbr⟩ := hrel
        have HW := Lib.hid hw
        have HT := Lib.hid ht
        have HG := Lib.hid hg
        have TW := Lib.hid htw
        have hzr := hbr.size
        have hzr2 := htw.2.2.2.2
        have hgb := good_bounds hg
        clear hw ht hg htw
        by_cases hlt : k < xs.length
        · obtain ⟨b1, o1, x, eA, hb1, hx, hcell⟩ := (HR.out.below hbr).at_ hlt
          have hd := drop_at hx
          have F := Lib.hid (from_at HG.out hl1 HW.out (by rw [HT.out, hd]))
          have f2 := F.out.lx
          have f3 := F.out.x9
          have hki : (k : Int) < (xs.length : Int) := by omega
          have hxl : decide (x < l) = false := by simp; omega
          have HSub := Lib.hid fun (w : World) => sub_yes n d 1 x w HG.out (good_unitG (by omega) f3) F.out.ge
          obtain ⟨n', hn'⟩ : ∃ n', n' = redN (n * x - 1 * d) (d * x) := ⟨_, rfl⟩
          obtain ⟨d', hd'⟩ : ∃ d', d' = redD (n * x - 1 * d) (d * x) := ⟨_, rfl⟩
          rw [← hn', ← hd', F.out.red] at HSub
          have hgd' : goodB n' d' = true := by rw [hn', hd']; exact F.out.good
          obtain ⟨k', es', hw', ht'⟩ := F.out.rest
          rw [← hn', ← hd'] at hw'
          have HG' := Lib.hid hgd'
          have HW' := Lib.hid hw'
          have HT' := Lib.hid ht'
          have HL := Lib.hid F.out.less
          subst eA
          clear hx hd hn' hd' hgd' hw' ht' F
          by_cases hc : l < x
          · have hcmp := HL.out hc
            have HC := Lib.hid fun (w : World) => cmp_yes 1 (x - 1) n d w (good_unitG (by omega) (by omega)) HG.out
            rw [cmpI_gt hcmp] at HC
            clear hcmp HL
            obtain ⟨q1, q2, q3, q4, q5⟩ := TW.out
            have HCC : Hid (∀ w' : World, Below wr.heap.size wr w' → w'.cell? ⟨w9.heap.size, 0, none⟩ = some (.int .i64 n) ∧ w'.cell? ⟨w9.heap.size, 1, none⟩ = some (.int .i64 d)) := Lib.hid fun w' h => ⟨(TW.out.below h).1, (TW.out.below h).2.1⟩
            have hw1 : IntKind.i64.wrap (x - 1) = x - 1 := IntWalk.i64_in _ (by omega)
            go_upto_region 20 with fail
            go_cut [15, 16] (fun s15 s16 wx => s15 = .int .i64 1 ∧ s16 = .bool true ∧ Below wr.heap.size wr wx)
            case first =>
              go_region_held3 (fun w' => w'.cell? ⟨w9.heap.size, 0, none⟩ = some (.int .i64 n) ∧ w'.cell? ⟨w9.heap.size, 1, none⟩ = some (.int .i64 d)) (exact HCC.out _ (by (repeat' (first | (with_reducible exact Below.refl _ _) | (with_reducible assumption) | (with_reducible refine Below.drew ?_) | (with_reducible refine belowDrewN ?_ _) | (with_reducible refine Below.alloc ?_ ?_ _) | (with_reducible refine Below.setCell ?_ ?_ _) | (with_reducible refine belowStep (by assumption) ?_ ?_) | (with_reducible exact Below.size (by assumption)) | go_size)))) (first | (go_at_call 36; refine (pUnitG_any _ _).mono ?_; rintro e w21 ⟨rfl, hb21⟩; obtain ⟨hc21, hf21⟩ := bcellB hb21; have hz21 := hb21.size; (try simp only [World.size_drew] at hc21 hf21 hz21); (try have hy21_00 : w9.heap.size < w21.heap.size := by omega); (try have hn21_00 : w9.heap.size ≠ w21.heap.size := by omega); (try have hm21_00 : w21.heap.size ≠ w9.heap.size := by omega); (try have hp21_00 : w9.heap.size < w21.heap.size + 1 := by omega); (try have hy21_01 : w9.heap.size + 1 < w21.heap.size := by omega); (try have hn21_01 : w9.heap.size + 1 ≠ w21.heap.size := by omega); (try have hm21_01 : w21.heap.size ≠ w9.heap.size + 1 := by omega); (try have hp21_01 : w9.heap.size + 1 < w21.heap.size + 1 := by omega); (try have hy21_10 : wr.heap.size < w21.heap.size := by omega); (try have hn21_10 : wr.heap.size ≠ w21.heap.size := by omega); (try have hm21_10 : w21.heap.size ≠ wr.heap.size := by omega); (try have hp21_10 : wr.heap.size < w21.heap.size + 1 := by omega); (try have hy21_11 : wr.heap.size + 1 < w21.heap.size := by omega); (try have hn21_11 : wr.heap.size + 1 ≠ w21.heap.size := by omega); (try have hm21_11 : w21.heap.size ≠ wr.heap.size + 1 := by omega); (try have hp21_11 : wr.heap.size + 1 < w21.heap.size + 1 := by omega)) | (go_at_call 35; refine (HC.out _).mono ?_; rintro e w22 ⟨rfl, hb22⟩; obtain ⟨hc22, hf22⟩ := bcellB hb22; have hz22 := hb22.size; (try simp only [World.size_alloc, World.size_setCell, World.size_drew, World.heap_drewN] at hc22 hf22 hz22); (try have hy22_00 : w9.heap.size < w22.heap.size := by omega); (try have hn22_00 : w9.heap.size ≠ w22.heap.size := by omega); (try have hm22_00 : w22.heap.size ≠ w9.heap.size := by omega); (try have hp22_00 : w9.heap.size < w22.heap.size + 1 := by omega); (try have hy22_01 : w9.heap.size + 1 < w22.heap.size := by omega); (try have hn22_01 : w9.heap.size + 1 ≠ w22.heap.size := by omega); (try have hm22_01 : w22.heap.size ≠ w9.heap.size + 1 := by omega); (try have hp22_01 : w9.heap.size + 1 < w22.heap.size + 1 := by omega); (try have hy22_10 : wr.heap.size < w22.heap.size := by omega); (try have hn22_10 : wr.heap.size ≠ w22.heap.size := by omega); (try have hm22_10 : w22.heap.size ≠ wr.heap.size := by omega); (try have hp22_10 : wr.heap.size < w22.heap.size + 1 := by omega); (try have hy22_11 : wr.heap.size + 1 < w22.heap.size := by omega); (try have hn22_11 : wr.heap.size + 1 ≠ w22.heap.size := by omega); (try have hm22_11 : w22.heap.size ≠ wr.heap.size + 1 := by omega); (try have hp22_11 : wr.heap.size + 1 < w22.heap.size + 1 := by omega); (try have hy22_20 : w21.heap.size < w22.heap.size := by omega); (try have hn22_20 : w21.heap.size ≠ w22.heap.size := by omega); (try have hm22_20 : w22.heap.size ≠ w21.heap.size := by omega); (try have hp22_20 : w21.heap.size < w22.heap.size + 1 := by omega); (try have hy22_21 : w21.heap.size + 1 < w22.heap.size := by omega); (try have hn22_21 : w21.heap.size + 1 ≠ w22.heap.size := by omega); (try have hm22_21 : w22.heap.size ≠ w21.heap.size + 1 := by omega); (try have hp22_21 : w21.heap.size + 1 < w22.heap.size + 1 := by omega)))
              all_goals go_wp2_with fail
              all_goals go_meet
              all_goals exact ⟨rfl, rfl, by (repeat' (first | (with_reducible exact Below.refl _ _) | (with_reducible assumption) | (with_reducible refine Below.drew ?_) | (with_reducible refine belowDrewN ?_ _) | (with_reducible refine Below.alloc ?_ ?_ _) | (with_reducible refine Below.setCell ?_ ?_ _) | (with_reducible refine belowStep (by assumption) ?_ ?_) | (with_reducible exact Below.size (by assumption)) | go_size))⟩
            case rest =>
              obtain ⟨w23, rfl⟩ : ∃ w23 : World, w23 = wc := ⟨_, rfl⟩
              obtain ⟨rfl, rfl, hb23⟩ := hcut
              have hz23 := hb23.size
              clear q1 q2 q3 q4 q5
              have TW := Lib.hid (TW.out.below hb23)
              have hbr3 : Below w9.heap.size w9 w23 := by (repeat' (first | (with_reducible exact Below.refl _ _) | (with_reducible assumption) | (with_reducible refine Below.drew ?_) | (with_reducible refine belowDrewN ?_ _) | (with_reducible refine Below.alloc ?_ ?_ _) | (with_reducible refine Below.setCell ?_ ?_ _) | (with_reducible refine belowStep (by assumption) ?_ ?_) | (with_reducible exact Below.size (by assumption)) | go_size))
              obtain ⟨q1, q2, q3, q4, q5⟩ := TW.out
              have HCD : Hid (∀ w' : World, Below w23.heap.size w23 w' → w'.cell? ⟨w9.heap.size, 0, none⟩ = some (.int .i64 n) ∧ w'.cell? ⟨w9.heap.size, 1, none⟩ = some (.int .i64 d)) := Lib.hid fun w' h => ⟨(TW.out.below h).1, (TW.out.below h).2.1⟩
              go_upto_region 23 with fail
              go_cut [17, 18] (fun s17 s18 wx => ∃ g2 : Nat, s17 = .pointer (some ⟨g2, 0, none⟩) ∧ s18 = .bool true ∧ w23.heap.size ≤ g2 ∧ g2 < wx.heap.size ∧ wx.cell? ⟨g2, 0, none⟩ = some (.int .i64 n') ∧ wx.cell? ⟨g2, 1, none⟩ = some (.int .i64 d') ∧ Below w23.heap.size w23 wx)
              case first =>
                go_region_held3 (fun w' => w'.cell? ⟨w9.heap.size, 0, none⟩ = some (.int .i64 n) ∧ w'.cell? ⟨w9.heap.size, 1, none⟩ = some (.int .i64 d)) (exact HCD.out _ (by (repeat' (first | (with_reducible exact Below.refl _ _) | (with_reducible assumption) | (with_reducible refine Below.drew ?_) | (with_reducible refine belowDrewN ?_ _) | (with_reducible refine Below.alloc ?_ ?_ _) | (with_reducible refine Below.setCell ?_ ?_ _) | (with_reducible refine belowStep (by assumption) ?_ ?_) | (with_reducible exact Below.size (by assumption)) | go_size)))) (first | (go_at_call 36; refine (pUnitG_any _ _).mono ?_; rintro e w31 ⟨rfl, hb31⟩; obtain ⟨hc31, hf31⟩ := bcellB hb31; have hz31 := hb31.size; (try simp only [World.size_alloc, World.size_drew] at hc31 hf31 hz31); (try have hy31_00 : w9.heap.size < w31.heap.size := by omega); (try have hn31_00 : w9.heap.size ≠ w31.heap.size := by omega); (try have hm31_00 : w31.heap.size ≠ w9.heap.size := by omega); (try have hp31_00 : w9.heap.size < w31.heap.size + 1 := by omega); (try have hy31_01 : w9.heap.size + 1 < w31.heap.size := by omega); (try have hn31_01 : w9.heap.size + 1 ≠ w31.heap.size := by omega); (try have hm31_01 : w31.heap.size ≠ w9.heap.size + 1 := by omega); (try have hp31_01 : w9.heap.size + 1 < w31.heap.size + 1 := by omega); (try have hy31_10 : w23.heap.size < w31.heap.size := by omega); (try have hn31_10 : w23.heap.size ≠ w31.heap.size := by omega); (try have hm31_10 : w31.heap.size ≠ w23.heap.size := by omega); (try have hp31_10 : w23.heap.size < w31.heap.size + 1 := by omega); (try have hy31_11 : w23.heap.size + 1 < w31.heap.size := by omega); (try have hn31_11 : w23.heap.size + 1 ≠ w31.heap.size := by omega); (try have hm31_11 : w31.heap.size ≠ w23.heap.size + 1 := by omega); (try have hp31_11 : w23.heap.size + 1 < w31.heap.size + 1 := by omega)) | (go_at_call 37; refine (HSub.out _).mono ?_; rintro e w32 ⟨rfl, hb32⟩; obtain ⟨hc32, hf32⟩ := bcellB hb32; have hz32 := hb32.size; (try simp only [World.size_alloc] at hc32 hf32 hz32); (try have hy32_00 : w9.heap.size < w32.heap.size := by omega); (try have hn32_00 : w9.heap.size ≠ w32.heap.size := by omega); (try have hm32_00 : w32.heap.size ≠ w9.heap.size := by omega); (try have hp32_00 : w9.heap.size < w32.heap.size + 1 := by omega); (try have hy32_01 : w9.heap.size + 1 < w32.heap.size := by omega); (try have hn32_01 : w9.heap.size + 1 ≠ w32.heap.size := by omega); (try have hm32_01 : w32.heap.size ≠ w9.heap.size + 1 := by omega); (try have hp32_01 : w9.heap.size + 1 < w32.heap.size + 1 := by omega); (try have hy32_10 : w23.heap.size < w32.heap.size := by omega); (try have hn32_10 : w23.heap.size ≠ w32.heap.size := by omega); (try have hm32_10 : w32.heap.size ≠ w23.heap.size := by omega); (try have hp32_10 : w23.heap.size < w32.heap.size + 1 := by omega); (try have hy32_11 : w23.heap.size + 1 < w32.heap.size := by omega); (try have hn32_11 : w23.heap.size + 1 ≠ w32.heap.size := by omega); (try have hm32_11 : w32.heap.size ≠ w23.heap.size + 1 := by omega); (try have hp32_11 : w23.heap.size + 1 < w32.heap.size + 1 := by omega); (try have hy32_20 : w31.heap.size < w32.heap.size := by omega); (try have hn32_20 : w31.heap.size ≠ w32.heap.size := by omega); (try have hm32_20 : w32.heap.size ≠ w31.heap.size := by omega); (try have hp32_20 : w31.heap.size < w32.heap.size + 1 := by omega); (try have hy32_21 : w31.heap.size + 1 < w32.heap.size := by omega); (try have hn32_21 : w31.heap.size + 1 ≠ w32.heap.size := by omega); (try have hm32_21 : w32.heap.size ≠ w31.heap.size + 1 := by omega); (try have hp32_21 : w31.heap.size + 1 < w32.heap.size + 1 := by omega)))
                all_goals go_wp2_with fail
                all_goals go_meet
                all_goals refine ⟨_, rfl, rfl, ?_, ?_, ?_, ?_, by (repeat' (first | (with_reducible exact Below.refl _ _) | (with_reducible assumption) | (with_reducible refine Below.drew ?_) | (with_reducible refine belowDrewN ?_ _) | (with_reducible refine Below.alloc ?_ ?_ _) | (with_reducible refine Below.setCell ?_ ?_ _) | (with_reducible refine belowStep (by assumption) ?_ ?_) | (with_reducible exact Below.size (by assumption)) | go_size))⟩
                all_goals first | go_size | (first | (simp [*, World.cell?_alloc_some, World.cell?_setCell_far]; done) | (simp [go_sem, *]; done))
              case rest =>
                obtain ⟨w33, rfl⟩ : ∃ w33 : World, w33 = wc := ⟨_, rfl⟩
                obtain ⟨g2, rfl, rfl, hga, hgb2, hl3, hl4, hb33⟩ := hcut
                have hz33 := hb33.size
                clear q1 q2 q3 q4 q5
                have TW := Lib.hid (TW.out.below hb33)
                obtain ⟨q1, q2, q3, q4, q5⟩ := TW.out
                have hne : w9.heap.size ≠ g2 := by omega
                have hne2 : g2 ≠ w9.heap.size := by omega
                go_wp2
                go_roundw
                case rel => exact ⟨k + 1, k', es', n', d', x + 1, by omega, by go_num, rfl, HW'.out, HT'.out, HG'.out, by omega, by omega, by (refine ⟨?_, ?_, ?_, ?_, ?_⟩ <;> first | (simp only [World.size_setCell]; omega) | (first | (simp [*]; done) | (simp [go_sem, *]; done))), by (repeat' (first | (with_reducible exact Below.refl _ _) | (with_reducible assumption) | (with_reducible refine Below.drew ?_) | (with_reducible refine belowDrewN ?_ _) | (with_reducible refine Below.alloc ?_ ?_ _) | (with_reducible refine Below.setCell ?_ ?_ _) | (with_reducible refine belowStep (by assumption) ?_ ?_) | (with_reducible exact Below.size (by assumption)) | go_size))⟩
                case measure => simp [intOf]; omega
          · obtain ⟨w23, rfl⟩ : ∃ w23 : World, w23 = wr := ⟨_, rfl⟩
            have hbr3 : Below w9.heap.size w9 w23 := hbr
            obtain ⟨q1, q2, q3, q4, q5⟩ := TW.out
            have HCD : Hid (∀ w' : World, Below w23.heap.size w23 w' → w'.cell? ⟨w9.heap.size, 0, none⟩ = some (.int .i64 n) ∧ w'.cell? ⟨w9.heap.size, 1, none⟩ = some (.int .i64 d)) := Lib.hid fun w' h => ⟨(TW.out.below h).1, (TW.out.below h).2.1⟩
            go_upto_region 23 with fail
            go_cut [17, 18] (fun s17 s18 wx => ∃ g2 : Nat, s17 = .pointer (some ⟨g2, 0, none⟩) ∧ s18 = .bool true ∧ w23.heap.size ≤ g2 ∧ g2 < wx.heap.size ∧ wx.cell? ⟨g2, 0, none⟩ = some (.int .i64 n') ∧ wx.cell? ⟨g2, 1, none⟩ = some (.int .i64 d') ∧ Below w23.heap.size w23 wx)
            case first =>
              go_region_held3 (fun w' => w'.cell? ⟨w9.heap.size, 0, none⟩ = some (.int .i64 n) ∧ w'.cell? ⟨w9.heap.size, 1, none⟩ = some (.int .i64 d)) (exact HCD.out _ (by (repeat' (first | (with_reducible exact Below.refl _ _) | (with_reducible assumption) | (with_reducible refine Below.drew ?_) | (with_reducible refine belowDrewN ?_ _) | (with_reducible refine Below.alloc ?_ ?_ _) | (with_reducible refine Below.setCell ?_ ?_ _) | (with_reducible refine belowStep (by assumption) ?_ ?_) | (with_reducible exact Below.size (by assumption)) | go_size)))) (first | (go_at_call 36; refine (pUnitG_any _ _).mono ?_; rintro e w31 ⟨rfl, hb31⟩; obtain ⟨hc31, hf31⟩ := bcellB hb31; have hz31 := hb31.size; (try simp only [World.size_alloc, World.size_drew] at hc31 hf31 hz31); (try have hy31_00 : w9.heap.size < w31.heap.size := by omega); (try have hn31_00 : w9.heap.size ≠ w31.heap.size := by omega); (try have hm31_00 : w31.heap.size ≠ w9.heap.size := by omega); (try have hp31_00 : w9.heap.size < w31.heap.size + 1 := by omega); (try have hy31_01 : w9.heap.size + 1 < w31.heap.size := by omega); (try have hn31_01 : w9.heap.size + 1 ≠ w31.heap.size := by omega); (try have hm31_01 : w31.heap.size ≠ w9.heap.size + 1 := by omega); (try have hp31_01 : w9.heap.size + 1 < w31.heap.size + 1 := by omega); (try have hy31_10 : w23.heap.size < w31.heap.size := by omega); (try have hn31_10 : w23.heap.size ≠ w31.heap.size := by omega); (try have hm31_10 : w31.heap.size ≠ w23.heap.size := by omega); (try have hp31_10 : w23.heap.size < w31.heap.size + 1 := by omega); (try have hy31_11 : w23.heap.size + 1 < w31.heap.size := by omega); (try have hn31_11 : w23.heap.size + 1 ≠ w31.heap.size := by omega); (try have hm31_11 : w31.heap.size ≠ w23.heap.size + 1 := by omega); (try have hp31_11 : w23.heap.size + 1 < w31.heap.size + 1 := by omega)) | (go_at_call 37; refine (HSub.out _).mono ?_; rintro e w32 ⟨rfl, hb32⟩; obtain ⟨hc32, hf32⟩ := bcellB hb32; have hz32 := hb32.size; (try simp only [World.size_alloc] at hc32 hf32 hz32); (try have hy32_00 : w9.heap.size < w32.heap.size := by omega); (try have hn32_00 : w9.heap.size ≠ w32.heap.size := by omega); (try have hm32_00 : w32.heap.size ≠ w9.heap.size := by omega); (try have hp32_00 : w9.heap.size < w32.heap.size + 1 := by omega); (try have hy32_01 : w9.heap.size + 1 < w32.heap.size := by omega); (try have hn32_01 : w9.heap.size + 1 ≠ w32.heap.size := by omega); (try have hm32_01 : w32.heap.size ≠ w9.heap.size + 1 := by omega); (try have hp32_01 : w9.heap.size + 1 < w32.heap.size + 1 := by omega); (try have hy32_10 : w23.heap.size < w32.heap.size := by omega); (try have hn32_10 : w23.heap.size ≠ w32.heap.size := by omega); (try have hm32_10 : w32.heap.size ≠ w23.heap.size := by omega); (try have hp32_10 : w23.heap.size < w32.heap.size + 1 := by omega); (try have hy32_11 : w23.heap.size + 1 < w32.heap.size := by omega); (try have hn32_11 : w23.heap.size + 1 ≠ w32.heap.size := by omega); (try have hm32_11 : w32.heap.size ≠ w23.heap.size + 1 := by omega); (try have hp32_11 : w23.heap.size + 1 < w32.heap.size + 1 := by omega); (try have hy32_20 : w31.heap.size < w32.heap.size := by omega); (try have hn32_20 : w31.heap.size ≠ w32.heap.size := by omega); (try have hm32_20 : w32.heap.size ≠ w31.heap.size := by omega); (try have hp32_20 : w31.heap.size < w32.heap.size + 1 := by omega); (try have hy32_21 : w31.heap.size + 1 < w32.heap.size := by omega); (try have hn32_21 : w31.heap.size + 1 ≠ w32.heap.size := by omega); (try have hm32_21 : w32.heap.size ≠ w31.heap.size + 1 := by omega); (try have hp32_21 : w31.heap.size + 1 < w32.heap.size + 1 := by omega)))
              all_goals go_wp2_with fail
              all_goals go_meet
              all_goals refine ⟨_, rfl, rfl, ?_, ?_, ?_, ?_, by (repeat' (first | (with_reducible exact Below.refl _ _) | (with_reducible assumption) | (with_reducible refine Below.drew ?_) | (with_reducible refine belowDrewN ?_ _) | (with_reducible refine Below.alloc ?_ ?_ _) | (with_reducible refine Below.setCell ?_ ?_ _) | (with_reducible refine belowStep (by assumption) ?_ ?_) | (with_reducible exact Below.size (by assumption)) | go_size))⟩
              all_goals first | go_size | (first | (simp [*, World.cell?_alloc_some, World.cell?_setCell_far]; done) | (simp [go_sem, *]; done))
            case rest =>
              obtain ⟨w33, rfl⟩ : ∃ w33 : World, w33 = wc := ⟨_, rfl⟩
              obtain ⟨g2, rfl, rfl, hga, hgb2, hl3, hl4, hb33⟩ := hcut
              have hz33 := hb33.size
              clear q1 q2 q3 q4 q5
              have TW := Lib.hid (TW.out.below hb33)
              obtain ⟨q1, q2, q3, q4, q5⟩ := TW.out
              have hne : w9.heap.size ≠ g2 := by omega
              have hne2 : g2 ≠ w9.heap.size := by omega
              go_wp2
              go_roundw
              case rel => exact ⟨k + 1, k', es', n', d', x + 1, by omega, by go_num, rfl, HW'.out, HT'.out, HG'.out, by omega, by omega, by (refine ⟨?_, ?_, ?_, ?_, ?_⟩ <;> first | (simp only [World.size_setCell]; omega) | (first | (simp [*]; done) | (simp [go_sem, *]; done))), by (repeat' (first | (with_reducible exact Below.refl _ _) | (with_reducible assumption) | (with_reducible refine Below.drew ?_) | (with_reducible refine belowDrewN ?_ _) | (with_reducible refine Below.alloc ?_ ?_ _) | (with_reducible refine Below.setCell ?_ ?_ _) | (with_reducible refine belowStep (by assumption) ?_ ?_) | (with_reducible exact Below.size (by assumption)) | go_size))⟩
              case measure => simp [intOf]; omega
        · obtain rfl : k = xs.length := by omega
          have h0 : n = 0 := from_end HG.out HW.out (by rw [HT.out, drop_all])
          have hn0 : (n == 0) = true := by simp [h0]
          clear h0
          obtain ⟨q1, q2, q3, q4, q5⟩ := TW.out
          go_wp2
          go_ret
          exact ⟨ret_bool (by first | exact hn0 | rfl), by (repeat' (first | (with_reducible exact Below.refl _ _) | (with_reducible assumption) | (with_reducible refine Below.drew ?_) | (with_reducible refine belowDrewN ?_ _) | (with_reducible refine Below.alloc ?_ ?_ _) | (with_reducible refine Below.setCell ?_ ?_ _) | (with_reducible refine belowStep (by assumption) ?_ ?_) | (with_reducible exact Below.size (by assumption)) | go_size))⟩

set_option maxRecDepth 100000 in
theorem FnGreedyFromNumbers_lifted (os : Os) (started : os.Started) (H : Type) (enc : TypeId × Value → H) :
    ReturnsInHanded {} Try.checked os 7 .any (Rows.fnGreedyFromNumbersSpec.pre6 enc Try.prog Try.f7 Rows.fnGreedyFromNumbersRow.domain false) (Rows.fnGreedyFromNumbersSpec.post enc Try.prog Try.f7 false true false false) := by
  refine returnsInHanded_of_change (C := Try.checked) own started (by kernel_rfl) Try.func7
    (ChangeSpec.witness6 (enc := enc) (C := Try.checked) false ⟨#[], #[.slice none 0 0, .slice none 0 0], []⟩ 8 (by kernel_rfl) (by kernel_rfl) (by kernel_rfl) (by kernel_rfl)) ?_
  intro W base args ds gs before hval0 hW hcnd _
  have hval : ∀ (j : Nat) t v, Try.f7.params[j]? = some t → args[j]? = some v → Value.okWide Try.prog W .any base t v := hval0
  have hW' := hW
  have hlt : ∀ p ∈ before, p.block < W.heap.size := fun p hp => hW'.lt p hp
  obtain ⟨p, q, hA0, hV, rfl, hfz, hnd⟩ := hW
  have hA : DataW.TrodAll enc Try.prog W 0 (fun _ => true) true Try.f7.params.toList args.toList ds p := hA0
  rw [Try.params7] at hA hval
  obtain ⟨v0, vs0, d0, ds0, p0, q0, hargs, rfl, rfl, h0, r0⟩ := trodAll_cons hA
  obtain ⟨v1, vs1, d1, ds1, p1, q1, rfl, rfl, rfl, h1, r1⟩ := trodAll_cons r0
  obtain ⟨rfl, rfl, rfl⟩ := trodAll_nil r1
  obtain rfl : args = #[v0, v1] := by cases args; simp_all
  obtain ⟨rfl, rfl⟩ := trodVars_none hV
  obtain ⟨Aa, ca, na, rfl, ha⟩ := open_bytes_reads Try.underlying36 Try.underlying5 (by kernel_rfl) (hval 0 36 v0 rfl rfl) h0 (fun y hy => hlt y (by simp [hy]))
  obtain ⟨Ab, cb, nb, rfl, hb⟩ := open_bytes_reads Try.underlying36 Try.underlying5 (by kernel_rfl) (hval 1 36 v1 rfl rfl) h1 (fun y hy => hlt y (by simp [hy]))
  refine (FnGreedyFromNumbers_walk W Aa ca na Ab cb nb ha hb).mono fun e W' ⟨he, hg⟩ => ?_
  subst he
  exact ⟨_, rfl, law_post laidOut (by rw [Try.params7]; intro t ht; simp only [List.mem_cons, List.not_mem_nil, or_false] at ht; rcases ht with rfl | rfl <;> exact ⟨by kernel_rfl, of_decide_eq_true (by kernel_rfl)⟩) (by kernel_rfl) Try.underlying4 rfl hW' rfl hg⟩

theorem FnGreedyFromNumbers_closed : joinedFacts Try.prog 7 Try.f7 Rows.fnGreedyFromNumbersSpec Rows.fnGreedyFromNumbersRow = true := by
  unfold joinedFacts
  rw [mayEnter_eq, lifts_eq, make_eq]
  kernel_rfl

theorem FnGreedyFromNumbers_holds : Rows.FnGreedyFromNumbersSaid :=
  OpenClaim.holds_of_wide 7 Try.f7 rfl rfl rfl rfl rfl rfl rfl ⟨rfl, rfl, rfl, rfl, rfl⟩ rfl rfl rfl rfl rfl (by kernel_rfl) Try.func7 FnGreedyFromNumbers_closed
    (of_decide_eq_true (by kernel_rfl)) (by unfold Func.isWrapper; first | (rw [if_pos (by decide +kernel)]; kernel_rfl) | (rw [if_neg (by decide +kernel)]; exact ⟨rfl, rfl⟩))
    (fun os started H enc _ => FnGreedyFromNumbers_lifted os started H enc)

end Go.Proofs.Ytbjblkfibinenac
