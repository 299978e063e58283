import Derived.Test.YtbjblkfibinenadGreatDrawP
import Derived.Test.YtbjblkfibinenadGreatLawK
import Derived.Test.YtbjblkfibinenadGreatShell
import Derived.Test.YtbjblkfibinenadGreatGolL

/-
  The contract of the draw of a fraction for the law on the method by inverses.
-/
namespace Go.Proofs.YtbjblkfibinenadGreat
open Go.RowKit
set_option maxRecDepth 100000 in
set_option maxHeartbeats 4000000 in
theorem drawGolomb_any (w : World) (A : Option Addr) (n c : Nat) (hr : ReadsB w A n) (hn : n ≤ 1048576) : Calls Tryz.prog 7 #[.slice A n c] w (fun e w' => ∃ a b : Int, e = .returned (.agg #[.int .i64 a, .int .i64 b]) ∧ (-9223372036854775808 ≤ a ∧ a ≤ 9223372036854775807) ∧ (-9223372036854775808 ≤ b ∧ b ≤ 9223372036854775807) ∧ Below w.heap.size w w') := by
  have T0 := Lib.hid (TwoAt.new w 0 0 25)
  have hc0 := beginP (w.alloc (.cells #[.int .i64 0, .int .i64 0] 25)) A n c 46 (hr.below ((Below.refl _ _).alloc (Nat.le_refl _) _)) hn
  rw [World.size_alloc] at hc0
  have HC0 := Lib.hid hc0
  clear hr hc0
  go_enter Tryz.func7, Tryz.ntmps7
  go_wp2_with fail
  refine (oneP_any (w.alloc (.cells #[.int .i64 0, .int .i64 0] 25)) _ (w.heap.size + 1) 0 (by omega) _ (by omega) HC0.out).mono ?_; rintro e w1 ⟨o, rfl, hc1, hg1⟩
  have HC1 := Lib.hid hc1
  have hz1 := hg1.size
  simp only [World.size_alloc] at hz1
  clear hc1 hg1
  cases o with
  | true =>
    go_wp2_with fail
    refine (pick_any (w.alloc (.cells #[.int .i64 0, .int .i64 0] 25)) _ (w.heap.size + 1) 2 (by omega) _ (by omega) HC1.out).mono ?_; rintro e w2 ⟨x, rfl, x0, x1, hc2, hg2⟩
    have HC2 := Lib.hid hc2
    have hz2 := hg2.size
    clear hc2 hg2
    go_wp2_with fail
    refine (pick_any (w.alloc (.cells #[.int .i64 0, .int .i64 0] 25)) _ (w.heap.size + 1) 4 (by omega) _ (by omega) HC2.out).mono ?_; rintro e w3 ⟨y, rfl, y0, y1, hc3, hg3⟩
    have HC3 := Lib.hid hc3
    have hz3 := hg3.size
    clear hc3 hg3
    go_wp2_with fail
    refine (unMake_any _ _ _ (by omega) (by omega) (by omega) (by omega)).mono ?_; rintro e w4 ⟨rfl, hb4⟩
    have hsm := red_small (x := 1 + x) (y := 40001 + y) (by omega) (by omega) (by omega) (by omega)
    generalize (1 + x) / gcdI (1 + x) (40001 + y) = a at *
    generalize (40001 + y) / gcdI (1 + x) (40001 + y) = b at *
    have Hsm := Lib.hid hsm
    have HC4 := Lib.hid (HC3.out.below hb4)
    have hbs := HC4.out.base.2.2
    have hz4 := hb4.size
    obtain ⟨t1, t2, t3, t4, t5⟩ := T0.out.below hbs
    have hbw : Below w.heap.size w w4 := by (repeat' (first | (with_reducible exact Below.refl _ _) | (with_reducible assumption) | (with_reducible refine Below.drew ?_) | (with_reducible refine belowDrewN ?_ _) | (with_reducible refine Below.alloc ?_ ?_ _) | (with_reducible refine Below.setCell ?_ ?_ _) | (with_reducible refine belowStep (by assumption) ?_ ?_) | (with_reducible exact Below.size (by assumption)) | go_size))
    clear hsm hb4 hbs
    go_wp2
    refine bodyPost_ret (by simp [results, Tryz.results7, go_sem, *]; try rfl) rfl ?_
    exact ⟨a, b, rfl, Hsm.out.1, Hsm.out.2, (hbw.setCell (Nat.le_refl _) _).setCell (Nat.le_refl _) _⟩
  | false =>
    go_wp2_with fail
    refine (proper_any (w.alloc (.cells #[.int .i64 0, .int .i64 0] 25)) _ (w.heap.size + 1) 2 (by omega) HC1.out).mono ?_; rintro e w2 ⟨a, b, rfl, ha, hb, hc2, hg2⟩
    have hbs := hc2.base.2.2
    have hz2 := hg2.size
    obtain ⟨t1, t2, t3, t4, t5⟩ := T0.out.below hbs
    have hbw : Below w.heap.size w w2 := by (repeat' (first | (with_reducible exact Below.refl _ _) | (with_reducible assumption) | (with_reducible refine Below.drew ?_) | (with_reducible refine belowDrewN ?_ _) | (with_reducible refine Below.alloc ?_ ?_ _) | (with_reducible refine Below.setCell ?_ ?_ _) | (with_reducible refine belowStep (by assumption) ?_ ?_) | (with_reducible exact Below.size (by assumption)) | go_size))
    clear hc2 hg2 hbs
    go_wp2
    refine bodyPost_ret (by simp [results, Tryz.results7, go_sem, *]; try rfl) rfl ?_
    exact ⟨a, b, rfl, ha, hb, (hbw.setCell (Nat.le_refl _) _).setCell (Nat.le_refl _) _⟩
end Go.Proofs.YtbjblkfibinenadGreat


/-
  For all bytes: a fraction is drawn; the rests by inverses and the expansion are the model's; the rests fall in both parts, each step takes a unit fraction away, and the expansion has the fraction as its sum, no more terms than its numerator, and none too great. No condition.
-/
namespace Go.Proofs.YtbjblkfibinenadGreat
open Go.ChangeShapes Go.WideShapes Go.ChangeAt Go.RowKit Go.Joins Go.Deep
theorem RetQ.retL {v : Value} {w : World} {e : Ending} {w' : World} (h : RetQ v w e w') : Ret v w e w' := by
  obtain ⟨rfl, k, rfl⟩ := h
  exact ⟨rfl, by (repeat' (first | (with_reducible exact Below.refl _ _) | (with_reducible assumption) | (with_reducible refine Below.drew ?_) | (with_reducible refine belowDrewN ?_ _) | (with_reducible refine Below.alloc ?_ ?_ _) | (with_reducible refine Below.setCell ?_ ?_ _) | (with_reducible refine belowStep (by assumption) ?_ ?_) | (with_reducible exact Below.size (by assumption)) | go_size))⟩
set_option maxRecDepth 100000 in
set_option maxHeartbeats 32000000 in
theorem FnGolombEnds_walk (w : World) (A : Option Addr) (c n : Nat) (B : Option Addr) (d m' : Nat) (hA : ReadsB w A n ∧ n ≤ 9223372036854775807) (hB : ReadsB w B m' ∧ m' ≤ 9223372036854775807) :
    Calls Tryz.prog 3 #[.slice A n c, .slice B m' d] w (Ret (.bool true) w) := by
  obtain ⟨hA, hn⟩ := hA
  obtain ⟨hB, hm'⟩ := hB
  have HA := Lib.hid hA
  clear hA hB
  cases hbig : bigB n m' with
  | true =>
    go_enter Tryz.func3, Tryz.ntmps3
    go_wp2_with fail
    refine (big_any _ _ _ _ _ _ _ hn hm').mono ?_; rintro e w1 ⟨rfl, k1, rfl⟩
    go_wp2
    go_ret
    exact ⟨rfl, by (repeat' (first | (with_reducible exact Below.refl _ _) | (with_reducible assumption) | (with_reducible refine Below.drew ?_) | (with_reducible refine belowDrewN ?_ _) | (with_reducible refine Below.alloc ?_ ?_ _) | (with_reducible refine Below.setCell ?_ ?_ _) | (with_reducible refine belowStep (by assumption) ?_ ?_) | (with_reducible exact Below.size (by assumption)) | go_size))⟩
  | false =>
    have hn2 : n ≤ 1048576 ∧ m' ≤ 1048576 := by
      simp only [bigB, Bool.or_eq_false_iff, decide_eq_false_iff_not] at hbig
      omega
    go_enter Tryz.func3, Tryz.ntmps3
    go_wp2_with fail
    refine (big_any _ _ _ _ _ _ _ hn hm').mono ?_; rintro e w1 ⟨rfl, k1, rfl⟩
    go_wp2_with fail
    refine (drawGolomb_any _ A n c (HA.out.below (by (repeat' (first | (with_reducible exact Below.refl _ _) | (with_reducible assumption) | (with_reducible refine Below.drew ?_) | (with_reducible refine belowDrewN ?_ _) | (with_reducible refine Below.alloc ?_ ?_ _) | (with_reducible refine Below.setCell ?_ ?_ _) | (with_reducible refine belowStep (by assumption) ?_ ?_) | (with_reducible exact Below.size (by assumption)) | go_size)))) hn2.1).mono ?_; rintro e w2 ⟨a, b, rfl, ha, hb, hb2⟩
    have hz2 := hb2.size
    (try simp only [World.heap_drewN] at hz2)
    clear hbig
    have TG := Lib.hid (TwoAt.new w2 (a) (b) 25)
    obtain ⟨oG1, oG2, oG3, oG4, oG5⟩ := TG.out
    go_wp2_with fail
    refine (golombRests_any a b _ ha hb).mono ?_; rintro e w3 ⟨v3, rfl, ho3, hb3⟩; have hz3 := hb3.size; (try simp only [World.size_alloc] at hz3)
    clear oG1 oG2 oG3 oG4 oG5
    have TG := Lib.hid (TG.out.below hb3)
    obtain ⟨A3, c3, rfl, hf3⟩ := ho3.reads
    have HF3 := Lib.hid hf3
    clear ho3 hf3
    obtain ⟨oG1, oG2, oG3, oG4, oG5⟩ := TG.out
    go_wp2_with fail
    refine (spec_golombRests_any a b _).mono ?_; rintro e w4 ⟨v4, rfl, ho4, hb4⟩; have hz4 := hb4.size; (try simp only [World.size_alloc, World.size_setCell, World.size_drew, World.heap_drewN] at hz4)
    clear oG1 oG2 oG3 oG4 oG5
    have TG := Lib.hid (TG.out.below hb4)
    obtain ⟨A4, c4, rfl, hf4⟩ := ho4.reads
    have HF4 := Lib.hid hf4
    have HF3 := Lib.hid (HF3.out.below hb4)
    clear ho4 hf4
    obtain ⟨oG1, oG2, oG3, oG4, oG5⟩ := TG.out
    go_wp2_with fail
    refine (golombExp_any a b _ ha hb).mono ?_; rintro e w5 ⟨v5, rfl, ho5, hb5⟩; have hz5 := hb5.size; (try simp only [World.size_alloc, World.size_setCell, World.size_drew, World.heap_drewN] at hz5)
    clear oG1 oG2 oG3 oG4 oG5
    have TG := Lib.hid (TG.out.below hb5)
    have HF3 := Lib.hid (HF3.out.below hb5)
    have HF4 := Lib.hid (HF4.out.below hb5)
    obtain ⟨A5, c5, rfl, hr5⟩ := ho5.form
    have HR5 := Lib.hid hr5
    clear ho5 hr5
    obtain ⟨oG1, oG2, oG3, oG4, oG5⟩ := TG.out
    go_wp2_with fail
    refine (spec_golombExp_any a b _).mono ?_; rintro e w6 ⟨A6, c6, rfl, hr6, hb6⟩; have hz6 := hb6.size; (try simp only [World.size_alloc, World.size_setCell, World.size_drew, World.heap_drewN] at hz6)
    clear oG1 oG2 oG3 oG4 oG5
    have TG := Lib.hid (TG.out.below hb6)
    have HF3 := Lib.hid (HF3.out.below hb6)
    have HF4 := Lib.hid (HF4.out.below hb6)
    have HR6 := Lib.hid hr6
    have HR5 := Lib.hid (HR5.out.below hb6)
    have hxl := gxO_len a b
    clear hr6
    obtain ⟨oG1, oG2, oG3, oG4, oG5⟩ := TG.out
    go_wp2_with fail
    refine ((pSame_same _ _ _ _ _ _ HR5.out HR6.out (by omega)).mono fun _ _ h => h.retL).mono ?_; rintro e w7 ⟨rfl, hb7⟩
    have hz7 := hb7.size
    clear oG1 oG2 oG3 oG4 oG5
    have TG := Lib.hid (TG.out.below hb7)
    have HF3 := Lib.hid (HF3.out.below hb7)
    have HF4 := Lib.hid (HF4.out.below hb7)
    have HR7 := Lib.hid (HR5.out.below hb7)
    have hbw7 : Below w.heap.size w w7 := by (repeat' (first | (with_reducible exact Below.refl _ _) | (with_reducible assumption) | (with_reducible refine Below.drew ?_) | (with_reducible refine belowDrewN ?_ _) | (with_reducible refine Below.alloc ?_ ?_ _) | (with_reducible refine Below.setCell ?_ ?_ _) | (with_reducible refine belowStep (by assumption) ?_ ?_) | (with_reducible exact Below.size (by assumption)) | go_size))
    clear HR6 HR5
    cases hX : gxO a b with
    | none =>
      clear hX hxl HR7
      obtain ⟨oG1, oG2, oG3, oG4, oG5⟩ := TG.out
      go_upto_region 12 with fail
      go_cut [90, 91] (fun s90 s91 wx => s91 = .bool false ∧ Below w7.heap.size w7 wx)
      case first =>
        go_quiet (fail)
        go_wp2_with fail
        go_meet
        exact ⟨rfl, by (repeat' (first | (with_reducible exact Below.refl _ _) | (with_reducible assumption) | (with_reducible refine Below.drew ?_) | (with_reducible refine belowDrewN ?_ _) | (with_reducible refine Below.alloc ?_ ?_ _) | (with_reducible refine Below.setCell ?_ ?_ _) | (with_reducible refine belowStep (by assumption) ?_ ?_) | (with_reducible exact Below.size (by assumption)) | go_size))⟩
      case rest =>
        obtain ⟨w12, rfl⟩ : ∃ w12 : World, w12 = wc := ⟨_, rfl⟩
        obtain ⟨rfl, hb12⟩ := hcut
        have HTD : Hid (∀ es, walkR stI 300 0 a b = some es → True) := Lib.hid (fun _ _ => trivial)
        have hz12 := hb12.size
        clear oG1 oG2 oG3 oG4 oG5
        have TG := Lib.hid (TG.out.below hb12)
        have HF3 := Lib.hid (HF3.out.below hb12)
        have HF4 := Lib.hid (HF4.out.below hb12)
        have hbw12 : Below w.heap.size w w12 := hbw7.trans (hb12.mono (by have := hbw7.size; omega))
        cases hF : grsO a b with
        | none =>
          clear hF
          go_wp2
          go_ret
          exact ⟨rfl, hbw12⟩
        | some fs =>
          obtain ⟨hp, es, hw, hfs, W0, h300⟩ := grsO_back hF
          rw [hF] at HF3 HF4
          have HX3 := Lib.hid (show ReadsF w12 A3 fs from HF3.out)
          have HX4 := Lib.hid (show ReadsF w12 A4 fs from HF4.out)
          simp only [Option.getD_some, Option.isSome_some]
          have HW := Lib.hid hw
          have HS : Hid (∀ (i : Nat) (p q p' q' : Int), fs[i]? = some (p, q) → fs[i + 1]? = some (p', q') → proB p q = true ∧ p' = goN p q ∧ q' = goD p q ∧ p' < p ∧ q' < q ∧ goT p q ∈ takenOf es) := Lib.hid (by rw [hfs]; exact W0.step)
          have HGd : Hid (∀ (i : Nat) (p q : Int), fs[i]? = some (p, q) → goodB p q = true) := Lib.hid (by rw [hfs]; exact W0.good)
          have H00 : Hid (fs[0]? = some (a, b)) := Lib.hid (by rw [hfs]; rfl)
          obtain ⟨m, hm⟩ : ∃ m, m = es.length := ⟨_, rfl⟩
          have hml : es.length ≤ m ∧ m ≤ es.length := by omega
          have HL0 : Hid (∃ q, fs[m]? = some (0, q)) := Lib.hid (by rw [hfs, hm]; exact W0.last)
          have hfl1 : fs.length ≤ m + 1 := by rw [hfs, hm]; simp [restsOf]
          have hfl2 : m + 1 ≤ fs.length := by rw [hfs, hm]; simp [restsOf]
          have hma : (m : Int) ≤ a := by have := W0.few; omega
          have hm300 : m ≤ 300 := by omega
          clear hF hw hfs W0 h300 hm
          obtain ⟨f1, p0, q0, e3, hf1, hx0, hc0, hc1⟩ := HX3.out.at_ (k := 0) (by omega)
          obtain ⟨rfl, rfl⟩ : a = p0 ∧ b = q0 := by rw [H00.out] at hx0; injection hx0 with hx0; injection hx0 with h1 h2; exact ⟨h1, h2⟩
          obtain ⟨f2, pm, qm, e3', hf2, hxm, hcm0, hcm1⟩ := HX3.out.at_ (k := m) (by omega)
          subst e3
          injection e3' with e3'
          injection e3' with e3'
          subst e3'
          obtain rfl : pm = 0 := by obtain ⟨q, hq⟩ := HL0.out; rw [hq] at hxm; injection hxm with hxm; injection hxm with h1 h2; exact h1.symm
          have hlast : ((fs.length : Nat) : Int) - 1 = (m : Int) := by omega
          have hlw : IntKind.i64.wrap (((fs.length : Nat) : Int) - 1) = (m : Int) := by rw [hlast]; exact IntWalk.i64_in _ (by omega)
          have hi0 : (0 : Int) < ((fs.length : Nat) : Int) := by omega
          have him : (m : Int) < ((fs.length : Nat) : Int) := by omega
          rw [Nat.zero_mul] at hc0 hc1
          clear hx0 hxm
          obtain ⟨oG1, oG2, oG3, oG4, oG5⟩ := TG.out
          go_wp2_with fail
          go_quiet (fail)
          clear oG1 oG2 oG3 oG4 oG5
          clear hc0 hc1 hcm0 hcm1
          go_wp2
          go_loopw [15] (fun vi wr => ∃ i : Nat, i ≤ m ∧ vi = .int .i64 (i : Int) ∧ Below w12.heap.size w12 wr) (fun vi _ => m - (intOf vi).toNat)
          case atStart => exact ⟨0, Nat.zero_le _, rfl, by (repeat' (first | (with_reducible exact Below.refl _ _) | (with_reducible assumption) | (with_reducible refine Below.drew ?_) | (with_reducible refine belowDrewN ?_ _) | (with_reducible refine Below.alloc ?_ ?_ _) | (with_reducible refine Below.setCell ?_ ?_ _) | (with_reducible refine belowStep (by assumption) ?_ ?_) | (with_reducible exact Below.size (by assumption)) | go_size))⟩
          case round =>
            obtain ⟨i, hi, rfl, hbr⟩ := hrel
            have hzr := hbr.size
            by_cases hlt : i < m
            · obtain ⟨g1, p, q, e1, hg1, hx1, hd0, hd1⟩ := (HX3.out.below hbr).at_ (k := i) (by omega)
              obtain ⟨g2, p', q', e2, hg2, hx2, hd2, hd3⟩ := (HX3.out.below hbr).at_ (k := i + 1) (by omega)
              obtain ⟨g4, p4, q4, e4, hg4, hx4, hd4, hd5⟩ := (HX4.out.below hbr).at_ (k := i) (by omega)
              injection e1 with e1
              injection e1 with e1
              subst e1
              injection e2 with e2
              injection e2 with e2
              subst e2
              subst e4
              obtain ⟨rfl, rfl⟩ : p = p4 ∧ q = q4 := by rw [hx1] at hx4; injection hx4 with hx4; injection hx4 with h1 h2; exact ⟨h1, h2⟩
              obtain ⟨s1, s2, s3, s4, s5, s6⟩ := HS.out i p q p' q' hx1 hx2
              have hgb := good_bounds (HGd.out i p q hx1)
              have hgb2 := good_bounds (HGd.out (i + 1) p' q' hx2)
              have HT := Lib.hid s6
              have HGS := Lib.hid fun (w : World) => golombStep_any p q w ⟨by omega, by omega⟩ ⟨by omega, by omega⟩
              rw [← s2, ← s3, s1] at HGS
              have hi1 : (i : Int) < ((fs.length : Nat) : Int) := by omega
              have hi2 : (i : Int) + 1 < ((fs.length : Nat) : Int) := by omega
              have hilt : (i : Int) < (m : Int) := by omega
              have hi3 : (0 : Int) ≤ (i : Int) + 1 := by omega
              have hiw : IntKind.i64.wrap ((i : Int) + 1) = (i : Int) + 1 := IntWalk.i64_in _ (by omega)
              clear hx1 hx2 hx4 s1 s2 s3 s6
              go_wp2_with fail
              go_quiet (fail)
              go_wp2_with fail
              refine (HGS.out _).mono ?_; rintro e w24 ⟨rfl, hb24⟩; have hz24 := hb24.size; (try simp only [World.heap_drewN] at hz24)
              have hbx : Below wr.heap.size wr w24 := by (repeat' (first | (with_reducible exact Below.refl _ _) | (with_reducible assumption) | (with_reducible refine Below.drew ?_) | (with_reducible refine belowDrewN ?_ _) | (with_reducible refine Below.alloc ?_ ?_ _) | (with_reducible refine Below.setCell ?_ ?_ _) | (with_reducible refine belowStep (by assumption) ?_ ?_) | (with_reducible exact Below.size (by assumption)) | go_size))
              have hd2 := (hbx.cell (p := ⟨f1, (i + 1) * 2, none⟩) hg1).trans hd2
              have hd3 := (hbx.cell (p := ⟨f1, (i + 1) * 2 + 1, none⟩) hg1).trans hd3
              have hbr24 : Below w12.heap.size w12 w24 := hbr.trans (hbx.mono hzr)
              have hf1lt : f1 < w24.heap.size := by omega
              have hf1ne : f1 ≠ w24.heap.size := by omega
              have TR := Lib.hid (TwoAt.new w24 (p') (q') 25)
              obtain ⟨oR1, oR2, oR3, oR4, oR5⟩ := TR.out
              go_wp2_with fail
              go_quiet (first | (go_at_call 15; fail))
              go_wp2
              go_roundw
              case rel => exact ⟨i + 1, by omega, by go_num, by (repeat' (first | (with_reducible exact Below.refl _ _) | (with_reducible assumption) | (with_reducible refine Below.drew ?_) | (with_reducible refine belowDrewN ?_ _) | (with_reducible refine Below.alloc ?_ ?_ _) | (with_reducible refine Below.setCell ?_ ?_ _) | (with_reducible refine belowStep (by assumption) ?_ ?_) | (with_reducible exact Below.size (by assumption)) | go_size))⟩
              case measure => simp [intOf]; omega
            · obtain rfl : i = m := by omega
              have hbwr : Below w.heap.size w wr := hbw12.trans (hbr.mono (by have := hbw12.size; omega))
              go_wp2
              go_ret
              exact ⟨rfl, by (repeat' (first | (with_reducible exact Below.refl _ _) | (with_reducible assumption) | (with_reducible refine Below.drew ?_) | (with_reducible refine belowDrewN ?_ _) | (with_reducible refine Below.alloc ?_ ?_ _) | (with_reducible refine Below.setCell ?_ ?_ _) | (with_reducible refine belowStep (by assumption) ?_ ?_) | (with_reducible exact Below.size (by assumption)) | go_size))⟩
    | some xs =>
      have L := Lib.hid (gxO_back hX)
      rw [hX] at HR7
      have HR := Lib.hid (show Reads w7 A5 xs from HR7.out)
      simp only [Option.getD_some, Option.isSome_some]
      have hx24 := L.out.l24
      have hfew := L.out.few
      have hne1 := L.out.ne
      obtain ⟨n1, n2, d1, d2, hnd, _, _, _⟩ := proB_bounds L.out.pro
      obtain ⟨jj, hj1, hj2⟩ : ∃ jj : Nat, jj + 1 ≤ xs.length ∧ xs.length ≤ jj + 1 := ⟨xs.length - 1, by omega, by omega⟩
      obtain ⟨bb, oo, z, eA, hbb, hz, hcz⟩ := HR.out.at_ (k := jj) (by omega)
      have hzle := L.out.le z (List.mem_of_getElem? hz)
      have hz1 := (expB_small L.out.exp z (List.mem_of_getElem? hz)).1
      have hbd := mul_bounds (a := b) (b := b - 1) (by omega) d2 (by omega) (by omega)
      subst eA
      clear hX hxl HR7 hz
      have HPS := Lib.hid fun (w : World) (h : Reads w (some ⟨bb, oo, none⟩) xs) => pSums_yes w a b (some ⟨bb, oo, none⟩) c5 xs h (by omega) L.out.x64 L.out.exp L.out.sum.1 L.out.sum.2
      have hidx : ((xs.length : Nat) : Int) - 1 = (jj : Int) := by omega
      have hjl : (jj : Int) < ((xs.length : Nat) : Int) := by omega
      have hidw : IntKind.i64.wrap (((xs.length : Nat) : Int) - 1) = (jj : Int) := by rw [hidx]; exact IntWalk.i64_in _ (by omega)
      have hjw : IntKind.i64.wrap (jj : Int) = (jj : Int) := IntWalk.i64_in _ (by omega)
      have hj0 : (0 : Int) ≤ (jj : Int) := by omega
      have hb1w : IntKind.i64.wrap (b - 1) = b - 1 := IntWalk.i64_in _ (by omega)
      have hbpw : IntKind.i64.wrap (b * (b - 1)) = b * (b - 1) := IntWalk.i64_in _ (by omega)
      have hzd : decide (b * (b - 1) < z) = false := by simp; omega
      have hfd : decide (a < ((xs.length : Nat) : Int)) = false := by simp; omega
      have HC : Hid (∀ w' : World, Below w7.heap.size w7 w' → w'.cell? ⟨bb, oo + jj, none⟩ = some (.int .i64 z) ∧ w'.cell? ⟨w2.heap.size, 0, none⟩ = some (.int .i64 a) ∧ w'.cell? ⟨w2.heap.size, 1, none⟩ = some (.int .i64 b)) := Lib.hid fun w' h => ⟨(h.cell (p := ⟨bb, oo + jj, none⟩) hbb).trans hcz, (TG.out.below h).1, (TG.out.below h).2.1⟩
      have HRX := Lib.hid fun (w' : World) (h : Below w7.heap.size w7 w') => HPS.out w' (HR.out.below h)
      obtain ⟨oG1, oG2, oG3, oG4, oG5⟩ := TG.out
      go_upto_region 12 with fail
      go_cut [90, 91] (fun s90 s91 wx => s91 = .bool false ∧ Below w7.heap.size w7 wx)
      case first =>
        clear HPS HR L HF3 HF4 TG
        go_region_held3 (fun w' => w'.cell? ⟨bb, oo + jj, none⟩ = some (.int .i64 z) ∧ w'.cell? ⟨w2.heap.size, 0, none⟩ = some (.int .i64 a) ∧ w'.cell? ⟨w2.heap.size, 1, none⟩ = some (.int .i64 b)) (exact HC.out _ (by (repeat' (first | (with_reducible exact Below.refl _ _) | (with_reducible assumption) | (with_reducible refine Below.drew ?_) | (with_reducible refine belowDrewN ?_ _) | (with_reducible refine Below.alloc ?_ ?_ _) | (with_reducible refine Below.setCell ?_ ?_ _) | (with_reducible refine belowStep (by assumption) ?_ ?_) | (with_reducible exact Below.size (by assumption)) | go_size)))) (first | (go_at_call 13; refine (HRX.out _ (by (repeat' (first | (with_reducible exact Below.refl _ _) | (with_reducible assumption) | (with_reducible refine Below.drew ?_) | (with_reducible refine belowDrewN ?_ _) | (with_reducible refine Below.alloc ?_ ?_ _) | (with_reducible refine Below.setCell ?_ ?_ _) | (with_reducible refine belowStep (by assumption) ?_ ?_) | (with_reducible exact Below.size (by assumption)) | go_size)))).mono ?_; rintro e w8 ⟨rfl, hb8⟩))
        all_goals go_wp2_with fail
        all_goals go_meet
        all_goals exact ⟨rfl, by (repeat' (first | (with_reducible exact Below.refl _ _) | (with_reducible assumption) | (with_reducible refine Below.drew ?_) | (with_reducible refine belowDrewN ?_ _) | (with_reducible refine Below.alloc ?_ ?_ _) | (with_reducible refine Below.setCell ?_ ?_ _) | (with_reducible refine belowStep (by assumption) ?_ ?_) | (with_reducible exact Below.size (by assumption)) | go_size))⟩
      case rest =>
        obtain ⟨w12, rfl⟩ : ∃ w12 : World, w12 = wc := ⟨_, rfl⟩
        obtain ⟨rfl, hb12⟩ := hcut
        have HR := Lib.hid (HR.out.below hb12)
        have HTD : Hid (∀ es, walkR stI 300 0 a b = some es → xs.length = es.length ∧ ∀ t ∈ takenOf es, hasB xs t = true) := Lib.hid (fun es he => by
          obtain ⟨es', h1, h2, h3⟩ := L.out.walk
          have h4 := walkG_at h1 (show es'.length ≤ 300 by have := walkR_len 24 h1; omega)
          rw [he] at h4
          injection h4 with h4
          subst h4
          exact ⟨h3, h2⟩)
        have HPH := Lib.hid fun (t : Int) (w : World) (h : Reads w (some ⟨bb, oo, none⟩) xs) (ht : hasB xs t = true) => (show Calls Tryz.prog 15 #[.slice (some ⟨bb, oo, none⟩) xs.length c5, .int .i64 t] w (RetQ (.bool true) w) from by
          have h0 := pHas_any w t (some ⟨bb, oo, none⟩) c5 xs h (by omega)
          rw [ht] at h0
          exact h0)
        clear hidx hjl hidw hjw hj0 hb1w hbpw hzd hfd HC HRX HPS hzle hz1 hcz hbd
        have hz12 := hb12.size
        clear oG1 oG2 oG3 oG4 oG5
        have TG := Lib.hid (TG.out.below hb12)
        have HF3 := Lib.hid (HF3.out.below hb12)
        have HF4 := Lib.hid (HF4.out.below hb12)
        have hbw12 : Below w.heap.size w w12 := hbw7.trans (hb12.mono (by have := hbw7.size; omega))
        cases hF : grsO a b with
        | none =>
          clear hF
          go_wp2
          go_ret
          exact ⟨rfl, hbw12⟩
        | some fs =>
          obtain ⟨hp, es, hw, hfs, W0, h300⟩ := grsO_back hF
          rw [hF] at HF3 HF4
          have HX3 := Lib.hid (show ReadsF w12 A3 fs from HF3.out)
          have HX4 := Lib.hid (show ReadsF w12 A4 fs from HF4.out)
          simp only [Option.getD_some, Option.isSome_some]
          have HW := Lib.hid hw
          have HS : Hid (∀ (i : Nat) (p q p' q' : Int), fs[i]? = some (p, q) → fs[i + 1]? = some (p', q') → proB p q = true ∧ p' = goN p q ∧ q' = goD p q ∧ p' < p ∧ q' < q ∧ goT p q ∈ takenOf es) := Lib.hid (by rw [hfs]; exact W0.step)
          have HGd : Hid (∀ (i : Nat) (p q : Int), fs[i]? = some (p, q) → goodB p q = true) := Lib.hid (by rw [hfs]; exact W0.good)
          have H00 : Hid (fs[0]? = some (a, b)) := Lib.hid (by rw [hfs]; rfl)
          obtain ⟨m, hm⟩ : ∃ m, m = es.length := ⟨_, rfl⟩
          have hml : es.length ≤ m ∧ m ≤ es.length := by omega
          have HL0 : Hid (∃ q, fs[m]? = some (0, q)) := Lib.hid (by rw [hfs, hm]; exact W0.last)
          have hfl1 : fs.length ≤ m + 1 := by rw [hfs, hm]; simp [restsOf]
          have hfl2 : m + 1 ≤ fs.length := by rw [hfs, hm]; simp [restsOf]
          have hma : (m : Int) ≤ a := by have := W0.few; omega
          have hm300 : m ≤ 300 := by omega
          clear hF hw hfs W0 h300 hm
          obtain ⟨f1, p0, q0, e3, hf1, hx0, hc0, hc1⟩ := HX3.out.at_ (k := 0) (by omega)
          obtain ⟨rfl, rfl⟩ : a = p0 ∧ b = q0 := by rw [H00.out] at hx0; injection hx0 with hx0; injection hx0 with h1 h2; exact ⟨h1, h2⟩
          obtain ⟨f2, pm, qm, e3', hf2, hxm, hcm0, hcm1⟩ := HX3.out.at_ (k := m) (by omega)
          subst e3
          injection e3' with e3'
          injection e3' with e3'
          subst e3'
          obtain rfl : pm = 0 := by obtain ⟨q, hq⟩ := HL0.out; rw [hq] at hxm; injection hxm with hxm; injection hxm with h1 h2; exact h1.symm
          have hlast : ((fs.length : Nat) : Int) - 1 = (m : Int) := by omega
          have hlw : IntKind.i64.wrap (((fs.length : Nat) : Int) - 1) = (m : Int) := by rw [hlast]; exact IntWalk.i64_in _ (by omega)
          have hi0 : (0 : Int) < ((fs.length : Nat) : Int) := by omega
          have him : (m : Int) < ((fs.length : Nat) : Int) := by omega
          rw [Nat.zero_mul] at hc0 hc1
          clear hx0 hxm
          obtain ⟨oG1, oG2, oG3, oG4, oG5⟩ := TG.out
          go_wp2_with fail
          go_quiet (fail)
          clear oG1 oG2 oG3 oG4 oG5
          clear hc0 hc1 hcm0 hcm1
          go_wp2
          go_loopw [15] (fun vi wr => ∃ i : Nat, i ≤ m ∧ vi = .int .i64 (i : Int) ∧ Below w12.heap.size w12 wr) (fun vi _ => m - (intOf vi).toNat)
          case atStart => exact ⟨0, Nat.zero_le _, rfl, by (repeat' (first | (with_reducible exact Below.refl _ _) | (with_reducible assumption) | (with_reducible refine Below.drew ?_) | (with_reducible refine belowDrewN ?_ _) | (with_reducible refine Below.alloc ?_ ?_ _) | (with_reducible refine Below.setCell ?_ ?_ _) | (with_reducible refine belowStep (by assumption) ?_ ?_) | (with_reducible exact Below.size (by assumption)) | go_size))⟩
          case round =>
            obtain ⟨i, hi, rfl, hbr⟩ := hrel
            have hzr := hbr.size
            by_cases hlt : i < m
            · obtain ⟨g1, p, q, e1, hg1, hx1, hd0, hd1⟩ := (HX3.out.below hbr).at_ (k := i) (by omega)
              obtain ⟨g2, p', q', e2, hg2, hx2, hd2, hd3⟩ := (HX3.out.below hbr).at_ (k := i + 1) (by omega)
              obtain ⟨g4, p4, q4, e4, hg4, hx4, hd4, hd5⟩ := (HX4.out.below hbr).at_ (k := i) (by omega)
              injection e1 with e1
              injection e1 with e1
              subst e1
              injection e2 with e2
              injection e2 with e2
              subst e2
              subst e4
              obtain ⟨rfl, rfl⟩ : p = p4 ∧ q = q4 := by rw [hx1] at hx4; injection hx4 with hx4; injection hx4 with h1 h2; exact ⟨h1, h2⟩
              obtain ⟨s1, s2, s3, s4, s5, s6⟩ := HS.out i p q p' q' hx1 hx2
              have hgb := good_bounds (HGd.out i p q hx1)
              have hgb2 := good_bounds (HGd.out (i + 1) p' q' hx2)
              have HT := Lib.hid s6
              have HGS := Lib.hid fun (w : World) => golombStep_any p q w ⟨by omega, by omega⟩ ⟨by omega, by omega⟩
              rw [← s2, ← s3, s1] at HGS
              have hi1 : (i : Int) < ((fs.length : Nat) : Int) := by omega
              have hi2 : (i : Int) + 1 < ((fs.length : Nat) : Int) := by omega
              have hilt : (i : Int) < (m : Int) := by omega
              have hi3 : (0 : Int) ≤ (i : Int) + 1 := by omega
              have hiw : IntKind.i64.wrap ((i : Int) + 1) = (i : Int) + 1 := IntWalk.i64_in _ (by omega)
              clear hx1 hx2 hx4 s1 s2 s3 s6
              go_wp2_with fail
              go_quiet (fail)
              go_wp2_with fail
              refine (HGS.out _).mono ?_; rintro e w24 ⟨rfl, hb24⟩; have hz24 := hb24.size; (try simp only [World.heap_drewN] at hz24)
              have hbx : Below wr.heap.size wr w24 := by (repeat' (first | (with_reducible exact Below.refl _ _) | (with_reducible assumption) | (with_reducible refine Below.drew ?_) | (with_reducible refine belowDrewN ?_ _) | (with_reducible refine Below.alloc ?_ ?_ _) | (with_reducible refine Below.setCell ?_ ?_ _) | (with_reducible refine belowStep (by assumption) ?_ ?_) | (with_reducible exact Below.size (by assumption)) | go_size))
              have hd2 := (hbx.cell (p := ⟨f1, (i + 1) * 2, none⟩) hg1).trans hd2
              have hd3 := (hbx.cell (p := ⟨f1, (i + 1) * 2 + 1, none⟩) hg1).trans hd3
              have hbr24 : Below w12.heap.size w12 w24 := hbr.trans (hbx.mono hzr)
              have hf1lt : f1 < w24.heap.size := by omega
              have hf1ne : f1 ≠ w24.heap.size := by omega
              have TR := Lib.hid (TwoAt.new w24 (p') (q') 25)
              obtain ⟨oR1, oR2, oR3, oR4, oR5⟩ := TR.out
              go_wp2_with fail
              go_quiet (first | (go_at_call 15; exact Calls.quiet_of (HPH.out _ _ (HR.out.below (by (repeat' (first | (with_reducible exact Below.refl _ _) | (with_reducible assumption) | (with_reducible refine Below.drew ?_) | (with_reducible refine belowDrewN ?_ _) | (with_reducible refine Below.alloc ?_ ?_ _) | (with_reducible refine Below.setCell ?_ ?_ _) | (with_reducible refine belowStep (by assumption) ?_ ?_) | (with_reducible exact Below.size (by assumption)) | go_size)))) ((HTD.out _ HW.out).2 _ HT.out))))
              go_wp2
              go_roundw
              case rel => exact ⟨i + 1, by omega, by go_num, by (repeat' (first | (with_reducible exact Below.refl _ _) | (with_reducible assumption) | (with_reducible refine Below.drew ?_) | (with_reducible refine belowDrewN ?_ _) | (with_reducible refine Below.alloc ?_ ?_ _) | (with_reducible refine Below.setCell ?_ ?_ _) | (with_reducible refine belowStep (by assumption) ?_ ?_) | (with_reducible exact Below.size (by assumption)) | go_size))⟩
              case measure => simp [intOf]; omega
            · obtain rfl : i = m := by omega
              have hbwr : Below w.heap.size w wr := hbw12.trans (hbr.mono (by have := hbw12.size; omega))
              go_wp2
              go_ret
              exact ⟨ret_bool (by simp; have := (HTD.out _ HW.out).1; omega), by (repeat' (first | (with_reducible exact Below.refl _ _) | (with_reducible assumption) | (with_reducible refine Below.drew ?_) | (with_reducible refine belowDrewN ?_ _) | (with_reducible refine Below.alloc ?_ ?_ _) | (with_reducible refine Below.setCell ?_ ?_ _) | (with_reducible refine belowStep (by assumption) ?_ ?_) | (with_reducible exact Below.size (by assumption)) | go_size))⟩

set_option maxRecDepth 100000 in
theorem FnGolombEnds_lifted (os : Os) (started : os.Started) (H : Type) (enc : TypeId × Value → H) :
    ReturnsInHanded {} Tryz.checked os 3 .any (Rows.fnGolombEndsSpec.pre6 enc Tryz.prog Tryz.f3 Rows.fnGolombEndsRow.domain false) (Rows.fnGolombEndsSpec.post enc Tryz.prog Tryz.f3 false true false false) := by
  refine returnsInHanded_of_change (C := Tryz.checked) own started (by kernel_rfl) Tryz.func3
    (ChangeSpec.witness6 (enc := enc) (C := Tryz.checked) false ⟨#[], #[.slice none 0 0, .slice none 0 0], []⟩ 8 (by kernel_rfl) (by kernel_rfl) (by kernel_rfl) (by kernel_rfl)) ?_
  intro W base args ds gs before hval0 hW hcnd _
  have hval : ∀ (j : Nat) t v, Tryz.f3.params[j]? = some t → args[j]? = some v → Value.okWide Tryz.prog W .any base t v := hval0
  have hW' := hW
  have hlt : ∀ p ∈ before, p.block < W.heap.size := fun p hp => hW'.lt p hp
  obtain ⟨p, q, hA0, hV, rfl, hfz, hnd⟩ := hW
  have hA : DataW.TrodAll enc Tryz.prog W 0 (fun _ => true) true Tryz.f3.params.toList args.toList ds p := hA0
  rw [Tryz.params3] at hA hval
  obtain ⟨v0, vs0, d0, ds0, p0, q0, hargs, rfl, rfl, h0, r0⟩ := trodAll_cons hA
  obtain ⟨v1, vs1, d1, ds1, p1, q1, rfl, rfl, rfl, h1, r1⟩ := trodAll_cons r0
  obtain ⟨rfl, rfl, rfl⟩ := trodAll_nil r1
  obtain rfl : args = #[v0, v1] := by cases args; simp_all
  obtain ⟨rfl, rfl⟩ := trodVars_none hV
  obtain ⟨Aa, ca, na, rfl, ha⟩ := open_bytes_reads Tryz.underlying22 Tryz.underlying5 (by kernel_rfl) (hval 0 22 v0 rfl rfl) h0 (fun y hy => hlt y (by simp [hy]))
  obtain ⟨Ab, cb, nb, rfl, hb⟩ := open_bytes_reads Tryz.underlying22 Tryz.underlying5 (by kernel_rfl) (hval 1 22 v1 rfl rfl) h1 (fun y hy => hlt y (by simp [hy]))
  refine (FnGolombEnds_walk W Aa ca na Ab cb nb ha hb).mono fun e W' ⟨he, hg⟩ => ?_
  subst he
  exact ⟨_, rfl, law_post laidOut (by rw [Tryz.params3]; intro t ht; simp only [List.mem_cons, List.not_mem_nil, or_false] at ht; rcases ht with rfl | rfl <;> exact ⟨by kernel_rfl, of_decide_eq_true (by kernel_rfl)⟩) (by kernel_rfl) Tryz.underlying4 rfl hW' rfl hg⟩

theorem FnGolombEnds_closed : joinedFacts Tryz.prog 3 Tryz.f3 Rows.fnGolombEndsSpec Rows.fnGolombEndsRow = true := by
  unfold joinedFacts
  rw [mayEnter_eq, lifts_eq, make_eq]
  kernel_rfl

theorem FnGolombEnds_holds : Rows.FnGolombEndsSaid :=
  OpenClaim.holds_of_wide 3 Tryz.f3 rfl rfl rfl rfl rfl rfl rfl ⟨rfl, rfl, rfl, rfl, rfl⟩ rfl rfl rfl rfl rfl (by kernel_rfl) Tryz.func3 FnGolombEnds_closed
    (of_decide_eq_true (by kernel_rfl)) (by unfold Func.isWrapper; first | (rw [if_pos (by decide +kernel)]; kernel_rfl) | (rw [if_neg (by decide +kernel)]; exact ⟨rfl, rfl⟩))
    (fun os started H enc _ => FnGolombEnds_lifted os started H enc)

end Go.Proofs.YtbjblkfibinenadGreat
