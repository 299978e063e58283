import Derived.Test.YtbjblkfibinenadGreatDoorPk20
import Derived.Test.YtbjblkfibinenadGreatDoorPk19
import Derived.Test.YtbjblkfibinenadGreatDoorPk16

/-
  The contract of the model's expansion by binary digits.
-/
namespace Go.Proofs.YtbjblkfibinenadGreatDoor
open Go.RowKit
theorem bxO_pro {n d : Int} (h : proB n d = false) : bxO n d = none := by unfold bxO pexO; rw [h]; rfl
theorem bxO_some {n d : Int} (hp : proB n d = true) : bxO n d = if expB (putAll [] (bL n d)) = true then some (putAll [] (bL n d)) else none := by
  have hf := bL_facts hp
  rw [putAll_srt hf.2.2.2]
  unfold bxO pexO biO
  rw [hp]
  rfl
theorem bxO_len (n d : Int) : ((bxO n d).getD []).length ≤ 24 := by
  unfold bxO pexO
  split
  · unfold biO
    cases hx : expB (srt (bL n d)) with
    | true => rw [exO_yes hx]; exact expB_len hx
    | false => rw [exO_no hx]; simp
  · simp
theorem half_half (m : Int) (i : Nat) : m / 2 ^ i / 2 = m / 2 ^ (i + 1) := by
  rw [Int.pow_succ, Int.ediv_ediv_of_nonneg (by have := pow_pos' i; omega)]
/-- the relation of both loops -/
def Hw (m0 e0 : Int) (i : Nat) (xs : List Int) : Prop := i ≤ 31 ∧ Hv m0 e0 (31 - i) (m0 / 2 ^ i) (e0 / 2 ^ i) xs
theorem Hw.more {m0 e0 : Int} {i : Nat} {xs : List Int} (h : Hw m0 e0 i xs) (hm : 0 < m0 / 2 ^ i) : Hw m0 e0 (i + 1) (if m0 / 2 ^ i % 2 = 1 then xs ++ [e0 / 2 ^ i] else xs) := by
  obtain ⟨j, hj, hn⟩ := h.2.more hm
  rw [half_half, half_half] at hn
  have : j = 31 - (i + 1) := by omega
  rw [this] at hn
  exact ⟨by omega, hn⟩
theorem half_mul {d P r : Int} {j J : Nat} (hP : P = 2 ^ J) (hr : r < P) (h0 : 0 ≤ r) (hm : 0 < r / 2 ^ j) : d * (P / 2 ^ j) = d * P / 2 ^ j := by
  have hpj := pow_pos' j
  rcases Nat.lt_or_ge J j with h | h
  · have h1 := pow_split (show J ≤ j by omega)
    have h2 := pow_pos' (j - J)
    have h3 : (2 : Int) ^ J * 1 ≤ 2 ^ J * 2 ^ (j - J) := Int.mul_le_mul_of_nonneg_left h2 (by have := pow_pos' J; omega)
    rw [Int.ediv_eq_zero_of_lt h0 (by omega)] at hm
    omega
  · have h1 := pow_split h
    have e1 : P = 2 ^ j * 2 ^ (J - j) := by rw [hP, h1]
    have e2 : d * P = 2 ^ j * (d * 2 ^ (J - j)) := by rw [e1]; grind
    rw [e2, Int.mul_ediv_cancel_left _ (by omega), e1, Int.mul_ediv_cancel_left _ (by omega)]
set_option maxRecDepth 100000 in
set_option maxHeartbeats 4000000 in
theorem spec_binaryExp_any (n d : Int) (w : World) : Calls Tryz.prog 36 #[.agg #[.int .i64 n, .int .i64 d]] w (RetRB ((bxO n d).getD []) (bxO n d).isSome w) := by
  cases h : proB n d with
  | false =>
    have E := Lib.hid (bxO_pro h)
    go_enter Tryz.func36, Tryz.ntmps36
    go_wp2_with (go_at_call 22; refine (meProper_any _ _ _).mono ?_; rintro e w1 ⟨rfl, hb1⟩; obtain ⟨hc1, hf1⟩ := bcellB hb1; have hz1 := hb1.size; (try simp only [World.size_alloc] at hc1 hf1 hz1); (try have hy1_r_0 : wr.heap.size < w1.heap.size := by omega); (try have hn1_r_0 : wr.heap.size ≠ w1.heap.size := by omega); (try have hm1_r_0 : w1.heap.size ≠ wr.heap.size := by omega); (try have hy1_r_1 : wr.heap.size + 1 < w1.heap.size := by omega); (try have hn1_r_1 : wr.heap.size + 1 ≠ w1.heap.size := by omega); (try have hm1_r_1 : w1.heap.size ≠ wr.heap.size + 1 := by omega); (try have hy1_r_2 : wr.heap.size + 1 + 1 < w1.heap.size := by omega); (try have hp1_r_1 : wr.heap.size < w1.heap.size + 1 := by omega); (try have hp1_r_2 : wr.heap.size < w1.heap.size + 1 + 1 := by omega); (try have hy1_0_0 : w.heap.size < w1.heap.size := by omega); (try have hn1_0_0 : w.heap.size ≠ w1.heap.size := by omega); (try have hm1_0_0 : w1.heap.size ≠ w.heap.size := by omega); (try have hy1_0_1 : w.heap.size + 1 < w1.heap.size := by omega); (try have hn1_0_1 : w.heap.size + 1 ≠ w1.heap.size := by omega); (try have hm1_0_1 : w1.heap.size ≠ w.heap.size + 1 := by omega); (try have hy1_0_2 : w.heap.size + 1 + 1 < w1.heap.size := by omega); (try have hp1_0_1 : w.heap.size < w1.heap.size + 1 := by omega); (try have hp1_0_2 : w.heap.size < w1.heap.size + 1 + 1 := by omega); (try have hg1_g1 : g1 < w1.heap.size := by omega); (try have hi1_g1 : g1 ≠ w1.heap.size := by omega); (try have hj1_g1 : w1.heap.size ≠ g1 := by omega); (try have hk1_g1 : g1 < w1.heap.size + 1 := by omega); (try have hg1_g2 : g2 < w1.heap.size := by omega); (try have hi1_g2 : g2 ≠ w1.heap.size := by omega); (try have hj1_g2 : w1.heap.size ≠ g2 := by omega); (try have hk1_g2 : g2 < w1.heap.size + 1 := by omega))
    go_ret2
    rw [E.out]
    exact ⟨none, 0, rfl, Reads.nil, by (repeat' (first | (with_reducible exact Below.refl _ _) | (with_reducible assumption) | (with_reducible refine Below.drew ?_) | (with_reducible refine belowDrewN ?_ _) | (with_reducible refine Below.alloc ?_ ?_ _) | (with_reducible refine Below.setCell ?_ ?_ _) | (with_reducible refine belowStep (by assumption) ?_ ?_) | (with_reducible exact Below.size (by assumption)) | go_size))⟩
  | true =>
    have E := Lib.hid (bxO_some h)
    obtain ⟨n1, n2, d1, d2, hnd, hg, hgc, hi⟩ := proB_bounds h
    obtain ⟨J, B⟩ := binS h
    have HP := Lib.hid fun (w : World) => meParts_any n d w h
    have EL : Hid (bL n d = hvL 31 (n * p2 d / d) (p2 d) ++ hvL 31 (n * p2 d % d) (d * p2 d)) := Lib.hid rfl
    have HB := Lib.hid B
    have N1 := B.N1
    have N2 := B.N2
    have s0 := B.s0
    have s1 := B.s1
    have r0 := B.r0
    have r1 := B.r1
    have hJ := B.J31
    have hdP := B.dN
    have HNJ := Lib.hid B.N
    have hdN := Int.mul_le_mul d2 (show p2 d ≤ 2000000000 by omega) (by omega) (by omega : (0 : Int) ≤ 1000000000)
    have hdN1 : 1 * p2 d ≤ d * p2 d := Int.mul_le_mul_of_nonneg_right (by omega) (by omega)
    have T0 := Lib.hid (TwoAt.new w n d 27)
    clear B hg hgc hi
    generalize n * p2 d / d = s at *
    generalize n * p2 d % d = r at *
    generalize hP : p2 d = P at *
    go_enter Tryz.func36, Tryz.ntmps36
    go_wp2_with fail
    refine (meProper_any _ _ _).mono ?_; rintro e w1 ⟨rfl, hb1⟩; obtain ⟨hc1, hf1⟩ := bcellB hb1; have hz1 := hb1.size; (try simp only [World.size_alloc] at hc1 hf1 hz1); (try have hy1_r_0 : wr.heap.size < w1.heap.size := by omega); (try have hn1_r_0 : wr.heap.size ≠ w1.heap.size := by omega); (try have hm1_r_0 : w1.heap.size ≠ wr.heap.size := by omega); (try have hy1_r_1 : wr.heap.size + 1 < w1.heap.size := by omega); (try have hn1_r_1 : wr.heap.size + 1 ≠ w1.heap.size := by omega); (try have hm1_r_1 : w1.heap.size ≠ wr.heap.size + 1 := by omega); (try have hy1_r_2 : wr.heap.size + 1 + 1 < w1.heap.size := by omega); (try have hp1_r_1 : wr.heap.size < w1.heap.size + 1 := by omega); (try have hp1_r_2 : wr.heap.size < w1.heap.size + 1 + 1 := by omega); (try have hy1_0_0 : w.heap.size < w1.heap.size := by omega); (try have hn1_0_0 : w.heap.size ≠ w1.heap.size := by omega); (try have hm1_0_0 : w1.heap.size ≠ w.heap.size := by omega); (try have hy1_0_1 : w.heap.size + 1 < w1.heap.size := by omega); (try have hn1_0_1 : w.heap.size + 1 ≠ w1.heap.size := by omega); (try have hm1_0_1 : w1.heap.size ≠ w.heap.size + 1 := by omega); (try have hy1_0_2 : w.heap.size + 1 + 1 < w1.heap.size := by omega); (try have hp1_0_1 : w.heap.size < w1.heap.size + 1 := by omega); (try have hp1_0_2 : w.heap.size < w1.heap.size + 1 + 1 := by omega); (try have hg1_g1 : g1 < w1.heap.size := by omega); (try have hi1_g1 : g1 ≠ w1.heap.size := by omega); (try have hj1_g1 : w1.heap.size ≠ g1 := by omega); (try have hk1_g1 : g1 < w1.heap.size + 1 := by omega); (try have hg1_g2 : g2 < w1.heap.size := by omega); (try have hi1_g2 : g2 ≠ w1.heap.size := by omega); (try have hj1_g2 : w1.heap.size ≠ g2 := by omega); (try have hk1_g2 : g2 < w1.heap.size + 1 := by omega)
    rw [h]
    go_wp2_with fail
    refine (HP.out _).mono ?_; rintro e w2 ⟨rfl, hb2⟩; obtain ⟨hc2, hf2⟩ := bcellB hb2; have hz2 := hb2.size; (try simp only [World.size_alloc, World.size_setCell, World.size_drew, World.heap_drewN] at hc2 hf2 hz2); (try have hy2_r_0 : wr.heap.size < w2.heap.size := by omega); (try have hn2_r_0 : wr.heap.size ≠ w2.heap.size := by omega); (try have hm2_r_0 : w2.heap.size ≠ wr.heap.size := by omega); (try have hy2_r_1 : wr.heap.size + 1 < w2.heap.size := by omega); (try have hn2_r_1 : wr.heap.size + 1 ≠ w2.heap.size := by omega); (try have hm2_r_1 : w2.heap.size ≠ wr.heap.size + 1 := by omega); (try have hy2_r_2 : wr.heap.size + 1 + 1 < w2.heap.size := by omega); (try have hp2_r_1 : wr.heap.size < w2.heap.size + 1 := by omega); (try have hp2_r_2 : wr.heap.size < w2.heap.size + 1 + 1 := by omega); (try have hy2_0_0 : w.heap.size < w2.heap.size := by omega); (try have hn2_0_0 : w.heap.size ≠ w2.heap.size := by omega); (try have hm2_0_0 : w2.heap.size ≠ w.heap.size := by omega); (try have hy2_0_1 : w.heap.size + 1 < w2.heap.size := by omega); (try have hn2_0_1 : w.heap.size + 1 ≠ w2.heap.size := by omega); (try have hm2_0_1 : w2.heap.size ≠ w.heap.size + 1 := by omega); (try have hy2_0_2 : w.heap.size + 1 + 1 < w2.heap.size := by omega); (try have hp2_0_1 : w.heap.size < w2.heap.size + 1 := by omega); (try have hp2_0_2 : w.heap.size < w2.heap.size + 1 + 1 := by omega); (try have hy2_1_0 : w1.heap.size < w2.heap.size := by omega); (try have hn2_1_0 : w1.heap.size ≠ w2.heap.size := by omega); (try have hm2_1_0 : w2.heap.size ≠ w1.heap.size := by omega); (try have hy2_1_1 : w1.heap.size + 1 < w2.heap.size := by omega); (try have hn2_1_1 : w1.heap.size + 1 ≠ w2.heap.size := by omega); (try have hm2_1_1 : w2.heap.size ≠ w1.heap.size + 1 := by omega); (try have hy2_1_2 : w1.heap.size + 1 + 1 < w2.heap.size := by omega); (try have hp2_1_1 : w1.heap.size < w2.heap.size + 1 := by omega); (try have hp2_1_2 : w1.heap.size < w2.heap.size + 1 + 1 := by omega); (try have hg2_g1 : g1 < w2.heap.size := by omega); (try have hi2_g1 : g1 ≠ w2.heap.size := by omega); (try have hj2_g1 : w2.heap.size ≠ g1 := by omega); (try have hk2_g1 : g1 < w2.heap.size + 1 := by omega); (try have hg2_g2 : g2 < w2.heap.size := by omega); (try have hi2_g2 : g2 ≠ w2.heap.size := by omega); (try have hj2_g2 : w2.heap.size ≠ g2 := by omega); (try have hk2_g2 : g2 < w2.heap.size + 1 := by omega)
    have T2 := Lib.hid ((T0.out.below hb1).below hb2)
    go_wp2
    go_loopw [7, 8] (fun v7 v8 wr => ∃ (i : Nat) (xs : List Int) (A : Option Addr) (c : Nat), v8 = .int .i64 (i : Int) ∧ v7 = .slice A (putAll [] xs).length c ∧ Hw s P i xs ∧ OwnI wr w2.heap.size (.slice A (putAll [] xs).length c) (putAll [] xs) ∧ Below w2.heap.size w2 wr) (fun _ v8 _ => 32 - (intOf v8).toNat)
    case atStart => exact ⟨0, [], none, 0, rfl, rfl, ⟨by omega, by simpa using s0, by simp; omega, by omega, by simp; omega, by simp; omega, by simp, by simp⟩, OwnI.empty _ _, by (repeat' (first | (with_reducible exact Below.refl _ _) | (with_reducible assumption) | (with_reducible refine Below.drew ?_) | (with_reducible refine belowDrewN ?_ _) | (with_reducible refine Below.alloc ?_ ?_ _) | (with_reducible refine Below.setCell ?_ ?_ _) | (with_reducible refine belowStep (by assumption) ?_ ?_) | (with_reducible exact Below.size (by assumption)) | go_size))⟩
    case round =>
      obtain ⟨i, xs, A, c, rfl, rfl, hw, ho, hbr⟩ := hrel
      have hzr := hbr.size
      have Ho := Lib.hid ho
      have HW := Lib.hid hw
      have hi31 := hw.1
      have hlen := putAll_len xs []
      simp only [List.length_nil] at hlen
      have hxl := hw.2.2.2.2.2.2.1
      clear ho hw
      by_cases hm : 0 < s / 2 ^ i
      · have HM := HW.out.more hm
        by_cases ho : s / 2 ^ i % 2 = 1
        · rw [if_pos ho] at HM
          have HM := Lib.hid HM
          have hod : (s / 2 ^ i % 2 == 1) = true := by simp [ho]
          have hs := putAll_snoc xs (P / 2 ^ i) []
          have Hs := Lib.hid hs
          clear hs
          go_wp2_with fail
          refine (l1Put_own _ (P / 2 ^ i) w2.heap.size A c (putAll [] xs) (Ho.out.below (by (repeat' (first | (with_reducible exact Below.refl _ _) | (with_reducible assumption) | (with_reducible refine Below.drew ?_) | (with_reducible refine belowDrewN ?_ _) | (with_reducible refine Below.alloc ?_ ?_ _) | (with_reducible refine Below.setCell ?_ ?_ _) | (with_reducible refine belowStep (by assumption) ?_ ?_) | (with_reducible exact Below.size (by assumption)) | go_size)))) (by omega) (by (first | (go_size; done) | ((try simp only [World.size_alloc, World.size_setCell, World.size_drew, World.heap_drewN]); omega)))).mono ?_; rintro e w3 ⟨v3, rfl, ho3, hb3⟩
          rw [← Hs.out] at ho3
          obtain ⟨A3, c3, rfl, hr3⟩ := ho3.form
          have hz3 := hb3.size
          go_wp2
          go_roundw
          case rel => exact ⟨i + 1, _, A3, c3, by go_num, rfl, HM.out, ho3, by (repeat' (first | (with_reducible exact Below.refl _ _) | (with_reducible assumption) | (with_reducible refine Below.drew ?_) | (with_reducible refine belowDrewN ?_ _) | (with_reducible refine Below.alloc ?_ ?_ _) | (with_reducible refine Below.setCell ?_ ?_ _) | (with_reducible refine belowStep (by assumption) ?_ ?_) | (with_reducible exact Below.size (by assumption)) | go_size))⟩
          case measure => simp [intOf]; omega
        · rw [if_neg ho] at HM
          have HM := Lib.hid HM
          have hod : (s / 2 ^ i % 2 == 1) = false := by simp [ho]
          go_wp2
          go_roundw
          case rel => exact ⟨i + 1, xs, A, c, by go_num, rfl, HM.out, Ho.out, by (repeat' (first | (with_reducible exact Below.refl _ _) | (with_reducible assumption) | (with_reducible refine Below.drew ?_) | (with_reducible refine belowDrewN ?_ _) | (with_reducible refine Below.alloc ?_ ?_ _) | (with_reducible refine Below.setCell ?_ ?_ _) | (with_reducible refine belowStep (by assumption) ?_ ?_) | (with_reducible exact Below.size (by assumption)) | go_size))⟩
          case measure => simp [intOf]; omega
      · have EX := Lib.hid (HW.out.2.last hm)
        have hb2r : Below w.heap.size w wr := by (repeat' (first | (with_reducible exact Below.refl _ _) | (with_reducible assumption) | (with_reducible refine Below.drew ?_) | (with_reducible refine belowDrewN ?_ _) | (with_reducible refine Below.alloc ?_ ?_ _) | (with_reducible refine Below.setCell ?_ ?_ _) | (with_reducible refine belowStep (by assumption) ?_ ?_) | (with_reducible exact Below.size (by assumption)) | go_size))
        have TR := Lib.hid (T2.out.below hbr)
        clear HW
        go_wp2
        go_loopw [7, 9] (fun v7 v9 wq => ∃ (j : Nat) (ys : List Int) (A : Option Addr) (c : Nat), v9 = .int .i64 (j : Int) ∧ v7 = .slice A (putAll [] (xs ++ ys)).length c ∧ Hw r (d * P) j ys ∧ OwnI wq w2.heap.size (.slice A (putAll [] (xs ++ ys)).length c) (putAll [] (xs ++ ys)) ∧ Below wr.heap.size wr wq) (fun _ v9 _ => 32 - (intOf v9).toNat)
        case atStart => exact ⟨0, [], A, c, rfl, by rw [List.append_nil], ⟨by omega, by simpa using r0, by simp; omega, by omega, by simp; omega, by simp; omega, by simp, by simp⟩, by rw [List.append_nil]; exact Ho.out, by (repeat' (first | (with_reducible exact Below.refl _ _) | (with_reducible assumption) | (with_reducible refine Below.drew ?_) | (with_reducible refine belowDrewN ?_ _) | (with_reducible refine Below.alloc ?_ ?_ _) | (with_reducible refine Below.setCell ?_ ?_ _) | (with_reducible refine belowStep (by assumption) ?_ ?_) | (with_reducible exact Below.size (by assumption)) | go_size))⟩
        case round =>
          obtain ⟨j, ys, A, c, rfl, rfl, hw, ho, hbq⟩ := hrel
          have hzq := hbq.size
          have Ho := Lib.hid ho
          have HW := Lib.hid hw
          have hj31 := hw.1
          have hlen := putAll_len (xs ++ ys) []
          have hyl := hw.2.2.2.2.2.2.1
          rw [List.length_append] at hlen
          simp only [List.length_nil] at hlen
          obtain ⟨q1, q2, q3, q4, q5⟩ := TR.out.below hbq
          clear ho hw
          by_cases hm : 0 < r / 2 ^ j
          · have HM := HW.out.more hm
            by_cases ho : r / 2 ^ j % 2 = 1
            · rw [if_pos ho] at HM
              have HM := Lib.hid HM
              have hod : (r / 2 ^ j % 2 == 1) = true := by simp [ho]
              have hmul := half_mul (d := d) HNJ.out (by omega : r < P) r0 hm
              have hpj := pow_pos' j
              have hq0 : 0 ≤ P / 2 ^ j := Int.ediv_nonneg (by omega) (by omega)
              have hq1 : P / 2 ^ j ≤ P := Int.ediv_le_self _ (by omega)
              have hdm := mul_bounds (a := d) (b := P / 2 ^ j) (by omega) d2 hq0
              have HWR : Hid (IntKind.i64.wrap (d * (P / 2 ^ j)) = d * P / 2 ^ j) := Lib.hid (by
                have h9 := Int.mul_le_mul_of_nonneg_left hq1 (show 0 ≤ d by omega)
                have h8 := Int.mul_nonneg (show 0 ≤ d by omega) hq0
                rw [IntWalk.i64_in _ (by omega)]
                exact hmul)
              have hs := putAll_snoc (xs ++ ys) (d * P / 2 ^ j) []
              rw [List.append_assoc] at hs
              have Hs := Lib.hid hs
              clear hs hmul
              go_wp2_with fail
              go_region_held3 (fun w' => w'.cell? ⟨w.heap.size, 0, none⟩ = some (.int .i64 n) ∧ w'.cell? ⟨w.heap.size, 1, none⟩ = some (.int .i64 d)) (first | exact ⟨q1, q2⟩ | go_keep) (first | (go_at_call 63; refine (l1Put_own _ _ w2.heap.size A c (putAll [] (xs ++ ys)) (Ho.out.below (by (repeat' (first | (with_reducible exact Below.refl _ _) | (with_reducible assumption) | (with_reducible refine Below.drew ?_) | (with_reducible refine belowDrewN ?_ _) | (with_reducible refine Below.alloc ?_ ?_ _) | (with_reducible refine Below.setCell ?_ ?_ _) | (with_reducible refine belowStep (by assumption) ?_ ?_) | (with_reducible exact Below.size (by assumption)) | go_size)))) (by omega) (by (first | (go_size; done) | ((try simp only [World.size_alloc, World.size_setCell, World.size_drew, World.heap_drewN]); omega)))).mono ?_; rintro e w3 ⟨v3, rfl, ho3, hb3⟩; obtain ⟨hc3, hf3⟩ := bcellB hb3; have hz3 := hb3.size; (try simp only [World.size_drew] at hc3 hf3 hz3); (try have hy3_00 : w.heap.size < w3.heap.size := by omega); (try have hn3_00 : w.heap.size ≠ w3.heap.size := by omega); (try have hm3_00 : w3.heap.size ≠ w.heap.size := by omega); (try have hp3_00 : w.heap.size < w3.heap.size + 1 := by omega); (try have hy3_01 : w.heap.size + 1 < w3.heap.size := by omega); (try have hn3_01 : w.heap.size + 1 ≠ w3.heap.size := by omega); (try have hm3_01 : w3.heap.size ≠ w.heap.size + 1 := by omega); (try have hp3_01 : w.heap.size + 1 < w3.heap.size + 1 := by omega); (try have hy3_10 : w2.heap.size < w3.heap.size := by omega); (try have hn3_10 : w2.heap.size ≠ w3.heap.size := by omega); (try have hm3_10 : w3.heap.size ≠ w2.heap.size := by omega); (try have hp3_10 : w2.heap.size < w3.heap.size + 1 := by omega); (try have hy3_11 : w2.heap.size + 1 < w3.heap.size := by omega); (try have hn3_11 : w2.heap.size + 1 ≠ w3.heap.size := by omega); (try have hm3_11 : w3.heap.size ≠ w2.heap.size + 1 := by omega); (try have hp3_11 : w2.heap.size + 1 < w3.heap.size + 1 := by omega); (try have hy3_20 : wr.heap.size < w3.heap.size := by omega); (try have hn3_20 : wr.heap.size ≠ w3.heap.size := by omega); (try have hm3_20 : w3.heap.size ≠ wr.heap.size := by omega); (try have hp3_20 : wr.heap.size < w3.heap.size + 1 := by omega); (try have hy3_21 : wr.heap.size + 1 < w3.heap.size := by omega); (try have hn3_21 : wr.heap.size + 1 ≠ w3.heap.size := by omega); (try have hm3_21 : w3.heap.size ≠ wr.heap.size + 1 := by omega); (try have hp3_21 : wr.heap.size + 1 < w3.heap.size + 1 := by omega); (try have hy3_30 : wq.heap.size < w3.heap.size := by omega); (try have hn3_30 : wq.heap.size ≠ w3.heap.size := by omega); (try have hm3_30 : w3.heap.size ≠ wq.heap.size := by omega); (try have hp3_30 : wq.heap.size < w3.heap.size + 1 := by omega); (try have hy3_31 : wq.heap.size + 1 < w3.heap.size := by omega); (try have hn3_31 : wq.heap.size + 1 ≠ w3.heap.size := by omega); (try have hm3_31 : w3.heap.size ≠ wq.heap.size + 1 := by omega); (try have hp3_31 : wq.heap.size + 1 < w3.heap.size + 1 := by omega)))
              all_goals
                rw [HWR.out, ← Hs.out] at ho3
                obtain ⟨A3, c3, rfl, hr3⟩ := ho3.form
                go_wp2
                go_roundw
                case rel => exact ⟨j + 1, _, A3, c3, by go_num, rfl, HM.out, ho3, by (repeat' (first | (with_reducible exact Below.refl _ _) | (with_reducible assumption) | (with_reducible refine Below.drew ?_) | (with_reducible refine belowDrewN ?_ _) | (with_reducible refine Below.alloc ?_ ?_ _) | (with_reducible refine Below.setCell ?_ ?_ _) | (with_reducible refine belowStep (by assumption) ?_ ?_) | (with_reducible exact Below.size (by assumption)) | go_size))⟩
                case measure => simp [intOf]; omega
            · rw [if_neg ho] at HM
              have HM := Lib.hid HM
              have hod : (r / 2 ^ j % 2 == 1) = false := by simp [ho]
              go_wp2
              go_roundw
              case rel => exact ⟨j + 1, ys, A, c, by go_num, rfl, HM.out, Ho.out, by (repeat' (first | (with_reducible exact Below.refl _ _) | (with_reducible assumption) | (with_reducible refine Below.drew ?_) | (with_reducible refine belowDrewN ?_ _) | (with_reducible refine Below.alloc ?_ ?_ _) | (with_reducible refine Below.setCell ?_ ?_ _) | (with_reducible refine belowStep (by assumption) ?_ ?_) | (with_reducible exact Below.size (by assumption)) | go_size))⟩
              case measure => simp [intOf]; omega
          · have EY := Lib.hid (HW.out.2.last hm)
            have EB : Hid (bL n d = xs ++ ys) := Lib.hid (by rw [EL.out, EX.out, EY.out])
            rw [EB.out] at E
            obtain ⟨Aq, cq, eq1, hr⟩ := Ho.out.form
            injection eq1 with eq2 eq3 eq4
            subst eq2
            have Hr := Lib.hid hr
            clear hr HW
            generalize putAll [] (xs ++ ys) = zs at *
            cases hx : expB zs with
            | true =>
              rw [hx] at E
              go_wp2_with fail
              refine (unList_yes _ A _ zs Hr.out (by omega) hx).mono ?_; rintro e w5 ⟨rfl, hb5⟩
              have hz5 := hb5.size
              go_wp2
              go_ret2
              rw [E.out]
              exact ⟨_, _, rfl, Hr.out.below hb5, by (repeat' (first | (with_reducible exact Below.refl _ _) | (with_reducible assumption) | (with_reducible refine Below.drew ?_) | (with_reducible refine belowDrewN ?_ _) | (with_reducible refine Below.alloc ?_ ?_ _) | (with_reducible refine Below.setCell ?_ ?_ _) | (with_reducible refine belowStep (by assumption) ?_ ?_) | (with_reducible exact Below.size (by assumption)) | go_size))⟩
            | false =>
              rw [hx] at E
              go_wp2_with fail
              refine (unList_no _ A _ zs Hr.out (by omega) hx).mono ?_; rintro e w5 ⟨rfl, hb5⟩
              have hz5 := hb5.size
              go_wp2
              go_ret2
              rw [E.out]
              exact ⟨none, 0, rfl, Reads.nil, by (repeat' (first | (with_reducible exact Below.refl _ _) | (with_reducible assumption) | (with_reducible refine Below.drew ?_) | (with_reducible refine belowDrewN ?_ _) | (with_reducible refine Below.alloc ?_ ?_ _) | (with_reducible refine Below.setCell ?_ ?_ _) | (with_reducible refine belowStep (by assumption) ?_ ?_) | (with_reducible exact Below.size (by assumption)) | go_size))⟩
end Go.Proofs.YtbjblkfibinenadGreatDoor


/-
  Contracts of factorials, and of the powers of 2 and the parts that the method by binary digits begins with.
-/
namespace Go.Proofs.YtbjblkfibinenadGreatDoor
open Go.RowKit
theorem fac_in {n : Nat} (h : n ≤ 12) : 1 ≤ fac n ∧ fac n ≤ 479001600 := ⟨fac_pos n, fac_le h⟩
set_option maxHeartbeats 1000000 in
theorem factorialOf_any (n : Nat) (w : World) (hn : n ≤ 12) : Calls Tryz.prog 139 #[.int .i64 (n : Int)] w (RetQ (.int .i64 (fac n)) w) := by
  go_enter Tryz.func139, Tryz.ntmps139
  go_wp2
  go_loopw [3, 4] (fun v3 v4 wr => ∃ i : Nat, v4 = .int .i64 ((i : Int) + 2) ∧ ((i + 1 ≤ n ∨ i = 0) ∧ v3 = .int .i64 (fac (i + 1))) ∧ ∃ m, wr = w.drewN m) (fun _ v4 _ => n + 2 - (intOf v4).toNat)
  case atStart => exact ⟨0, rfl, ⟨.inr rfl, rfl⟩, 0, rfl⟩
  case round =>
    obtain ⟨i, rfl, hc, m, rfl⟩ := hrel
    obtain ⟨hi, rfl⟩ := hc
    have hle := fac_in (n := i + 1) (by omega)
    by_cases hlt : i + 2 ≤ n
    · have hlt' : (i : Int) + 2 ≤ (n : Int) := by omega
      have hs : fac (i + 1) * ((i : Int) + 2) = fac (i + 1 + 1) := by
        show _ = fac (i + 1) * ((i + 1 + 1 : Nat) : Int)
        congr 1
      have hle2 := fac_in (n := i + 1 + 1) (by omega)
      rw [← hs] at hle2
      have Hs := Lib.hid hs
      clear hs
      go_wp2
      go_roundw
      case rel => exact ⟨i + 1, by go_num, ⟨.inl (by omega), by rw [Hs.out]⟩, m, rfl⟩
      case measure => simp [intOf]; omega
    · have hlt' : ¬ (i : Int) + 2 ≤ (n : Int) := by omega
      have E : Hid (fac n = fac (i + 1)) := Lib.hid (by
        rcases hi with h1 | h1
        · rw [show n = i + 1 from by omega]
        · subst h1
          match n, hlt with
          | 0, _ => rfl
          | 1, _ => rfl
          | k + 2, h => omega)
      go_wp2
      go_ret
      exact ⟨ret_int E.out.symm, m, rfl⟩
set_option maxHeartbeats 1000000 in
theorem meFactorial_any (n : Nat) (w : World) (hn : n ≤ 12) : Calls Tryz.prog 66 #[.int .i64 (n : Int)] w (RetQ (.int .i64 (fac n)) w) := by
  go_enter Tryz.func66, Tryz.ntmps66
  go_wp2
  go_loopw [3, 4] (fun v3 v4 wr => ∃ i : Nat, v4 = .int .i64 ((i : Int) + 2) ∧ ((i + 1 ≤ n ∨ i = 0) ∧ v3 = .int .i64 (fac (i + 1))) ∧ ∃ m, wr = w.drewN m) (fun _ v4 _ => n + 2 - (intOf v4).toNat)
  case atStart => exact ⟨0, rfl, ⟨.inr rfl, rfl⟩, 0, rfl⟩
  case round =>
    obtain ⟨i, rfl, hc, m, rfl⟩ := hrel
    obtain ⟨hi, rfl⟩ := hc
    have hle := fac_in (n := i + 1) (by omega)
    by_cases hlt : i + 2 ≤ n
    · have hlt' : (i : Int) + 2 ≤ (n : Int) := by omega
      have hs : fac (i + 1) * ((i : Int) + 2) = fac (i + 1 + 1) := by
        show _ = fac (i + 1) * ((i + 1 + 1 : Nat) : Int)
        congr 1
      have hle2 := fac_in (n := i + 1 + 1) (by omega)
      rw [← hs] at hle2
      have Hs := Lib.hid hs
      clear hs
      go_wp2
      go_roundw
      case rel => exact ⟨i + 1, by go_num, ⟨.inl (by omega), by rw [Hs.out]⟩, m, rfl⟩
      case measure => simp [intOf]; omega
    · have hlt' : ¬ (i : Int) + 2 ≤ (n : Int) := by omega
      have E : Hid (fac n = fac (i + 1)) := Lib.hid (by
        rcases hi with h1 | h1
        · rw [show n = i + 1 from by omega]
        · subst h1
          match n, hlt with
          | 0, _ => rfl
          | 1, _ => rfl
          | k + 2, h => omega)
      go_wp2
      go_ret
      exact ⟨ret_int E.out.symm, m, rfl⟩
theorem lfR_yes {d : Int} (h : 1 ≤ d) : lfR d = leastF d ∧ lfB d = decide (leastF d ≠ 0) := by
  have hb : lfB d = decide (leastF d ≠ 0) := by rw [lfB, decide_eq_true h, Bool.true_and]
  refine ⟨?_, hb⟩
  rw [lfR, hb]
  by_cases h0 : leastF d = 0
  · rw [h0]; rfl
  · rw [if_pos (by simp [h0])]
set_option maxHeartbeats 2000000 in
theorem leastFactorial_any (d : Int) (w : World) (rd : -9223372036854775808 ≤ d ∧ d ≤ 9223372036854775807) : Calls Tryz.prog 140 #[.int .i64 d] w (RetQ (.tuple #[.int .i64 (lfR d), .bool (lfB d)]) w) := by
  by_cases hd : 1 ≤ d
  · obtain ⟨e1, e2⟩ := lfR_yes hd
    have E1 := Lib.hid e1
    have E2 := Lib.hid e2
    clear e1 e2
    go_enter Tryz.func140, Tryz.ntmps140
    go_wp2
    go_loopw [4] (fun v4 wr => ∃ n k : Nat, n + k = 13 ∧ 1 ≤ n ∧ v4 = .int .i64 (n : Int) ∧ leastF d = lfG d k n ∧ ∃ m, wr = w.drewN m) (fun v4 _ => 13 - (intOf v4).toNat)
    case atStart => exact ⟨1, 12, rfl, by omega, rfl, rfl, 0, rfl⟩
    case round =>
      obtain ⟨n, k, hk, hn1, rfl, hl, m, rfl⟩ := hrel
      have Hl := Lib.hid hl
      clear hl
      by_cases hlt : n ≤ 12
      · obtain ⟨k, rfl⟩ : ∃ j, k = j + 1 := ⟨k - 1, by omega⟩
        obtain ⟨f1, f2⟩ := fac_in hlt
        have hne : d ≠ 0 := by omega
        have HF := Lib.hid fun (w : World) => factorialOf_any n w hlt
        by_cases hm : fac n % d = 0
        · have E : Hid (leastF d = n) := Lib.hid (by rw [Hl.out, lfG_yes hm])
          have hmt : (fac n).tmod d = 0 := by rw [Int.tmod_eq_emod_of_nonneg (by omega)]; exact hm
          have hb1 : (fac n % d == 0) = true := by simp [hm]
          have hb2 : ((fac n).tmod d == 0) = true := by simp [hmt]
          go_wp2_with fail
          refine (HF.out _).mono ?_; rintro e w1 ⟨rfl, k1, rfl⟩
          go_wp2
          go_ret2
          exact ⟨ret_ib (by rw [E1.out, E.out]) (by rw [E2.out, E.out]; simp; omega), _, rfl⟩
        · have Hl2 : Hid (leastF d = lfG d k (n + 1)) := Lib.hid (by rw [Hl.out, lfG_no hm])
          have hmt : (fac n).tmod d ≠ 0 := by rw [Int.tmod_eq_emod_of_nonneg (by omega)]; exact hm
          have hb1 : (fac n % d == 0) = false := by simp [hm]
          have hb2 : ((fac n).tmod d == 0) = false := by simp [hmt]
          go_wp2_with fail
          refine (HF.out _).mono ?_; rintro e w1 ⟨rfl, k1, rfl⟩
          go_wp2
          go_roundw
          case rel => exact ⟨n + 1, k, by omega, by omega, by go_num, Hl2.out, _, rfl⟩
          case measure => simp [intOf]; omega
      · obtain rfl : n = 13 := by omega
        obtain rfl : k = 0 := by omega
        have E : Hid (leastF d = 0) := Lib.hid Hl.out
        go_wp2
        go_ret2
        exact ⟨ret_ib (by rw [E1.out, E.out]) (by rw [E2.out, E.out]; rfl), _, rfl⟩
  · have hb : lfB d = false := by rw [lfB, decide_eq_false hd]; rfl
    have E : Hid (lfR d = 0 ∧ lfB d = false) := Lib.hid ⟨by rw [lfR, hb]; rfl, hb⟩
    clear hb
    go_enter Tryz.func140, Tryz.ntmps140
    go_wp2
    go_ret2
    exact ⟨ret_ib E.out.1.symm E.out.2.symm, 0, rfl⟩
set_option maxHeartbeats 2000000 in
theorem meLeast_any (d : Int) (w : World) (hd : 1 ≤ d) : Calls Tryz.prog 64 #[.int .i64 d] w (RetQ (.int .i64 (leastF d)) w) := by
  go_enter Tryz.func64, Tryz.ntmps64
  go_wp2
  go_loopw [3] (fun v4 wr => ∃ n k : Nat, n + k = 13 ∧ 1 ≤ n ∧ v4 = .int .i64 (n : Int) ∧ leastF d = lfG d k n ∧ ∃ m, wr = w.drewN m) (fun v4 _ => 13 - (intOf v4).toNat)
  case atStart => exact ⟨1, 12, rfl, by omega, rfl, rfl, 0, rfl⟩
  case round =>
    obtain ⟨n, k, hk, hn1, rfl, hl, m, rfl⟩ := hrel
    have Hl := Lib.hid hl
    clear hl
    by_cases hlt : n ≤ 12
    · obtain ⟨k, rfl⟩ : ∃ j, k = j + 1 := ⟨k - 1, by omega⟩
      obtain ⟨f1, f2⟩ := fac_in hlt
      have hne : d ≠ 0 := by omega
      have HF := Lib.hid fun (w : World) => meFactorial_any n w hlt
      by_cases hm : fac n % d = 0
      · have E : Hid (leastF d = n) := Lib.hid (by rw [Hl.out, lfG_yes hm])
        have hmt : (fac n).tmod d = 0 := by rw [Int.tmod_eq_emod_of_nonneg (by omega)]; exact hm
        have hb1 : (fac n % d == 0) = true := by simp [hm]
        have hb2 : ((fac n).tmod d == 0) = true := by simp [hmt]
        go_wp2_with fail
        refine (HF.out _).mono ?_; rintro e w1 ⟨rfl, k1, rfl⟩
        go_wp2
        go_ret
        exact ⟨ret_int (by rw [E.out]), _, rfl⟩
      · have Hl2 : Hid (leastF d = lfG d k (n + 1)) := Lib.hid (by rw [Hl.out, lfG_no hm])
        have hmt : (fac n).tmod d ≠ 0 := by rw [Int.tmod_eq_emod_of_nonneg (by omega)]; exact hm
        have hb1 : (fac n % d == 0) = false := by simp [hm]
        have hb2 : ((fac n).tmod d == 0) = false := by simp [hmt]
        go_wp2_with fail
        refine (HF.out _).mono ?_; rintro e w1 ⟨rfl, k1, rfl⟩
        go_wp2
        go_roundw
        case rel => exact ⟨n + 1, k, by omega, by omega, by go_num, Hl2.out, _, rfl⟩
        case measure => simp [intOf]; omega
    · obtain rfl : n = 13 := by omega
      obtain rfl : k = 0 := by omega
      have E : Hid (leastF d = 0) := Lib.hid Hl.out
      go_wp2
      go_ret
      exact ⟨ret_int (by rw [E.out]), _, rfl⟩
end Go.Proofs.YtbjblkfibinenadGreatDoor
