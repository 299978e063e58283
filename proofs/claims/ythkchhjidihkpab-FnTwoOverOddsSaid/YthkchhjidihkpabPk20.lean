import Derived.Test.YthkchhjidihkpabPk19

/-
  The best base of two parts of an odd number, in the model.
-/
namespace Go.Proofs.Ythkchhjidihkpab
open Go.RowKit
set_option maxRecDepth 100000 in
set_option maxHeartbeats 8000000 in
theorem scBase_any (n : Int) (w : World) (ho : oddB n = true) : Calls Try.prog 54 #[.int .i64 n] w (Ret (.int .i64 ((baO n).getD 0)) w) := by
  obtain ⟨h1, h2, h3⟩ := (oddB_iff n).1 ho
  obtain ⟨N, rfl⟩ := Int.eq_ofNat_of_zero_le (show 0 ≤ n by omega)
  have E : Hid (baO (N : Int) = (bsF (N : Int) (N / 2)).map (·.1)) := Lib.hid (by
    unfold baO bsA
    rw [if_pos ho, show ((N : Int) - 1 - (N : Int) / 2).toNat = N / 2 from by omega])
  have ht3 : (N : Int) / 2 = ((N / 2 : Nat) : Int) := by omega
  have ht : ((N : Int) + 1).tdiv 2 = ((N / 2 : Nat) : Int) + 1 := by rw [Int.tdiv_eq_ediv_of_nonneg (by omega)]; omega
  obtain ⟨h, hh⟩ : ∃ h, h = N / 2 := ⟨_, rfl⟩
  rw [← hh] at ht ht3 E
  have hN1 : N ≤ 2 * h + 1 := by omega
  have hN2 : 2 * h + 1 ≤ N := by omega
  have HB := Lib.hid fun (w : World) (m : Int) (m1 : 1 ≤ m) (m2 : m ≤ 201) (hs : 0 ≤ 2 * m - (N : Int)) => scTwo_any (N : Int) m w (by omega) h2 m1 m2 hs
  have HNX : Hid (∀ k, bsF (N : Int) (k + 1) = bsStep (N : Int) (bsF (N : Int) k) ((h : Int) + 1 + (k : Int))) := Lib.hid fun k => by rw [bsF_next, ht3]
  have HSY : Hid (∀ k p, bsF (N : Int) k = some p → toO (N : Int) p.1 = some p.2 ∧ 1 ≤ p.1 ∧ p.1 ≤ (h : Int) + 1 + k) := Lib.hid fun k p hp => by
    obtain ⟨a, b, c⟩ := bsF_says hp
    exact ⟨a, by omega, by omega⟩
  clear hh h3 ho ht3
  go_enter Try.func54, Try.ntmps54
  go_wp2
  go_loopw [3, 4, 5] (fun v3 v4 v5 wr => ∃ k : Nat, k ≤ h ∧ v5 = .int .i64 ((h : Int) + 1 + (k : Int)) ∧ BsAt (bsF (N : Int) k) wr v3 v4 ∧ Below w.heap.size w wr) (fun _ _ v5 _ => (2 * h + 1) - (intOf v5).toNat)
  case atStart => exact ⟨0, Nat.zero_le _, by simp, ⟨rfl, rfl⟩, by (repeat' (first | (with_reducible exact Below.refl _ _) | (with_reducible assumption) | (with_reducible refine Below.drew ?_) | (with_reducible refine belowDrewN ?_ _) | (with_reducible refine Below.alloc ?_ ?_ _) | (with_reducible refine Below.setCell ?_ ?_ _) | (with_reducible refine belowStep (by assumption) ?_ ?_) | (with_reducible exact Below.size (by assumption)) | go_size))⟩
  case round =>
    obtain ⟨k, hk, rfl, hst, hbr⟩ := hrel
    have hzr := hbr.size
    by_cases hlt : k < h
    · have hlt2 : (h : Int) + 1 + (k : Int) < (N : Int) := by omega
      have hnx := HNX.out k
      have HBm := Lib.hid fun (w : World) => HB.out w ((h : Int) + 1 + (k : Int)) (by omega) (by omega) (by omega)
      have hm1 : 1 ≤ (h : Int) + 1 + (k : Int) := by omega
      have hm2 : (h : Int) + 1 + (k : Int) ≤ 201 := by omega
      have hsy := HSY.out k
      have hk1 : k + 1 ≤ h := hlt
      have HM : Hid ((h : Int) + 1 + ((k + 1 : Nat) : Int) = (h : Int) + 1 + (k : Int) + 1) := Lib.hid (by omega)
      have HTS := Lib.hid fun l (hl : toO (N : Int) ((h : Int) + 1 + (k : Int)) = some l) => toO_small hl
      have HTE := Lib.hid fun l (hl : toO (N : Int) ((h : Int) + 1 + (k : Int)) = some l) => toO_exp hl
      have HME : Hid ((2 * h + 1) - (intOf (.int .i64 ((h : Int) + 1 + (k : Int) + 1))).toNat < (2 * h + 1) - (intOf (.int .i64 ((h : Int) + 1 + (k : Int)))).toNat) := Lib.hid (by simp only [intOf]; omega)
      clear HNX HSY hlt hk
      generalize hmm : (h : Int) + 1 + (k : Int) = m at *
      cases hto : toO (N : Int) m with
      | none =>
        rw [bsStep_none hto] at hnx
        rw [hto] at HBm
        have HNX := Lib.hid hnx
        have HST := Lib.hid hst
        clear hnx hst hto hsy hmm
        go_wp2_with fail
        refine (HBm.out _).mono ?_; rintro e w16 ⟨A16, c16, rfl, hr16, hb16⟩; have hz16 := hb16.size; (try simp only [World.size_alloc, World.size_setCell, World.size_drew, World.heap_drewN] at hz16)
        go_wp2
        go_roundw
        case rel =>
          refine ⟨k + 1, hk1, by rw [HM.out], ?_, by (repeat' (first | (with_reducible exact Below.refl _ _) | (with_reducible assumption) | (with_reducible refine Below.drew ?_) | (with_reducible refine belowDrewN ?_ _) | (with_reducible refine Below.alloc ?_ ?_ _) | (with_reducible refine Below.setCell ?_ ?_ _) | (with_reducible refine belowStep (by assumption) ?_ ?_) | (with_reducible exact Below.size (by assumption)) | go_size))⟩
          rw [HNX.out]
          have := HST.out
          unfold BsAt at this ⊢
          cases hb : bsF (N : Int) k with
          | none => rw [hb] at this; exact this
          | some p =>
            rw [hb] at this
            obtain ⟨A, c, e1, e2, hr⟩ := this
            exact ⟨A, c, e1, e2, hr.below hb16⟩
        case measure => exact HME.out
      | some l =>
        obtain ⟨l1, l2, l3, l4, l5⟩ := HTS.out l hto
        rw [hto, Option.getD_some, Option.isSome_some] at HBm
        cases hb : bsF (N : Int) k with
        | none =>
          rw [hb, bsStep_first hto] at hnx
          rw [hb] at hst
          obtain ⟨rfl, rfl⟩ := hst
          have HNX := Lib.hid hnx
          clear hnx hto hsy hmm hb l5
          go_wp2_with fail
          refine (HBm.out _).mono ?_; rintro e w16 ⟨A16, c16, rfl, hr16, hb16⟩; have hz16 := hb16.size; (try simp only [World.size_alloc, World.size_setCell, World.size_drew, World.heap_drewN] at hz16)
          have R16 := Lib.hid hr16
          clear hr16
          go_wp2
          go_quiet (fail)
          go_wp2
          go_roundw
          case rel =>
            refine ⟨k + 1, hk1, by rw [HM.out], ?_, by (repeat' (first | (with_reducible exact Below.refl _ _) | (with_reducible assumption) | (with_reducible refine Below.drew ?_) | (with_reducible refine belowDrewN ?_ _) | (with_reducible refine Below.alloc ?_ ?_ _) | (with_reducible refine Below.setCell ?_ ?_ _) | (with_reducible refine belowStep (by assumption) ?_ ?_) | (with_reducible exact Below.size (by assumption)) | go_size))⟩
            rw [HNX.out]
            exact ⟨_, _, rfl, rfl, R16.out.drewN _⟩
          case measure => exact HME.out
        | some p =>
          obtain ⟨t1, t2, t3⟩ := hsy p hb
          obtain ⟨q1, q2, q3, q4, q5⟩ := toO_small t1
          rw [hb, bsStep_some hto] at hnx
          rw [hb] at hst
          obtain ⟨Ap, cp, rfl, rfl, hrp⟩ := hst
          have RP := Lib.hid hrp
          have hp0 : (p.1 == 0) = false := by simp; omega
          have hp0' : p.1 ≠ 0 := by omega
          clear hto hsy hmm hb t1 l5 q5 hrp
          obtain ⟨p1, p2⟩ := p
          dsimp only at *
          obtain ⟨la, hla⟩ : ∃ a, l.length = a + 1 := ⟨l.length - 1, by omega⟩
          obtain ⟨pa, hpa⟩ : ∃ a, p2.length = a + 1 := ⟨p2.length - 1, by omega⟩
          obtain ⟨x, hx, hx2⟩ := last_of hla
          obtain ⟨y, hy, hy2⟩ := last_of hpa
          have hil : (l.length : Int) - 1 = (la : Int) := by omega
          have hip : (p2.length : Int) - 1 = (pa : Int) := by omega
          have hlal : la < l.length := by omega
          have hpal : pa < p2.length := by omega
          go_wp2_with fail
          refine (HBm.out _).mono ?_; rintro e w16 ⟨A16, c16, rfl, hr16, hb16⟩; have hz16 := hb16.size; (try simp only [World.size_alloc, World.size_setCell, World.size_drew, World.heap_drewN] at hz16)
          have R16 := Lib.hid hr16
          obtain ⟨b16, o16, x', e16, hbb16, hx', hcell16⟩ := hr16.at_ hlal
          obtain ⟨b17, o17, y', e17, hbb17, hy', hcell17⟩ := (RP.out.below hb16).at_ hpal
          subst e16
          subst e17
          obtain rfl : x' = x := by rw [hx] at hx'; injection hx' with e; exact e.symm
          obtain rfl : y' = y := by rw [hy] at hy'; injection hy' with e; exact e.symm
          have RPb := Lib.hid (RP.out.below hb16)
          rw [hx2] at l1 l2
          rw [hy2] at q1 q2
          have HLE := Lib.hid fun h : l.length = p2.length => (less_eq h).trans (by rw [hx2, hy2])
          have HLN := Lib.hid fun h : ¬ l.length = p2.length => less_ne h
          clear hr16 hx hy hx' hy' hla hpa hx2 hy2 RP
          by_cases hc1 : l.length < p2.length
          · have hle : lessL l p2 = true := by rw [HLN.out (by omega)]; exact decide_eq_true hc1
            rw [if_pos hle] at hnx
            have HNX := Lib.hid hnx
            have hb1 : decide ((l.length : Int) < (p2.length : Int)) = true := decide_eq_true (by omega)
            clear hnx hle HLE HLN
            go_wp2
            go_quiet (fail)
            go_wp2
            go_roundw
            case rel =>
              refine ⟨k + 1, hk1, by rw [HM.out], ?_, by (repeat' (first | (with_reducible exact Below.refl _ _) | (with_reducible assumption) | (with_reducible refine Below.drew ?_) | (with_reducible refine belowDrewN ?_ _) | (with_reducible refine Below.alloc ?_ ?_ _) | (with_reducible refine Below.setCell ?_ ?_ _) | (with_reducible refine belowStep (by assumption) ?_ ?_) | (with_reducible exact Below.size (by assumption)) | go_size))⟩
              rw [HNX.out]
              exact ⟨_, _, rfl, rfl, R16.out.drewN _⟩
            case measure => exact HME.out
          · have hb1 : decide ((l.length : Int) < (p2.length : Int)) = false := decide_eq_false (by omega)
            by_cases hc2 : l.length = p2.length
            · have hb2 : ((l.length : Int) == (p2.length : Int)) = true := by rw [hc2]; simp
              have hle1 := HLE.out hc2
              clear hc2 HLE HLN
              by_cases hc3 : x' < y'
              · rw [decide_eq_true hc3] at hle1
                rw [if_pos hle1] at hnx
                have HNX := Lib.hid hnx
                have hb3 : decide (x' < y') = true := decide_eq_true hc3
                clear hnx hle1
                go_wp2
                go_quiet (fail)
                go_wp2
                go_roundw
                case rel =>
                  refine ⟨k + 1, hk1, by rw [HM.out], ?_, by (repeat' (first | (with_reducible exact Below.refl _ _) | (with_reducible assumption) | (with_reducible refine Below.drew ?_) | (with_reducible refine belowDrewN ?_ _) | (with_reducible refine Below.alloc ?_ ?_ _) | (with_reducible refine Below.setCell ?_ ?_ _) | (with_reducible refine belowStep (by assumption) ?_ ?_) | (with_reducible exact Below.size (by assumption)) | go_size))⟩
                  rw [HNX.out]
                  exact ⟨_, _, rfl, rfl, R16.out.drewN _⟩
                case measure => exact HME.out
              · rw [decide_eq_false hc3] at hle1
                rw [if_neg (by rw [hle1]; decide)] at hnx
                have HNX := Lib.hid hnx
                have hb3 : decide (x' < y') = false := decide_eq_false hc3
                clear hnx hle1
                go_wp2
                go_quiet (fail)
                go_wp2
                go_roundw
                case rel =>
                  refine ⟨k + 1, hk1, by rw [HM.out], ?_, by (repeat' (first | (with_reducible exact Below.refl _ _) | (with_reducible assumption) | (with_reducible refine Below.drew ?_) | (with_reducible refine belowDrewN ?_ _) | (with_reducible refine Below.alloc ?_ ?_ _) | (with_reducible refine Below.setCell ?_ ?_ _) | (with_reducible refine belowStep (by assumption) ?_ ?_) | (with_reducible exact Below.size (by assumption)) | go_size))⟩
                  rw [HNX.out]
                  exact ⟨_, _, rfl, rfl, RPb.out.drewN _⟩
                case measure => exact HME.out
            · have hb2 : ((l.length : Int) == (p2.length : Int)) = false := by simp; omega
              have hle1 : lessL l p2 = false := by rw [HLN.out hc2]; exact decide_eq_false hc1
              rw [if_neg (by rw [hle1]; decide)] at hnx
              have HNX := Lib.hid hnx
              clear hnx hle1 HLE HLN hc2
              go_wp2
              go_quiet (fail)
              go_wp2
              go_roundw
              case rel =>
                refine ⟨k + 1, hk1, by rw [HM.out], ?_, by (repeat' (first | (with_reducible exact Below.refl _ _) | (with_reducible assumption) | (with_reducible refine Below.drew ?_) | (with_reducible refine belowDrewN ?_ _) | (with_reducible refine Below.alloc ?_ ?_ _) | (with_reducible refine Below.setCell ?_ ?_ _) | (with_reducible refine belowStep (by assumption) ?_ ?_) | (with_reducible exact Below.size (by assumption)) | go_size))⟩
                rw [HNX.out]
                exact ⟨_, _, rfl, rfl, RPb.out.drewN _⟩
              case measure => exact HME.out
    · obtain rfl : k = h := by omega
      have hlt2 : ¬ (k : Int) + 1 + (k : Int) < (N : Int) := by omega
      cases hb : bsF (N : Int) k with
      | none =>
        rw [hb] at hst E
        obtain ⟨rfl, rfl⟩ := hst
        go_wp2
        go_ret
        rw [E.out]
        exact ⟨rfl, by (repeat' (first | (with_reducible exact Below.refl _ _) | (with_reducible assumption) | (with_reducible refine Below.drew ?_) | (with_reducible refine belowDrewN ?_ _) | (with_reducible refine Below.alloc ?_ ?_ _) | (with_reducible refine Below.setCell ?_ ?_ _) | (with_reducible refine belowStep (by assumption) ?_ ?_) | (with_reducible exact Below.size (by assumption)) | go_size))⟩
      | some p =>
        rw [hb] at hst E
        obtain ⟨Ap, cp, rfl, rfl, hrp⟩ := hst
        clear hrp hb
        obtain ⟨p1, p2⟩ := p
        dsimp only at *
        go_wp2
        go_ret
        rw [E.out]
        exact ⟨rfl, by (repeat' (first | (with_reducible exact Below.refl _ _) | (with_reducible assumption) | (with_reducible refine Below.drew ?_) | (with_reducible refine belowDrewN ?_ _) | (with_reducible refine Below.alloc ?_ ?_ _) | (with_reducible refine Below.setCell ?_ ?_ _) | (with_reducible refine belowStep (by assumption) ?_ ?_) | (with_reducible exact Below.size (by assumption)) | go_size))⟩
theorem scOdd_any (n : Int) (w : World) : Calls Try.prog 53 #[.int .i64 n] w (RetQ (.bool (oddB n)) w) := by
  by_cases h : 3 ≤ n ∧ n ≤ 201
  · obtain ⟨h1, h2⟩ := h
    obtain ⟨N, rfl⟩ := Int.eq_ofNat_of_zero_le (show 0 ≤ n by omega)
    have ht2 : (N : Int).tmod 2 = ((N % 2 : Nat) : Int) := by rw [Int.tmod_eq_emod_of_nonneg (by omega)]; omega
    have ht4 : (N : Int) % 2 = ((N % 2 : Nat) : Int) := by omega
    by_cases h3 : N % 2 = 1
    · have E := Lib.hid ((oddB_iff (N : Int)).2 ⟨h1, h2, by omega⟩)
      rw [h3] at ht2 ht4
      go_enter Try.func53, Try.ntmps53
      go_wp2_with fail
      refine (l1In_yes _ _ _ _ h1 h2).mono ?_; rintro e w1 ⟨rfl, k1, rfl⟩
      go_wp2
      go_ret
      exact ⟨ret_bool E.out.symm, _, rfl⟩
    · have h4 : N % 2 = 0 := by omega
      have E : Hid (oddB (N : Int) = false) := Lib.hid (by
        cases ho : oddB (N : Int) with
        | false => rfl
        | true => have := (oddB_iff _).1 ho; omega)
      rw [h4] at ht2 ht4
      clear h3
      go_enter Try.func53, Try.ntmps53
      go_wp2_with fail
      refine (l1In_yes _ _ _ _ h1 h2).mono ?_; rintro e w1 ⟨rfl, k1, rfl⟩
      go_wp2
      go_ret
      exact ⟨ret_bool E.out.symm, _, rfl⟩
  · have E : Hid (oddB n = false) := Lib.hid (by
      cases ho : oddB n with
      | false => rfl
      | true => have := (oddB_iff _).1 ho; exact absurd ⟨this.1, this.2.1⟩ h)
    go_enter Try.func53, Try.ntmps53
    go_wp2_with fail
    refine (l1In_no _ _ _ _ h).mono ?_; rintro e w1 ⟨rfl, k1, rfl⟩
    go_wp2
    go_ret
    exact ⟨ret_bool E.out.symm, _, rfl⟩
theorem baO_no {n : Int} (h : oddB n = false) : baO n = none ∧ twO n = none := by
  unfold baO twO
  rw [h]
  exact ⟨rfl, rfl⟩
set_option maxHeartbeats 2000000 in
theorem spec_twoOverBase_any (n : Int) (w : World) : Calls Try.prog 18 #[.int .i64 n] w (Ret (.tuple #[.int .i64 ((baO n).getD 0), .bool (baO n).isSome]) w) := by
  have HO := Lib.hid fun (w : World) => scOdd_any n w
  cases ho : oddB n with
  | false =>
    rw [(baO_no ho).1]
    rw [ho] at HO
    clear ho
    go_enter Try.func18, Try.ntmps18
    go_wp2_with fail
    refine (HO.out _).mono ?_; rintro e w1 ⟨rfl, k1, rfl⟩
    go_wp2
    go_ret2
    exact ⟨rfl, by (repeat' (first | (with_reducible exact Below.refl _ _) | (with_reducible assumption) | (with_reducible refine Below.drew ?_) | (with_reducible refine belowDrewN ?_ _) | (with_reducible refine Below.alloc ?_ ?_ _) | (with_reducible refine Below.setCell ?_ ?_ _) | (with_reducible refine belowStep (by assumption) ?_ ?_) | (with_reducible exact Below.size (by assumption)) | go_size))⟩
  | true =>
    have HB := Lib.hid fun (w : World) => scBase_any n w ho
    rw [ho] at HO
    rcases two_both (n := n) with ⟨e1, e2⟩ | ⟨m, l, e1, e2, e3, h1, h2, h3, h4, _, _⟩
    · rw [e1] at HB ⊢
      clear ho e1 e2
      go_enter Try.func18, Try.ntmps18
      go_wp2_with fail
      refine (HO.out _).mono ?_; rintro e w1 ⟨rfl, k1, rfl⟩
      go_wp2_with fail
      refine (HB.out _).mono ?_; rintro e w2 ⟨rfl, hb2⟩; have hz2 := hb2.size; (try simp only [World.heap_drewN] at hz2)
      go_wp2
      go_ret2
      exact ⟨rfl, by (repeat' (first | (with_reducible exact Below.refl _ _) | (with_reducible assumption) | (with_reducible refine Below.drew ?_) | (with_reducible refine belowDrewN ?_ _) | (with_reducible refine Below.alloc ?_ ?_ _) | (with_reducible refine Below.setCell ?_ ?_ _) | (with_reducible refine belowStep (by assumption) ?_ ?_) | (with_reducible exact Below.size (by assumption)) | go_size))⟩
    · rw [e1] at HB ⊢
      rw [Option.getD_some] at HB
      clear ho e1 e2 e3
      have hm : 0 < m := by omega
      go_enter Try.func18, Try.ntmps18
      go_wp2_with fail
      refine (HO.out _).mono ?_; rintro e w1 ⟨rfl, k1, rfl⟩
      go_wp2_with fail
      refine (HB.out _).mono ?_; rintro e w2 ⟨rfl, hb2⟩; have hz2 := hb2.size; (try simp only [World.heap_drewN] at hz2)
      go_wp2
      go_ret2
      exact ⟨rfl, by (repeat' (first | (with_reducible exact Below.refl _ _) | (with_reducible assumption) | (with_reducible refine Below.drew ?_) | (with_reducible refine belowDrewN ?_ _) | (with_reducible refine Below.alloc ?_ ?_ _) | (with_reducible refine Below.setCell ?_ ?_ _) | (with_reducible refine belowStep (by assumption) ?_ ?_) | (with_reducible exact Below.size (by assumption)) | go_size))⟩
set_option maxHeartbeats 2000000 in
theorem spec_twoOver_any (n : Int) (w : World) : Calls Try.prog 13 #[.int .i64 n] w (RetRB ((twO n).getD []) (twO n).isSome w) := by
  have HO := Lib.hid fun (w : World) => scOdd_any n w
  cases ho : oddB n with
  | false =>
    rw [(baO_no ho).2]
    rw [ho] at HO
    clear ho
    go_enter Try.func13, Try.ntmps13
    go_wp2_with fail
    refine (HO.out _).mono ?_; rintro e w1 ⟨rfl, k1, rfl⟩
    go_wp2
    go_ret2
    exact ⟨none, 0, rfl, Reads.nil, by (repeat' (first | (with_reducible exact Below.refl _ _) | (with_reducible assumption) | (with_reducible refine Below.drew ?_) | (with_reducible refine belowDrewN ?_ _) | (with_reducible refine Below.alloc ?_ ?_ _) | (with_reducible refine Below.setCell ?_ ?_ _) | (with_reducible refine belowStep (by assumption) ?_ ?_) | (with_reducible exact Below.size (by assumption)) | go_size))⟩
  | true =>
    have HB := Lib.hid fun (w : World) => scBase_any n w ho
    rw [ho] at HO
    rcases two_both (n := n) with ⟨e1, e2⟩ | ⟨m, l, e1, e2, e3, h1, h2, h3, h4, h5, h6⟩
    · rw [e1] at HB
      rw [e2]
      clear ho e1 e2
      go_enter Try.func13, Try.ntmps13
      go_wp2_with fail
      refine (HO.out _).mono ?_; rintro e w1 ⟨rfl, k1, rfl⟩
      go_wp2_with fail
      refine (HB.out _).mono ?_; rintro e w2 ⟨rfl, hb2⟩; have hz2 := hb2.size; (try simp only [World.heap_drewN] at hz2)
      go_wp2
      go_ret2
      exact ⟨none, 0, rfl, Reads.nil, by (repeat' (first | (with_reducible exact Below.refl _ _) | (with_reducible assumption) | (with_reducible refine Below.drew ?_) | (with_reducible refine belowDrewN ?_ _) | (with_reducible refine Below.alloc ?_ ?_ _) | (with_reducible refine Below.setCell ?_ ?_ _) | (with_reducible refine belowStep (by assumption) ?_ ?_) | (with_reducible exact Below.size (by assumption)) | go_size))⟩
    · have HT := Lib.hid fun (w : World) => scTwo_any n m w (by omega) h2 h3 h4 (by omega)
      rw [e1, Option.getD_some] at HB
      rw [e3] at HT
      rw [e2]
      have hm0 : (m == 0) = false := by simp; omega
      have hm1 : m ≠ 0 := by omega
      clear ho e1 e2 e3
      go_enter Try.func13, Try.ntmps13
      go_wp2_with fail
      refine (HO.out _).mono ?_; rintro e w1 ⟨rfl, k1, rfl⟩
      go_wp2_with fail
      refine (HB.out _).mono ?_; rintro e w2 ⟨rfl, hb2⟩; have hz2 := hb2.size; (try simp only [World.heap_drewN] at hz2)
      go_wp2_with fail
      refine (HT.out _).mono ?_; rintro e w3 ⟨A3, c3, rfl, hr3, hb3⟩; have hz3 := hb3.size; (try simp only [World.size_alloc, World.size_setCell, World.size_drew, World.heap_drewN] at hz3)
      go_wp2
      go_ret2
      exact ⟨_, _, rfl, hr3, by (repeat' (first | (with_reducible exact Below.refl _ _) | (with_reducible assumption) | (with_reducible refine Below.drew ?_) | (with_reducible refine belowDrewN ?_ _) | (with_reducible refine Below.alloc ?_ ?_ _) | (with_reducible refine Below.setCell ?_ ?_ _) | (with_reducible refine belowStep (by assumption) ?_ ?_) | (with_reducible exact Below.size (by assumption)) | go_size))⟩
end Go.Proofs.Ythkchhjidihkpab
