
/-
  The contract of the model's expansion by factorials.
-/
import Derived.Test.YtbjblkfibinenadGreatFacE
namespace Go.Proofs.YtbjblkfibinenadGreat
open Go.RowKit
theorem fxO_pro {n d : Int} (h : proB n d = false) : fxO n d = none := by unfold fxO pexO; rw [h]; rfl
theorem fxO_zero {n d : Int} (h : leastF d = 0) : fxO n d = none := by
  unfold fxO pexO faO
  rw [fdO_zero h]
  cases proB n d <;> rfl
theorem fxO_some {n d : Int} (hp : proB n d = true) (h : leastF d ≠ 0) : fxO n d = if expB (facT 0 (fdL n d)) = true then some (facT 0 (fdL n d)) else none := by
  have e : faO n d = some (facT 0 (fdL n d)) := by unfold faO; rw [fdO_yes hp h]; rfl
  have hf := faO_facts e
  unfold fxO pexO
  rw [hp, e, if_pos rfl]
  unfold exO
  rw [Option.bind_some, srt_rising hf.2.2.1]
theorem fxO_len (n d : Int) : ((fxO n d).getD []).length ≤ 24 := by
  unfold fxO pexO
  split
  · cases h : faO n d with
    | none => simp [exO]
    | some xs =>
      cases hx : expB (srt xs) with
      | true => rw [exO_yes hx]; exact expB_len hx
      | false => rw [exO_no hx]; simp
  · simp
set_option maxRecDepth 100000 in
set_option maxHeartbeats 4000000 in
theorem spec_factorialExp_any (n d : Int) (w : World) : Calls Tryz.prog 20 #[.agg #[.int .i64 n, .int .i64 d]] w (RetRB ((fxO n d).getD []) (fxO n d).isSome w) := by
  cases h : proB n d with
  | false =>
    have E := Lib.hid (fxO_pro h)
    go_enter Tryz.func20, Tryz.ntmps20
    go_wp2_with (go_at_call 37; refine (meProper_any _ _ _).mono ?_; rintro e w1 ⟨rfl, hb1⟩; obtain ⟨hc1, hf1⟩ := bcellB hb1; have hz1 := hb1.size; (try simp only [World.size_alloc] at hc1 hf1 hz1); (try have hy1_r_0 : wr.heap.size < w1.heap.size := by omega); (try have hn1_r_0 : wr.heap.size ≠ w1.heap.size := by omega); (try have hm1_r_0 : w1.heap.size ≠ wr.heap.size := by omega); (try have hy1_r_1 : wr.heap.size + 1 < w1.heap.size := by omega); (try have hn1_r_1 : wr.heap.size + 1 ≠ w1.heap.size := by omega); (try have hm1_r_1 : w1.heap.size ≠ wr.heap.size + 1 := by omega); (try have hy1_r_2 : wr.heap.size + 1 + 1 < w1.heap.size := by omega); (try have hp1_r_1 : wr.heap.size < w1.heap.size + 1 := by omega); (try have hp1_r_2 : wr.heap.size < w1.heap.size + 1 + 1 := by omega); (try have hy1_0_0 : w.heap.size < w1.heap.size := by omega); (try have hn1_0_0 : w.heap.size ≠ w1.heap.size := by omega); (try have hm1_0_0 : w1.heap.size ≠ w.heap.size := by omega); (try have hy1_0_1 : w.heap.size + 1 < w1.heap.size := by omega); (try have hn1_0_1 : w.heap.size + 1 ≠ w1.heap.size := by omega); (try have hm1_0_1 : w1.heap.size ≠ w.heap.size + 1 := by omega); (try have hy1_0_2 : w.heap.size + 1 + 1 < w1.heap.size := by omega); (try have hp1_0_1 : w.heap.size < w1.heap.size + 1 := by omega); (try have hp1_0_2 : w.heap.size < w1.heap.size + 1 + 1 := by omega); (try have hg1_g1 : g1 < w1.heap.size := by omega); (try have hi1_g1 : g1 ≠ w1.heap.size := by omega); (try have hj1_g1 : w1.heap.size ≠ g1 := by omega); (try have hk1_g1 : g1 < w1.heap.size + 1 := by omega); (try have hg1_g2 : g2 < w1.heap.size := by omega); (try have hi1_g2 : g2 ≠ w1.heap.size := by omega); (try have hj1_g2 : w1.heap.size ≠ g2 := by omega); (try have hk1_g2 : g2 < w1.heap.size + 1 := by omega))
    go_ret2
    rw [E.out]
    exact ⟨none, 0, rfl, Reads.nil, by (repeat' (first | (with_reducible exact Below.refl _ _) | (with_reducible assumption) | (with_reducible refine Below.drew ?_) | (with_reducible refine belowDrewN ?_ _) | (with_reducible refine Below.alloc ?_ ?_ _) | (with_reducible refine Below.setCell ?_ ?_ _) | (with_reducible refine belowStep (by assumption) ?_ ?_) | (with_reducible exact Below.size (by assumption)) | go_size))⟩
  | true =>
    have hd2 := (proB_bounds h).2.2.1
    have HL := Lib.hid fun (w : World) => meLeast_any d w (by omega)
    by_cases h0 : leastF d = 0
    · have E := Lib.hid (fxO_zero (n := n) h0)
      rw [h0] at HL
      go_enter Tryz.func20, Tryz.ntmps20
      go_wp2_with (first | (go_at_call 37; refine (meProper_any _ _ _).mono ?_; rintro e w1 ⟨rfl, hb1⟩; obtain ⟨hc1, hf1⟩ := bcellB hb1; have hz1 := hb1.size; (try simp only [World.size_alloc] at hc1 hf1 hz1); (try have hy1_r_0 : wr.heap.size < w1.heap.size := by omega); (try have hn1_r_0 : wr.heap.size ≠ w1.heap.size := by omega); (try have hm1_r_0 : w1.heap.size ≠ wr.heap.size := by omega); (try have hy1_r_1 : wr.heap.size + 1 < w1.heap.size := by omega); (try have hn1_r_1 : wr.heap.size + 1 ≠ w1.heap.size := by omega); (try have hm1_r_1 : w1.heap.size ≠ wr.heap.size + 1 := by omega); (try have hy1_r_2 : wr.heap.size + 1 + 1 < w1.heap.size := by omega); (try have hp1_r_1 : wr.heap.size < w1.heap.size + 1 := by omega); (try have hp1_r_2 : wr.heap.size < w1.heap.size + 1 + 1 := by omega); (try have hy1_0_0 : w.heap.size < w1.heap.size := by omega); (try have hn1_0_0 : w.heap.size ≠ w1.heap.size := by omega); (try have hm1_0_0 : w1.heap.size ≠ w.heap.size := by omega); (try have hy1_0_1 : w.heap.size + 1 < w1.heap.size := by omega); (try have hn1_0_1 : w.heap.size + 1 ≠ w1.heap.size := by omega); (try have hm1_0_1 : w1.heap.size ≠ w.heap.size + 1 := by omega); (try have hy1_0_2 : w.heap.size + 1 + 1 < w1.heap.size := by omega); (try have hp1_0_1 : w.heap.size < w1.heap.size + 1 := by omega); (try have hp1_0_2 : w.heap.size < w1.heap.size + 1 + 1 := by omega); (try have hg1_g1 : g1 < w1.heap.size := by omega); (try have hi1_g1 : g1 ≠ w1.heap.size := by omega); (try have hj1_g1 : w1.heap.size ≠ g1 := by omega); (try have hk1_g1 : g1 < w1.heap.size + 1 := by omega); (try have hg1_g2 : g2 < w1.heap.size := by omega); (try have hi1_g2 : g2 ≠ w1.heap.size := by omega); (try have hj1_g2 : w1.heap.size ≠ g2 := by omega); (try have hk1_g2 : g2 < w1.heap.size + 1 := by omega)) | (go_at_call 45; refine (HL.out _).mono ?_; rintro e w1 ⟨rfl, k1, rfl⟩))
      go_ret2
      rw [E.out]
      exact ⟨none, 0, rfl, Reads.nil, by (repeat' (first | (with_reducible exact Below.refl _ _) | (with_reducible assumption) | (with_reducible refine Below.drew ?_) | (with_reducible refine belowDrewN ?_ _) | (with_reducible refine Below.alloc ?_ ?_ _) | (with_reducible refine Below.setCell ?_ ?_ _) | (with_reducible refine belowStep (by assumption) ?_ ?_) | (with_reducible exact Below.size (by assumption)) | go_size))⟩
    · have E := Lib.hid (fxO_some h h0)
      have hz : (leastF d == 0) = false := by simp [h0]
      have HM := Lib.hid fun (w : World) => meDigits_any n d w h h0
      obtain ⟨_, hl, hin⟩ := faO_some (fdO_yes h h0)
      have Hin := Lib.hid hin
      have T0 := Lib.hid (TwoAt.new w n d 25)
      clear hin
      generalize fdL n d = ds at *
      go_enter Tryz.func20, Tryz.ntmps20
      go_wp2_with (first | (go_at_call 37; refine (meProper_any _ _ _).mono ?_; rintro e w1 ⟨rfl, hb1⟩; obtain ⟨hc1, hf1⟩ := bcellB hb1; have hz1 := hb1.size; (try simp only [World.size_alloc] at hc1 hf1 hz1); (try have hy1_r_0 : wr.heap.size < w1.heap.size := by omega); (try have hn1_r_0 : wr.heap.size ≠ w1.heap.size := by omega); (try have hm1_r_0 : w1.heap.size ≠ wr.heap.size := by omega); (try have hy1_r_1 : wr.heap.size + 1 < w1.heap.size := by omega); (try have hn1_r_1 : wr.heap.size + 1 ≠ w1.heap.size := by omega); (try have hm1_r_1 : w1.heap.size ≠ wr.heap.size + 1 := by omega); (try have hy1_r_2 : wr.heap.size + 1 + 1 < w1.heap.size := by omega); (try have hp1_r_1 : wr.heap.size < w1.heap.size + 1 := by omega); (try have hp1_r_2 : wr.heap.size < w1.heap.size + 1 + 1 := by omega); (try have hy1_0_0 : w.heap.size < w1.heap.size := by omega); (try have hn1_0_0 : w.heap.size ≠ w1.heap.size := by omega); (try have hm1_0_0 : w1.heap.size ≠ w.heap.size := by omega); (try have hy1_0_1 : w.heap.size + 1 < w1.heap.size := by omega); (try have hn1_0_1 : w.heap.size + 1 ≠ w1.heap.size := by omega); (try have hm1_0_1 : w1.heap.size ≠ w.heap.size + 1 := by omega); (try have hy1_0_2 : w.heap.size + 1 + 1 < w1.heap.size := by omega); (try have hp1_0_1 : w.heap.size < w1.heap.size + 1 := by omega); (try have hp1_0_2 : w.heap.size < w1.heap.size + 1 + 1 := by omega); (try have hg1_g1 : g1 < w1.heap.size := by omega); (try have hi1_g1 : g1 ≠ w1.heap.size := by omega); (try have hj1_g1 : w1.heap.size ≠ g1 := by omega); (try have hk1_g1 : g1 < w1.heap.size + 1 := by omega); (try have hg1_g2 : g2 < w1.heap.size := by omega); (try have hi1_g2 : g2 ≠ w1.heap.size := by omega); (try have hj1_g2 : w1.heap.size ≠ g2 := by omega); (try have hk1_g2 : g2 < w1.heap.size + 1 := by omega)) | (go_at_call 45; refine (HL.out _).mono ?_; rintro e w1 ⟨rfl, k1, rfl⟩))
      refine (HM.out _).mono ?_; rintro e w2 ⟨v2, rfl, ho2, hb2⟩; obtain ⟨A2, c2, rfl, hr2⟩ := ho2.form
      have hz2 := hb2.size
      (try simp only [World.heap_drewN] at hz2)
      have Hr2 := Lib.hid hr2
      clear ho2 hr2
      go_wp2
      go_loopw [4, 19] (fun v4 v19 wr => ∃ (k : Nat) (A : Option Addr) (c : Nat), k ≤ ds.length ∧ v19 = .int .i64 (k : Int) ∧ v4 = .slice A (facT 0 (ds.take k)).length c ∧ OwnI wr w2.heap.size (.slice A (facT 0 (ds.take k)).length c) (facT 0 (ds.take k)) ∧ Below w2.heap.size w2 wr) (fun _ v19 _ => ds.length - (intOf v19).toNat)
      case atStart => exact ⟨0, none, 0, Nat.zero_le _, rfl, rfl, OwnI.empty _ _, by (repeat' (first | (with_reducible exact Below.refl _ _) | (with_reducible assumption) | (with_reducible refine Below.drew ?_) | (with_reducible refine belowDrewN ?_ _) | (with_reducible refine Below.alloc ?_ ?_ _) | (with_reducible refine Below.setCell ?_ ?_ _) | (with_reducible refine belowStep (by assumption) ?_ ?_) | (with_reducible exact Below.size (by assumption)) | go_size))⟩
      case round =>
        obtain ⟨k, A, c, hk, rfl, rfl, ho, hbr⟩ := hrel
        have hzr := hbr.size
        have Ho := Lib.hid ho
        clear ho
        by_cases hlt : k < ds.length
        · obtain ⟨b, o, x, rfl, hb, hx, hcell⟩ := (Hr2.out.below hbr).at_ hlt
          obtain ⟨x0, x1⟩ := Hin.out k x hx
          have hN := Lib.hid (facT_next hlt hx)
          have hfl := facT_len 0 (ds.take k)
          have htl : (ds.take k).length ≤ 11 := by rw [List.length_take]; omega
          clear hx
          by_cases hp : 0 < x
          · have hN2 : Hid (facT 0 (ds.take (k + 1)) = facT 0 (ds.take k) ++ [fac (k + 2) / x]) := Lib.hid (by rw [hN.out, if_pos hp])
            have hff := fac_in (n := k + 2) (by omega)
            have t12 := term_in hp x1
            have hne : x ≠ 0 := by omega
            have HF : Hid (∀ w : World, Calls Tryz.prog 47 #[.int .i64 ((k : Int) + 2)] w (RetQ (.int .i64 (fac (k + 2))) w)) := Lib.hid fun w => meFactorial_any (k + 2) w (by omega)
            have hf1 := fac_pos (k + 1)
            have htd : (fac (k + 2)).tdiv x = fac (k + 2) / x := Int.tdiv_eq_ediv_of_nonneg (by omega)
            generalize facT 0 (ds.take k) = xs at *
            generalize fac (k + 2) = F at *
            go_wp2_with (first | (go_at_call 47; refine (HF.out _).mono ?_; rintro e w1 ⟨rfl, k1, rfl⟩) | (at_builtin; refine wpList_app _ (o := ⟨some 33, _, _, _, _, _⟩) (ys := [F / x]) rfl _ _ rfl rfl (Ho.out.below (by (repeat' (first | (with_reducible exact Below.refl _ _) | (with_reducible assumption) | (with_reducible refine Below.drew ?_) | (with_reducible refine belowDrewN ?_ _) | (with_reducible refine Below.alloc ?_ ?_ _) | (with_reducible refine Below.setCell ?_ ?_ _) | (with_reducible refine belowStep (by assumption) ?_ ?_) | (with_reducible exact Below.size (by assumption)) | go_size)))) (1) (1) (by first | (simp; done) | (simp; omega)) rfl (Reads.one _ (F / x)) (by (try simp only [List.length_nil, List.length_cons]); omega) (by first | exact Nat.le_refl _ | ((try simp only [World.size_alloc, World.heap_drewN]); omega)) ?_; intro v3 w3 ho3 hb3 hg3 ht3; clear hg3 ht3; have hz3 := hb3.size; (try simp only [World.size_alloc, World.heap_drewN] at hz3)))
            obtain ⟨A3, c3, rfl, hr3⟩ := ho3.form
            go_roundw
            case rel => exact ⟨k + 1, A3, c3, by omega, by go_num, by rw [hN2.out], by rw [hN2.out]; exact ho3, by (repeat' (first | (with_reducible exact Below.refl _ _) | (with_reducible assumption) | (with_reducible refine Below.drew ?_) | (with_reducible refine belowDrewN ?_ _) | (with_reducible refine Below.alloc ?_ ?_ _) | (with_reducible refine Below.setCell ?_ ?_ _) | (with_reducible refine belowStep (by assumption) ?_ ?_) | (with_reducible exact Below.size (by assumption)) | go_size))⟩
            case measure => simp [intOf]; omega
          · have hN2 : Hid (facT 0 (ds.take (k + 1)) = facT 0 (ds.take k)) := Lib.hid (by rw [hN.out, if_neg hp, List.append_nil])
            go_wp2
            go_roundw
            case rel => exact ⟨k + 1, A, c, by omega, by go_num, by rw [hN2.out], by rw [hN2.out]; exact Ho.out, by (repeat' (first | (with_reducible exact Below.refl _ _) | (with_reducible assumption) | (with_reducible refine Below.drew ?_) | (with_reducible refine belowDrewN ?_ _) | (with_reducible refine Below.alloc ?_ ?_ _) | (with_reducible refine Below.setCell ?_ ?_ _) | (with_reducible refine belowStep (by assumption) ?_ ?_) | (with_reducible exact Below.size (by assumption)) | go_size))⟩
            case measure => simp [intOf]; omega
        · obtain rfl : k = ds.length := by omega
          have hfl := facT_len 0 (ds.take ds.length)
          obtain ⟨Aq, cq, eq1, hr⟩ := Ho.out.form
          injection eq1 with eq2 eq3 eq4
          subst eq2
          have Hr := Lib.hid hr
          have HT : Hid (facT 0 (ds.take ds.length) = facT 0 ds) := Lib.hid (by rw [List.take_length])
          rw [HT.out] at hfl Hr
          have htl : (ds.take ds.length).length ≤ 11 := by rw [List.length_take]; omega
          clear hr
          rw [HT.out]
          generalize facT 0 ds = xs at *
          cases hx : expB xs with
          | true =>
            rw [hx] at E
            go_wp2_with fail
            refine (unList_yes _ A _ xs Hr.out (by omega) hx).mono ?_; rintro e w3 ⟨rfl, hb3⟩
            have hz3 := hb3.size
            go_wp2
            go_ret2
            rw [E.out]
            exact ⟨_, _, rfl, Hr.out.below hb3, by (repeat' (first | (with_reducible exact Below.refl _ _) | (with_reducible assumption) | (with_reducible refine Below.drew ?_) | (with_reducible refine belowDrewN ?_ _) | (with_reducible refine Below.alloc ?_ ?_ _) | (with_reducible refine Below.setCell ?_ ?_ _) | (with_reducible refine belowStep (by assumption) ?_ ?_) | (with_reducible exact Below.size (by assumption)) | go_size))⟩
          | false =>
            rw [hx] at E
            go_wp2_with fail
            refine (unList_no _ A _ xs Hr.out (by omega) hx).mono ?_; rintro e w3 ⟨rfl, hb3⟩
            have hz3 := hb3.size
            go_wp2
            go_ret2
            rw [E.out]
            exact ⟨none, 0, rfl, Reads.nil, by (repeat' (first | (with_reducible exact Below.refl _ _) | (with_reducible assumption) | (with_reducible refine Below.drew ?_) | (with_reducible refine belowDrewN ?_ _) | (with_reducible refine Below.alloc ?_ ?_ _) | (with_reducible refine Below.setCell ?_ ?_ _) | (with_reducible refine belowStep (by assumption) ?_ ?_) | (with_reducible exact Below.size (by assumption)) | go_size))⟩
end Go.Proofs.YtbjblkfibinenadGreat
