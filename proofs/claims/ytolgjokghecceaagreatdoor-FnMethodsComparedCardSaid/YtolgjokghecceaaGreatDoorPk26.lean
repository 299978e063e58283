import Derived.Test.YtolgjokghecceaaGreatDoorPk25
import Derived.Test.YtolgjokghecceaaGreatDoorPk6

/-
  The contract of the model's expansion by factorials.
-/
namespace Go.Proofs.YtolgjokghecceaaGreatDoor
open Go.RowKit
theorem fxO_pro {n d : Int} (h : proB n d = false) : fxO n d = none := by unfold fxO pexO; rw [h]; rfl
theorem fxO_zero {n d : Int} (h : leastF d = 0) : fxO n d = none := by
  unfold fxO pexO faO
  rw [fdO_zero h]
  cases proB n d <;> rfl
theorem fxO_some {n d : Int} (hp : proB n d = true) (h : leastF d ≠ 0) : fxO n d = if expB (facT 0 (fdL n d)) = true then some (facT 0 (fdL n d)) else none := by
  have e : faO n d = some (facT 0 (fdL n d)) := by unfold faO; rw [fdO_yes hp h]; rfl
  have hf := faO_facts e
  unfold fxO pexO
  rw [hp, e, if_pos rfl]
  unfold exO
  rw [Option.bind_some, srt_rising hf.2.2.1]
theorem fxO_len (n d : Int) : ((fxO n d).getD []).length ≤ 24 := by
  unfold fxO pexO
  split
  · cases h : faO n d with
    | none => simp [exO]
    | some xs =>
      cases hx : expB (srt xs) with
      | true => rw [exO_yes hx]; exact expB_len hx
      | false => rw [exO_no hx]; simp
  · simp
set_option maxRecDepth 100000 in
set_option maxHeartbeats 4000000 in
theorem spec_factorialExp_any (n d : Int) (w : World) : Calls Tryz.prog 55 #[.agg #[.int .i64 n, .int .i64 d]] w (RetRB ((fxO n d).getD []) (fxO n d).isSome w) := by
  cases h : proB n d with
  | false =>
    have E := Lib.hid (fxO_pro h)
    go_enter Tryz.func55, Tryz.ntmps55
    go_wp2_with (go_at_call 31; refine (meProper_any _ _ _).mono ?_; rintro e w1 ⟨rfl, hb1⟩; obtain ⟨hc1, hf1⟩ := bcellB hb1; have hz1 := hb1.size; (try simp only [World.size_alloc, World.size_setCell, World.size_drew, World.heap_drewN] at hc1 hf1 hz1); (try have hy1_r_0 : wr.heap.size < w1.heap.size := by omega); (try have hn1_r_0 : wr.heap.size ≠ w1.heap.size := by omega); (try have hm1_r_0 : w1.heap.size ≠ wr.heap.size := by omega); (try have hy1_r_1 : wr.heap.size + 1 < w1.heap.size := by omega); (try have hn1_r_1 : wr.heap.size + 1 ≠ w1.heap.size := by omega); (try have hm1_r_1 : w1.heap.size ≠ wr.heap.size + 1 := by omega); (try have hy1_r_2 : wr.heap.size + 1 + 1 < w1.heap.size := by omega); (try have hp1_r_1 : wr.heap.size < w1.heap.size + 1 := by omega); (try have hp1_r_2 : wr.heap.size < w1.heap.size + 1 + 1 := by omega); (try have hy1_0_0 : w.heap.size < w1.heap.size := by omega); (try have hn1_0_0 : w.heap.size ≠ w1.heap.size := by omega); (try have hm1_0_0 : w1.heap.size ≠ w.heap.size := by omega); (try have hy1_0_1 : w.heap.size + 1 < w1.heap.size := by omega); (try have hn1_0_1 : w.heap.size + 1 ≠ w1.heap.size := by omega); (try have hm1_0_1 : w1.heap.size ≠ w.heap.size + 1 := by omega); (try have hy1_0_2 : w.heap.size + 1 + 1 < w1.heap.size := by omega); (try have hp1_0_1 : w.heap.size < w1.heap.size + 1 := by omega); (try have hp1_0_2 : w.heap.size < w1.heap.size + 1 + 1 := by omega); (try have hg1_g1 : g1 < w1.heap.size := by omega); (try have hi1_g1 : g1 ≠ w1.heap.size := by omega); (try have hj1_g1 : w1.heap.size ≠ g1 := by omega); (try have hk1_g1 : g1 < w1.heap.size + 1 := by omega); (try have hg1_g2 : g2 < w1.heap.size := by omega); (try have hi1_g2 : g2 ≠ w1.heap.size := by omega); (try have hj1_g2 : w1.heap.size ≠ g2 := by omega); (try have hk1_g2 : g2 < w1.heap.size + 1 := by omega))
    go_ret2
    rw [E.out]
    exact ⟨none, 0, rfl, Reads.nil, by (repeat' (first | (with_reducible exact Below.refl _ _) | (with_reducible assumption) | (with_reducible refine Below.drew ?_) | (with_reducible refine belowDrewN ?_ _) | (with_reducible refine Below.alloc ?_ ?_ _) | (with_reducible refine Below.setCell ?_ ?_ _) | (with_reducible refine belowStep (by assumption) ?_ ?_) | (with_reducible exact Below.size (by assumption)) | go_size))⟩
  | true =>
    have hd2 := (proB_bounds h).2.2.1
    have HL := Lib.hid fun (w : World) => meLeast_any d w (by omega)
    by_cases h0 : leastF d = 0
    · have E := Lib.hid (fxO_zero (n := n) h0)
      rw [h0] at HL
      go_enter Tryz.func55, Tryz.ntmps55
      go_wp2_with (first | (go_at_call 31; refine (meProper_any _ _ _).mono ?_; rintro e w1 ⟨rfl, hb1⟩; obtain ⟨hc1, hf1⟩ := bcellB hb1; have hz1 := hb1.size; (try simp only [World.size_alloc, World.size_setCell, World.size_drew, World.heap_drewN] at hc1 hf1 hz1); (try have hy1_r_0 : wr.heap.size < w1.heap.size := by omega); (try have hn1_r_0 : wr.heap.size ≠ w1.heap.size := by omega); (try have hm1_r_0 : w1.heap.size ≠ wr.heap.size := by omega); (try have hy1_r_1 : wr.heap.size + 1 < w1.heap.size := by omega); (try have hn1_r_1 : wr.heap.size + 1 ≠ w1.heap.size := by omega); (try have hm1_r_1 : w1.heap.size ≠ wr.heap.size + 1 := by omega); (try have hy1_r_2 : wr.heap.size + 1 + 1 < w1.heap.size := by omega); (try have hp1_r_1 : wr.heap.size < w1.heap.size + 1 := by omega); (try have hp1_r_2 : wr.heap.size < w1.heap.size + 1 + 1 := by omega); (try have hy1_0_0 : w.heap.size < w1.heap.size := by omega); (try have hn1_0_0 : w.heap.size ≠ w1.heap.size := by omega); (try have hm1_0_0 : w1.heap.size ≠ w.heap.size := by omega); (try have hy1_0_1 : w.heap.size + 1 < w1.heap.size := by omega); (try have hn1_0_1 : w.heap.size + 1 ≠ w1.heap.size := by omega); (try have hm1_0_1 : w1.heap.size ≠ w.heap.size + 1 := by omega); (try have hy1_0_2 : w.heap.size + 1 + 1 < w1.heap.size := by omega); (try have hp1_0_1 : w.heap.size < w1.heap.size + 1 := by omega); (try have hp1_0_2 : w.heap.size < w1.heap.size + 1 + 1 := by omega); (try have hg1_g1 : g1 < w1.heap.size := by omega); (try have hi1_g1 : g1 ≠ w1.heap.size := by omega); (try have hj1_g1 : w1.heap.size ≠ g1 := by omega); (try have hk1_g1 : g1 < w1.heap.size + 1 := by omega); (try have hg1_g2 : g2 < w1.heap.size := by omega); (try have hi1_g2 : g2 ≠ w1.heap.size := by omega); (try have hj1_g2 : w1.heap.size ≠ g2 := by omega); (try have hk1_g2 : g2 < w1.heap.size + 1 := by omega)) | (go_at_call 80; refine (HL.out _).mono ?_; rintro e w1 ⟨rfl, k1, rfl⟩))
      go_ret2
      rw [E.out]
      exact ⟨none, 0, rfl, Reads.nil, by (repeat' (first | (with_reducible exact Below.refl _ _) | (with_reducible assumption) | (with_reducible refine Below.drew ?_) | (with_reducible refine belowDrewN ?_ _) | (with_reducible refine Below.alloc ?_ ?_ _) | (with_reducible refine Below.setCell ?_ ?_ _) | (with_reducible refine belowStep (by assumption) ?_ ?_) | (with_reducible exact Below.size (by assumption)) | go_size))⟩
    · have E := Lib.hid (fxO_some h h0)
      have hz : (leastF d == 0) = false := by simp [h0]
      have HM := Lib.hid fun (w : World) => meDigits_any n d w h h0
      obtain ⟨_, hl, hin⟩ := faO_some (fdO_yes h h0)
      have Hin := Lib.hid hin
      have T0 := Lib.hid (TwoAt.new w n d 27)
      clear hin
      generalize fdL n d = ds at *
      go_enter Tryz.func55, Tryz.ntmps55
      go_wp2_with (first | (go_at_call 31; refine (meProper_any _ _ _).mono ?_; rintro e w1 ⟨rfl, hb1⟩; obtain ⟨hc1, hf1⟩ := bcellB hb1; have hz1 := hb1.size; (try simp only [World.size_alloc, World.size_setCell, World.size_drew, World.heap_drewN] at hc1 hf1 hz1); (try have hy1_r_0 : wr.heap.size < w1.heap.size := by omega); (try have hn1_r_0 : wr.heap.size ≠ w1.heap.size := by omega); (try have hm1_r_0 : w1.heap.size ≠ wr.heap.size := by omega); (try have hy1_r_1 : wr.heap.size + 1 < w1.heap.size := by omega); (try have hn1_r_1 : wr.heap.size + 1 ≠ w1.heap.size := by omega); (try have hm1_r_1 : w1.heap.size ≠ wr.heap.size + 1 := by omega); (try have hy1_r_2 : wr.heap.size + 1 + 1 < w1.heap.size := by omega); (try have hp1_r_1 : wr.heap.size < w1.heap.size + 1 := by omega); (try have hp1_r_2 : wr.heap.size < w1.heap.size + 1 + 1 := by omega); (try have hy1_0_0 : w.heap.size < w1.heap.size := by omega); (try have hn1_0_0 : w.heap.size ≠ w1.heap.size := by omega); (try have hm1_0_0 : w1.heap.size ≠ w.heap.size := by omega); (try have hy1_0_1 : w.heap.size + 1 < w1.heap.size := by omega); (try have hn1_0_1 : w.heap.size + 1 ≠ w1.heap.size := by omega); (try have hm1_0_1 : w1.heap.size ≠ w.heap.size + 1 := by omega); (try have hy1_0_2 : w.heap.size + 1 + 1 < w1.heap.size := by omega); (try have hp1_0_1 : w.heap.size < w1.heap.size + 1 := by omega); (try have hp1_0_2 : w.heap.size < w1.heap.size + 1 + 1 := by omega); (try have hg1_g1 : g1 < w1.heap.size := by omega); (try have hi1_g1 : g1 ≠ w1.heap.size := by omega); (try have hj1_g1 : w1.heap.size ≠ g1 := by omega); (try have hk1_g1 : g1 < w1.heap.size + 1 := by omega); (try have hg1_g2 : g2 < w1.heap.size := by omega); (try have hi1_g2 : g2 ≠ w1.heap.size := by omega); (try have hj1_g2 : w1.heap.size ≠ g2 := by omega); (try have hk1_g2 : g2 < w1.heap.size + 1 := by omega)) | (go_at_call 80; refine (HL.out _).mono ?_; rintro e w1 ⟨rfl, k1, rfl⟩))
      refine (HM.out _).mono ?_; rintro e w2 ⟨v2, rfl, ho2, hb2⟩; obtain ⟨A2, c2, rfl, hr2⟩ := ho2.form
      have hz2 := hb2.size
      (try simp only [World.heap_drewN] at hz2)
      have Hr2 := Lib.hid hr2
      clear ho2 hr2
      go_wp2
      go_loopw [4, 19] (fun v4 v19 wr => ∃ (k : Nat) (A : Option Addr) (c : Nat), k ≤ ds.length ∧ v19 = .int .i64 (k : Int) ∧ v4 = .slice A (facT 0 (ds.take k)).length c ∧ OwnI wr w2.heap.size (.slice A (facT 0 (ds.take k)).length c) (facT 0 (ds.take k)) ∧ Below w2.heap.size w2 wr) (fun _ v19 _ => ds.length - (intOf v19).toNat)
      case atStart => exact ⟨0, none, 0, Nat.zero_le _, rfl, rfl, OwnI.empty _ _, by (repeat' (first | (with_reducible exact Below.refl _ _) | (with_reducible assumption) | (with_reducible refine Below.drew ?_) | (with_reducible refine belowDrewN ?_ _) | (with_reducible refine Below.alloc ?_ ?_ _) | (with_reducible refine Below.setCell ?_ ?_ _) | (with_reducible refine belowStep (by assumption) ?_ ?_) | (with_reducible exact Below.size (by assumption)) | go_size))⟩
      case round =>
        obtain ⟨k, A, c, hk, rfl, rfl, ho, hbr⟩ := hrel
        have hzr := hbr.size
        have Ho := Lib.hid ho
        clear ho
        by_cases hlt : k < ds.length
        · obtain ⟨b, o, x, rfl, hb, hx, hcell⟩ := (Hr2.out.below hbr).at_ hlt
          obtain ⟨x0, x1⟩ := Hin.out k x hx
          have hN := Lib.hid (facT_next hlt hx)
          have hfl := facT_len 0 (ds.take k)
          have htl : (ds.take k).length ≤ 11 := by rw [List.length_take]; omega
          clear hx
          by_cases hp : 0 < x
          · have hN2 : Hid (facT 0 (ds.take (k + 1)) = facT 0 (ds.take k) ++ [fac (k + 2) / x]) := Lib.hid (by rw [hN.out, if_pos hp])
            have hff := fac_in (n := k + 2) (by omega)
            have t12 := term_in hp x1
            have hne : x ≠ 0 := by omega
            have HF : Hid (∀ w : World, Calls Tryz.prog 82 #[.int .i64 ((k : Int) + 2)] w (RetQ (.int .i64 (fac (k + 2))) w)) := Lib.hid fun w => meFactorial_any (k + 2) w (by omega)
            have hf1 := fac_pos (k + 1)
            have htd : (fac (k + 2)).tdiv x = fac (k + 2) / x := Int.tdiv_eq_ediv_of_nonneg (by omega)
            generalize facT 0 (ds.take k) = xs at *
            generalize fac (k + 2) = F at *
            go_wp2_with (first | (go_at_call 82; refine (HF.out _).mono ?_; rintro e w1 ⟨rfl, k1, rfl⟩) | (at_builtin; refine wpList_app _ (o := ⟨some 33, _, _, _, _, _⟩) (ys := [F / x]) rfl _ _ rfl rfl (Ho.out.below (by (repeat' (first | (with_reducible exact Below.refl _ _) | (with_reducible assumption) | (with_reducible refine Below.drew ?_) | (with_reducible refine belowDrewN ?_ _) | (with_reducible refine Below.alloc ?_ ?_ _) | (with_reducible refine Below.setCell ?_ ?_ _) | (with_reducible refine belowStep (by assumption) ?_ ?_) | (with_reducible exact Below.size (by assumption)) | go_size)))) (1) (1) (by first | (simp; done) | (simp; omega)) rfl (Reads.one _ (F / x)) (by (try simp only [List.length_append, List.length_take, List.length_drop, List.length_nil, List.length_singleton, List.length_cons]); omega) (by first | exact Nat.le_refl _ | ((try simp only [World.size_alloc, World.size_setCell, World.size_drew, World.heap_drewN]); omega)) ?_; intro v3 w3 ho3 hb3 hg3 ht3; clear hg3 ht3; have hz3 := hb3.size; (try simp only [World.size_alloc, World.size_setCell, World.size_drew, World.heap_drewN] at hz3)))
            obtain ⟨A3, c3, rfl, hr3⟩ := ho3.form
            go_roundw
            case rel => exact ⟨k + 1, A3, c3, by omega, by go_num, by rw [hN2.out], by rw [hN2.out]; exact ho3, by (repeat' (first | (with_reducible exact Below.refl _ _) | (with_reducible assumption) | (with_reducible refine Below.drew ?_) | (with_reducible refine belowDrewN ?_ _) | (with_reducible refine Below.alloc ?_ ?_ _) | (with_reducible refine Below.setCell ?_ ?_ _) | (with_reducible refine belowStep (by assumption) ?_ ?_) | (with_reducible exact Below.size (by assumption)) | go_size))⟩
            case measure => simp [intOf]; omega
          · have hN2 : Hid (facT 0 (ds.take (k + 1)) = facT 0 (ds.take k)) := Lib.hid (by rw [hN.out, if_neg hp, List.append_nil])
            go_wp2
            go_roundw
            case rel => exact ⟨k + 1, A, c, by omega, by go_num, by rw [hN2.out], by rw [hN2.out]; exact Ho.out, by (repeat' (first | (with_reducible exact Below.refl _ _) | (with_reducible assumption) | (with_reducible refine Below.drew ?_) | (with_reducible refine belowDrewN ?_ _) | (with_reducible refine Below.alloc ?_ ?_ _) | (with_reducible refine Below.setCell ?_ ?_ _) | (with_reducible refine belowStep (by assumption) ?_ ?_) | (with_reducible exact Below.size (by assumption)) | go_size))⟩
            case measure => simp [intOf]; omega
        · obtain rfl : k = ds.length := by omega
          have hfl := facT_len 0 (ds.take ds.length)
          obtain ⟨Aq, cq, eq1, hr⟩ := Ho.out.form
          injection eq1 with eq2 eq3 eq4
          subst eq2
          have Hr := Lib.hid hr
          have HT : Hid (facT 0 (ds.take ds.length) = facT 0 ds) := Lib.hid (by rw [List.take_length])
          rw [HT.out] at hfl Hr
          have htl : (ds.take ds.length).length ≤ 11 := by rw [List.length_take]; omega
          clear hr
          rw [HT.out]
          generalize facT 0 ds = xs at *
          cases hx : expB xs with
          | true =>
            rw [hx] at E
            go_wp2_with fail
            refine (unList_yes _ A _ xs Hr.out (by omega) hx).mono ?_; rintro e w3 ⟨rfl, hb3⟩
            have hz3 := hb3.size
            go_wp2
            go_ret2
            rw [E.out]
            exact ⟨_, _, rfl, Hr.out.below hb3, by (repeat' (first | (with_reducible exact Below.refl _ _) | (with_reducible assumption) | (with_reducible refine Below.drew ?_) | (with_reducible refine belowDrewN ?_ _) | (with_reducible refine Below.alloc ?_ ?_ _) | (with_reducible refine Below.setCell ?_ ?_ _) | (with_reducible refine belowStep (by assumption) ?_ ?_) | (with_reducible exact Below.size (by assumption)) | go_size))⟩
          | false =>
            rw [hx] at E
            go_wp2_with fail
            refine (unList_no _ A _ xs Hr.out (by omega) hx).mono ?_; rintro e w3 ⟨rfl, hb3⟩
            have hz3 := hb3.size
            go_wp2
            go_ret2
            rw [E.out]
            exact ⟨none, 0, rfl, Reads.nil, by (repeat' (first | (with_reducible exact Below.refl _ _) | (with_reducible assumption) | (with_reducible refine Below.drew ?_) | (with_reducible refine belowDrewN ?_ _) | (with_reducible refine Below.alloc ?_ ?_ _) | (with_reducible refine Below.setCell ?_ ?_ _) | (with_reducible refine belowStep (by assumption) ?_ ?_) | (with_reducible exact Below.size (by assumption)) | go_size))⟩
end Go.Proofs.YtolgjokghecceaaGreatDoor


/-
  Plain facts on lists that rise or do not fall, on the products of their first numbers, and on sums and differences of the unit fractions of these.
-/
namespace Go.Proofs.YtolgjokghecceaaGreatDoor
open Go.RowKit
/-- each number is at least lo, and the next one by so much more than it -/
def up (s : Int) : Int → List Int → Bool
  | _, [] => true
  | lo, x :: xs => decide (lo ≤ x) && decide (x ≤ 1000000000) && up s (x + s) xs
theorem up_yes {s lo x : Int} {xs : List Int} (h1 : lo ≤ x) (h2 : x ≤ 1000000000) : up s lo (x :: xs) = up s (x + s) xs := by simp [up, h1, h2]
theorem up_no {s lo x : Int} {xs : List Int} (h : ¬ (lo ≤ x ∧ x ≤ 1000000000)) : up s lo (x :: xs) = false := by
  unfold up
  by_cases h1 : lo ≤ x
  · have h2 : ¬ x ≤ 1000000000 := fun h2 => h ⟨h1, h2⟩
    simp [h2]
  · simp [h1]
theorem up_in {s : Int} (hs : 0 ≤ s) : ∀ {xs : List Int} {lo : Int}, up s lo xs = true → ∀ x ∈ xs, lo ≤ x ∧ x ≤ 1000000000
  | [], _, _, x, h => by cases h
  | y :: ys, lo, hu, x, h => by
    by_cases hy : lo ≤ y ∧ y ≤ 1000000000
    · rw [up_yes hy.1 hy.2] at hu
      rcases List.mem_cons.1 h with rfl | h
      · exact hy
      · have := up_in hs hu x h; omega
    · rw [up_no hy] at hu; cases hu
theorem rise_up (p : Int) : ∀ (xs : List Int), 0 ≤ p → rise 1 1000000000 (some p) xs = up 1 (p + 1) xs
  | [], _ => rfl
  | x :: xs, hp => by
    by_cases h : p + 1 ≤ x ∧ x ≤ 1000000000
    · rw [up_yes h.1 h.2, rise_next (by omega) h.2 (by omega)]
      exact rise_up x xs (by omega)
    · rw [up_no h]
      by_cases h2 : 1 ≤ x ∧ x ≤ 1000000000
      · exact rise_low (by omega)
      · exact rise_out h2
theorem rise_up0 (xs : List Int) : rise 1 1000000000 none xs = up 1 1 xs := by
  have := rise_up 0 xs (by omega)
  rw [rise_zero (by omega)] at this
  exact this
/-- the products of the first numbers, from p on, if none is too great -/
def prodL : Int → List Int → Option (List Int)
  | _, [] => some []
  | p, x :: xs => if p * x ≤ 1000000000 then (prodL (p * x) xs).map (p * x :: ·) else none
theorem prodL_yes {p x : Int} {xs : List Int} (h : p * x ≤ 1000000000) : prodL p (x :: xs) = (prodL (p * x) xs).map (p * x :: ·) := by simp [prodL, h]
theorem prodL_no {p x : Int} {xs : List Int} (h : ¬ p * x ≤ 1000000000) : prodL p (x :: xs) = none := by simp [prodL, h]
theorem prodL_len : ∀ {xs ps : List Int} {p : Int}, prodL p xs = some ps → ps.length = xs.length
  | [], ps, p, h => by simp [prodL] at h; subst h; rfl
  | x :: xs, ps, p, h => by
    by_cases hx : p * x ≤ 1000000000
    · rw [prodL_yes hx] at h
      cases hr : prodL (p * x) xs with
      | none => rw [hr] at h; cases h
      | some qs =>
        rw [hr] at h
        injection h with h
        subst h
        simp [prodL_len hr]
    · rw [prodL_no hx] at h; cases h
theorem prodL_in : ∀ {xs ps : List Int} {p : Int}, 1 ≤ p → (∀ x ∈ xs, 1 ≤ x) → prodL p xs = some ps → ∀ q ∈ ps, p ≤ q ∧ q ≤ 1000000000
  | [], ps, p, _, _, h => by simp [prodL] at h; subst h; intro q hq; cases hq
  | x :: xs, ps, p, hp, hx, h => by
    have h1 := hx x (by simp)
    have h2 : p * 1 ≤ p * x := Int.mul_le_mul_of_nonneg_left h1 (by omega)
    by_cases hle : p * x ≤ 1000000000
    · rw [prodL_yes hle] at h
      cases hr : prodL (p * x) xs with
      | none => rw [hr] at h; cases h
      | some qs =>
        rw [hr] at h
        injection h with h
        subst h
        intro q hq
        rcases List.mem_cons.1 hq with rfl | hq
        · omega
        · have := prodL_in (by omega) (fun x hx' => hx x (by simp [hx'])) hr q hq
          omega
    · rw [prodL_no hle] at h; cases h
/-- behind numbers of at least 2 the products rise -/
theorem prodL_rise : ∀ {xs ps : List Int} {p : Int}, 1 ≤ p → (∀ x ∈ xs, 2 ≤ x) → prodL p xs = some ps → rise 1 1000000000 (some p) ps = true
  | [], ps, p, _, _, h => by simp [prodL] at h; subst h; rfl
  | x :: xs, ps, p, hp, hx, h => by
    have h1 := hx x (by simp)
    have h2 : p * 2 ≤ p * x := Int.mul_le_mul_of_nonneg_left h1 (by omega)
    by_cases hle : p * x ≤ 1000000000
    · rw [prodL_yes hle] at h
      cases hr : prodL (p * x) xs with
      | none => rw [hr] at h; cases h
      | some qs =>
        rw [hr] at h
        injection h with h
        subst h
        rw [rise_next (by omega) hle (by omega)]
        exact prodL_rise (by omega) (fun x hx' => hx x (by simp [hx'])) hr
    · rw [prodL_no hle] at h; cases h

/- Engel lists -/
/-- the sum of the unit fractions of the products -/
def engS (xs : List Int) : Option (Int × Int) := (prodL 1 xs).bind (sumL 0 1)
def engB (xs : List Int) : Bool := decide (xs.length ≤ 24) && up 0 2 xs && (engS xs).isSome
def engN (xs : List Int) : Int := if engB xs = true then ((engS xs).getD (0, 0)).1 else 0
def engD (xs : List Int) : Int := if engB xs = true then ((engS xs).getD (0, 0)).2 else 0
theorem engB_long {xs : List Int} (h : ¬ xs.length ≤ 24) : engB xs = false := by simp [engB, h]
theorem engB_up {xs : List Int} (h : up 0 2 xs = false) : engB xs = false := by simp [engB, h]
theorem engB_none {xs : List Int} (h : engS xs = none) : engB xs = false := by simp [engB, h]
theorem engB_yes {xs : List Int} {n d : Int} (h1 : xs.length ≤ 24) (h2 : up 0 2 xs = true) (h3 : engS xs = some (n, d)) : engB xs = true := by simp [engB, h1, h2, h3]
theorem engB_parts {xs : List Int} (h : engB xs = true) : xs.length ≤ 24 ∧ up 0 2 xs = true ∧ engS xs = some (engN xs, engD xs) := by
  have h0 := h
  simp only [engB, Bool.and_eq_true, decide_eq_true_eq] at h
  refine ⟨h.1.1, h.1.2, ?_⟩
  cases hs : engS xs with
  | none => rw [hs] at h; cases h.2
  | some p => simp [engN, engD, hs, h0]
theorem eng_no {xs : List Int} (h : engB xs = false) : engN xs = 0 ∧ engD xs = 0 := by simp [engN, engD, h]
theorem eng_of {xs : List Int} {n d : Int} (h : engB xs = true) (h3 : engS xs = some (n, d)) : engN xs = n ∧ engD xs = d := by simp [engN, engD, h, h3]
/-- products of an Engel list: an expansion exactly if the sum is told -/
theorem eng_exp {xs ps : List Int} (hl : xs.length ≤ 24) (hu : up 0 2 xs = true) (h : prodL 1 xs = some ps) : expB ps = (sumL 0 1 ps).isSome := by
  have hr := prodL_rise (by omega) (fun x hx => (up_in (by omega) hu x hx).1) h
  have h1 : rise 1 1000000000 none ps = true := by
    cases ps with
    | nil => rfl
    | cons q qs =>
      unfold rise at hr ⊢
      simp only [Bool.and_eq_true, decide_eq_true_eq, and_true] at hr ⊢
      exact ⟨hr.1.1, hr.2⟩
  have h2 := prodL_len h
  simp [expB, h1, h2, hl]

/- Pierce lists -/
/-- sums and differences in turn from n / d on, of the unit fractions of numbers -/
def altL : Bool → Int → Int → List Int → Option (Int × Int)
  | _, n, d, [] => some (n, d)
  | true, n, d, t :: ts => if redB (n * t + d) (d * t) = true then altL false (redN (n * t + d) (d * t)) (redD (n * t + d) (d * t)) ts else none
  | false, n, d, t :: ts => if d ≤ n * t ∧ redB (n * t - d) (d * t) = true then altL true (redN (n * t - d) (d * t)) (redD (n * t - d) (d * t)) ts else none
theorem altL_add {n d t : Int} {ts : List Int} (h : redB (n * t + d) (d * t) = true) : altL true n d (t :: ts) = altL false (redN (n * t + d) (d * t)) (redD (n * t + d) (d * t)) ts := by simp [altL, h]
theorem altL_add_no {n d t : Int} {ts : List Int} (h : redB (n * t + d) (d * t) = false) : altL true n d (t :: ts) = none := by simp [altL, h]
theorem altL_sub {n d t : Int} {ts : List Int} (hl : d ≤ n * t) (h : redB (n * t - d) (d * t) = true) : altL false n d (t :: ts) = altL true (redN (n * t - d) (d * t)) (redD (n * t - d) (d * t)) ts := by simp [altL, h, hl]
theorem altL_sub_no {n d t : Int} {ts : List Int} (h : d ≤ n * t → redB (n * t - d) (d * t) = false) : altL false n d (t :: ts) = none := by
  simp only [altL]
  rw [if_neg]
  intro hh
  rw [h hh.1] at hh
  cases hh.2
/-- the last number is one more than that before it -/
def nextB : List Int → Bool
  | [] => false
  | [_] => false
  | [x, y] => decide (y = x + 1)
  | _ :: y :: z :: zs => nextB (y :: z :: zs)
def pieS (xs : List Int) : Option (Int × Int) := (prodL 1 xs).bind (altL true 0 1)
def pieB (xs : List Int) : Bool := decide (xs.length ≤ 24) && up 1 1 xs && !nextB xs && (pieS xs).isSome
def pieN (xs : List Int) : Int := if pieB xs = true then ((pieS xs).getD (0, 0)).1 else 0
def pieD (xs : List Int) : Int := if pieB xs = true then ((pieS xs).getD (0, 0)).2 else 0
theorem pieB_long {xs : List Int} (h : ¬ xs.length ≤ 24) : pieB xs = false := by simp [pieB, h]
theorem pieB_up {xs : List Int} (h : up 1 1 xs = false) : pieB xs = false := by simp [pieB, h]
theorem pieB_next {xs : List Int} (h : nextB xs = true) : pieB xs = false := by simp [pieB, h]
theorem pieB_none {xs : List Int} (h : pieS xs = none) : pieB xs = false := by simp [pieB, h]
theorem pieB_yes {xs : List Int} {n d : Int} (h1 : xs.length ≤ 24) (h2 : up 1 1 xs = true) (h4 : nextB xs = false) (h3 : pieS xs = some (n, d)) : pieB xs = true := by simp [pieB, h1, h2, h3, h4]
theorem pieB_parts {xs : List Int} (h : pieB xs = true) : xs.length ≤ 24 ∧ up 1 1 xs = true ∧ nextB xs = false ∧ pieS xs = some (pieN xs, pieD xs) := by
  have h0 := h
  simp only [pieB, Bool.and_eq_true, decide_eq_true_eq, Bool.not_eq_true'] at h
  refine ⟨h.1.1.1, h.1.1.2, h.1.2, ?_⟩
  cases hs : pieS xs with
  | none => rw [hs] at h; cases h.2
  | some p => simp [pieN, pieD, hs, h0]
theorem pie_no {xs : List Int} (h : pieB xs = false) : pieN xs = 0 ∧ pieD xs = 0 := by simp [pieN, pieD, h]
theorem pie_of {xs : List Int} {n d : Int} (h : pieB xs = true) (h3 : pieS xs = some (n, d)) : pieN xs = n ∧ pieD xs = d := by simp [pieN, pieD, h, h3]
theorem nextB_short {xs : List Int} (h : xs.length ≤ 1) : nextB xs = false := by
  match xs, h with
  | [], _ => rfl
  | [_], _ => rfl
theorem nextB_last : ∀ {xs : List Int} {k : Nat} {x y : Int}, xs.length = k + 2 → xs[k]? = some x → xs[k + 1]? = some y → nextB xs = decide (y = x + 1)
  | [a, b], k, x, y, hl, hx, hy => by
    simp at hl
    subst hl
    simp at hx hy
    subst hx hy
    rfl
  | a :: b :: c :: zs, k, x, y, hl, hx, hy => by
    match k, hl, hx, hy with
    | 0, hl, _, _ => simp at hl
    | k + 1, hl, hx, hy => exact nextB_last (xs := b :: c :: zs) (k := k) (by simpa using hl) (by simpa using hx) (by simpa using hy)
  | [], k, x, y, hl, _, _ => by simp at hl
  | [_], k, x, y, hl, _, _ => by simp at hl

/- growth -/
def growsL : List Int → Bool
  | x :: y :: ys => decide (x * (x - 1) < y) && growsL (y :: ys)
  | _ => true
theorem growsL_short {xs : List Int} (h : xs.length ≤ 1) : growsL xs = true := by
  match xs, h with
  | [], _ => rfl
  | [_], _ => rfl
theorem growsL_step {xs : List Int} {k : Nat} {x y : Int} (hx : xs[k]? = some x) (hy : xs[k + 1]? = some y) : growsL (xs.drop k) = (decide (x * (x - 1) < y) && growsL (xs.drop (k + 1))) := by
  rw [drop_at hx, drop_at hy, growsL]
end Go.Proofs.YtolgjokghecceaaGreatDoor
