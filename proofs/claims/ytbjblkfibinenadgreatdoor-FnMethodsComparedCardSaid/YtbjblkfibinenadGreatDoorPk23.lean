import Derived.Test.YtbjblkfibinenadGreatDoorPk17
import Derived.Test.YtbjblkfibinenadGreatDoorPk22
import Derived.Test.YtbjblkfibinenadGreatDoorPk8
import Derived.Test.YtbjblkfibinenadGreatDoorPk7

/-
  Contracts of the expansion by factorials, in the program and in the model.
-/
namespace Go.Proofs.YtbjblkfibinenadGreatDoor
open Go.RowKit
open Go.Maps Go.WideMaps
def fxO (n d : Int) : Option (List Int) := pexO n d (faO n d)
theorem faO_some {n d : Int} {ds : List Int} (h : fdO n d = some ds) : faO n d = some (facT 0 ds) ∧ ds.length ≤ 11 ∧ ∀ (i : Nat) (x : Int), ds[i]? = some x → 0 ≤ x ∧ x ≤ (i : Int) + 1 := by
  refine ⟨by unfold faO; rw [h]; rfl, by have := fdO_len n d; rw [h] at this; exact this, ?_⟩
  unfold fdO at h
  split at h
  · injection h with h
    subst h
    exact digL_in _ _
  · cases h
theorem faO_none {n d : Int} (h : fdO n d = none) : faO n d = none := by unfold faO; rw [h]; rfl
set_option maxRecDepth 100000 in
set_option maxHeartbeats 4000000 in
theorem facTerms_any (n d : Int) (w : World) (rn : -9223372036854775808 ≤ n ∧ n ≤ 9223372036854775807) (rd : -9223372036854775808 ≤ d ∧ d ≤ 9223372036854775807) : Calls Tryz.prog 137 #[.agg #[], .agg #[.int .i64 n, .int .i64 d]] w (RetM (faO n d) w) := by
  go_enter Tryz.func137, Tryz.ntmps137
  go_wp2_with fail
  refine (factorialDigits_any n d _ rn rd).mono ?_; rintro e w2 ⟨v2, rfl, ho2, hb2⟩
  have hz2 := hb2.size
  simp only [World.size_alloc] at hz2
  have hb2' : Below w.heap.size w w2 := by (repeat' (first | (with_reducible exact Below.refl _ _) | (with_reducible assumption) | (with_reducible refine Below.drew ?_) | (with_reducible refine belowDrewN ?_ _) | (with_reducible refine Below.alloc ?_ ?_ _) | (with_reducible refine Below.setCell ?_ ?_ _) | (with_reducible refine belowStep (by assumption) ?_ ?_) | (with_reducible exact Below.size (by assumption)) | go_size))
  cases hf : fdO n d with
  | none =>
    rw [hf] at ho2
    have E := Lib.hid (faO_none hf)
    obtain ⟨A2, c2, rfl, hr2⟩ := ho2.form
    clear ho2 hr2
    go_wp2
    refine wp_loop_rounds 1 ?_
    rw [rounds_succ]
    go_wp2
    go_ret2
    rw [E.out]
    exact ⟨_, _, rfl, rfl, fun xs hx => by (cases hx), by (repeat' (first | (with_reducible exact Below.refl _ _) | (with_reducible assumption) | (with_reducible refine Below.drew ?_) | (with_reducible refine belowDrewN ?_ _) | (with_reducible refine Below.alloc ?_ ?_ _) | (with_reducible refine Below.setCell ?_ ?_ _) | (with_reducible refine belowStep (by assumption) ?_ ?_) | (with_reducible exact Below.size (by assumption)) | go_size))⟩
  | some ds =>
    rw [hf] at ho2
    obtain ⟨e1, hl, hin⟩ := faO_some hf
    have E := Lib.hid e1
    have Hin := Lib.hid hin
    obtain ⟨A2, c2, rfl, hr2⟩ := ho2.form
    have Hr2 : Hid (Reads w2 A2 ds) := Lib.hid hr2
    clear ho2 hr2 hin e1
    go_wp2
    go_loopw [8, 19] (fun v8 v19 wr => ∃ (k : Nat) (A : Option Addr) (c : Nat), k ≤ ds.length ∧ v19 = .int .i64 (k : Int) ∧ v8 = .slice A (facT 0 (ds.take k)).length c ∧ OwnI wr w2.heap.size (.slice A (facT 0 (ds.take k)).length c) (facT 0 (ds.take k)) ∧ Below w2.heap.size w2 wr) (fun _ v19 _ => ds.length - (intOf v19).toNat)
    case atStart => exact ⟨0, _, _, Nat.zero_le _, rfl, rfl, OwnI.zero w2 w2.heap.size (Nat.le_refl _), by (repeat' (first | (with_reducible exact Below.refl _ _) | (with_reducible assumption) | (with_reducible refine Below.drew ?_) | (with_reducible refine belowDrewN ?_ _) | (with_reducible refine Below.alloc ?_ ?_ _) | (with_reducible refine Below.setCell ?_ ?_ _) | (with_reducible refine belowStep (by assumption) ?_ ?_) | (with_reducible exact Below.size (by assumption)) | go_size))⟩
    case round =>
      obtain ⟨k, A, c, hk, rfl, rfl, ho, hbr⟩ := hrel
      have hzr := hbr.size
      have Ho := Lib.hid ho
      clear ho
      by_cases hlt : k < ds.length
      · obtain ⟨b, o, x, rfl, hb, hx, hcell⟩ := (Hr2.out.below hbr).at_ hlt
        obtain ⟨x0, x1⟩ := Hin.out k x hx
        have hN := Lib.hid (facT_next hlt hx)
        have hfl := facT_len 0 (ds.take k)
        have htl : (ds.take k).length ≤ 11 := by rw [List.length_take]; omega
        clear hx
        by_cases hp : 0 < x
        · have hN2 : Hid (facT 0 (ds.take (k + 1)) = facT 0 (ds.take k) ++ [fac (k + 2) / x]) := Lib.hid (by rw [hN.out, if_pos hp])
          have hff := fac_in (n := k + 2) (by omega)
          have t12 := term_in hp x1
          have hne : x ≠ 0 := by omega
          have HF : Hid (∀ w : World, Calls Tryz.prog 139 #[.int .i64 ((k : Int) + 2)] w (RetQ (.int .i64 (fac (k + 2))) w)) := Lib.hid fun w => factorialOf_any (k + 2) w (by omega)
          have hf1 := fac_pos (k + 1)
          have htd : (fac (k + 2)).tdiv x = fac (k + 2) / x := Int.tdiv_eq_ediv_of_nonneg (by omega)
          generalize facT 0 (ds.take k) = xs at *
          generalize fac (k + 2) = F at *
          go_wp2_with (first | (go_at_call 139; refine (HF.out _).mono ?_; rintro e w1 ⟨rfl, k1, rfl⟩) | (at_builtin; refine wpList_app _ (o := ⟨some 33, _, _, _, _, _⟩) (ys := [F / x]) rfl _ _ rfl rfl (Ho.out.below (by (repeat' (first | (with_reducible exact Below.refl _ _) | (with_reducible assumption) | (with_reducible refine Below.drew ?_) | (with_reducible refine belowDrewN ?_ _) | (with_reducible refine Below.alloc ?_ ?_ _) | (with_reducible refine Below.setCell ?_ ?_ _) | (with_reducible refine belowStep (by assumption) ?_ ?_) | (with_reducible exact Below.size (by assumption)) | go_size)))) (1) (1) (by first | (simp; done) | (simp; omega)) rfl (Reads.one _ (F / x)) (by (try simp only [List.length_nil, List.length_cons]); omega) (by first | exact Nat.le_refl _ | ((try simp only [World.size_alloc, World.heap_drewN]); omega)) ?_; intro v3 w3 ho3 hb3 hg3 ht3; clear hg3 ht3; have hz3 := hb3.size; (try simp only [World.size_alloc, World.heap_drewN] at hz3)))
          obtain ⟨A3, c3, rfl, hr3⟩ := ho3.form
          go_roundw
          case rel => exact ⟨k + 1, A3, c3, by omega, by go_num, by rw [hN2.out], by rw [hN2.out]; exact ho3, by (repeat' (first | (with_reducible exact Below.refl _ _) | (with_reducible assumption) | (with_reducible refine Below.drew ?_) | (with_reducible refine belowDrewN ?_ _) | (with_reducible refine Below.alloc ?_ ?_ _) | (with_reducible refine Below.setCell ?_ ?_ _) | (with_reducible refine belowStep (by assumption) ?_ ?_) | (with_reducible exact Below.size (by assumption)) | go_size))⟩
          case measure => simp [intOf]; omega
        · have hN2 : Hid (facT 0 (ds.take (k + 1)) = facT 0 (ds.take k)) := Lib.hid (by rw [hN.out, if_neg hp, List.append_nil])
          go_wp2
          go_roundw
          case rel => exact ⟨k + 1, A, c, by omega, by go_num, by rw [hN2.out], by rw [hN2.out]; exact Ho.out, by (repeat' (first | (with_reducible exact Below.refl _ _) | (with_reducible assumption) | (with_reducible refine Below.drew ?_) | (with_reducible refine belowDrewN ?_ _) | (with_reducible refine Below.alloc ?_ ?_ _) | (with_reducible refine Below.setCell ?_ ?_ _) | (with_reducible refine belowStep (by assumption) ?_ ?_) | (with_reducible exact Below.size (by assumption)) | go_size))⟩
          case measure => simp [intOf]; omega
      · obtain rfl : k = ds.length := by omega
        have Ho2 : Hid (OwnI wr w2.heap.size (.slice A (facT 0 (ds.take ds.length)).length c) (facT 0 ds)) := Lib.hid (by have := Ho.out; rw [List.take_length] at this ⊢; exact this)
        go_wp2
        go_ret2
        rw [E.out]
        exact ⟨_, _, rfl, rfl, fun xs hx => by injection hx with hx; subst hx; exact Ho2.out.mono (by (first | (go_size; done) | ((try simp only [World.size_alloc, World.size_setCell, World.size_drew, World.heap_drewN]); omega))), by (repeat' (first | (with_reducible exact Below.refl _ _) | (with_reducible assumption) | (with_reducible refine Below.drew ?_) | (with_reducible refine belowDrewN ?_ _) | (with_reducible refine Below.alloc ?_ ?_ _) | (with_reducible refine Below.setCell ?_ ?_ _) | (with_reducible refine belowStep (by assumption) ?_ ?_) | (with_reducible exact Below.size (by assumption)) | go_size))⟩
set_option maxRecDepth 100000 in
theorem facMethod (j : Nat) (w : World) : (method (j + 1) 81 (.agg #[]) "loop.example/g01107/impl.termsOf").run Tryz.prog w = .ok (137, .agg #[]) w := by kernel_rfl
set_option maxRecDepth 100000 in
theorem facD (zd : DataW Unit) : mD.atKey (.string [102, 97, 99, 116, 111, 114, 105, 97, 108]) zd = .lit (.int .i64 ((81 : Nat) : Int)) := by kernel_rfl
end Go.Proofs.YtbjblkfibinenadGreatDoor


/-
  The contract of the model's expansion by factorials.
-/
namespace Go.Proofs.YtbjblkfibinenadGreatDoor
open Go.RowKit
theorem fxO_pro {n d : Int} (h : proB n d = false) : fxO n d = none := by unfold fxO pexO; rw [h]; rfl
theorem fxO_zero {n d : Int} (h : leastF d = 0) : fxO n d = none := by
  unfold fxO pexO faO
  rw [fdO_zero h]
  cases proB n d <;> rfl
theorem fxO_some {n d : Int} (hp : proB n d = true) (h : leastF d ≠ 0) : fxO n d = if expB (facT 0 (fdL n d)) = true then some (facT 0 (fdL n d)) else none := by
  have e : faO n d = some (facT 0 (fdL n d)) := by unfold faO; rw [fdO_yes hp h]; rfl
  have hf := faO_facts e
  unfold fxO pexO
  rw [hp, e, if_pos rfl]
  unfold exO
  rw [Option.bind_some, srt_rising hf.2.2.1]
theorem fxO_len (n d : Int) : ((fxO n d).getD []).length ≤ 24 := by
  unfold fxO pexO
  split
  · cases h : faO n d with
    | none => simp [exO]
    | some xs =>
      cases hx : expB (srt xs) with
      | true => rw [exO_yes hx]; exact expB_len hx
      | false => rw [exO_no hx]; simp
  · simp
set_option maxRecDepth 100000 in
set_option maxHeartbeats 4000000 in
theorem spec_factorialExp_any (n d : Int) (w : World) : Calls Tryz.prog 37 #[.agg #[.int .i64 n, .int .i64 d]] w (RetRB ((fxO n d).getD []) (fxO n d).isSome w) := by
  cases h : proB n d with
  | false =>
    have E := Lib.hid (fxO_pro h)
    go_enter Tryz.func37, Tryz.ntmps37
    go_wp2_with (go_at_call 22; refine (meProper_any _ _ _).mono ?_; rintro e w1 ⟨rfl, hb1⟩; obtain ⟨hc1, hf1⟩ := bcellB hb1; have hz1 := hb1.size; (try simp only [World.size_alloc] at hc1 hf1 hz1); (try have hy1_r_0 : wr.heap.size < w1.heap.size := by omega); (try have hn1_r_0 : wr.heap.size ≠ w1.heap.size := by omega); (try have hm1_r_0 : w1.heap.size ≠ wr.heap.size := by omega); (try have hy1_r_1 : wr.heap.size + 1 < w1.heap.size := by omega); (try have hn1_r_1 : wr.heap.size + 1 ≠ w1.heap.size := by omega); (try have hm1_r_1 : w1.heap.size ≠ wr.heap.size + 1 := by omega); (try have hy1_r_2 : wr.heap.size + 1 + 1 < w1.heap.size := by omega); (try have hp1_r_1 : wr.heap.size < w1.heap.size + 1 := by omega); (try have hp1_r_2 : wr.heap.size < w1.heap.size + 1 + 1 := by omega); (try have hy1_0_0 : w.heap.size < w1.heap.size := by omega); (try have hn1_0_0 : w.heap.size ≠ w1.heap.size := by omega); (try have hm1_0_0 : w1.heap.size ≠ w.heap.size := by omega); (try have hy1_0_1 : w.heap.size + 1 < w1.heap.size := by omega); (try have hn1_0_1 : w.heap.size + 1 ≠ w1.heap.size := by omega); (try have hm1_0_1 : w1.heap.size ≠ w.heap.size + 1 := by omega); (try have hy1_0_2 : w.heap.size + 1 + 1 < w1.heap.size := by omega); (try have hp1_0_1 : w.heap.size < w1.heap.size + 1 := by omega); (try have hp1_0_2 : w.heap.size < w1.heap.size + 1 + 1 := by omega); (try have hg1_g1 : g1 < w1.heap.size := by omega); (try have hi1_g1 : g1 ≠ w1.heap.size := by omega); (try have hj1_g1 : w1.heap.size ≠ g1 := by omega); (try have hk1_g1 : g1 < w1.heap.size + 1 := by omega); (try have hg1_g2 : g2 < w1.heap.size := by omega); (try have hi1_g2 : g2 ≠ w1.heap.size := by omega); (try have hj1_g2 : w1.heap.size ≠ g2 := by omega); (try have hk1_g2 : g2 < w1.heap.size + 1 := by omega))
    go_ret2
    rw [E.out]
    exact ⟨none, 0, rfl, Reads.nil, by (repeat' (first | (with_reducible exact Below.refl _ _) | (with_reducible assumption) | (with_reducible refine Below.drew ?_) | (with_reducible refine belowDrewN ?_ _) | (with_reducible refine Below.alloc ?_ ?_ _) | (with_reducible refine Below.setCell ?_ ?_ _) | (with_reducible refine belowStep (by assumption) ?_ ?_) | (with_reducible exact Below.size (by assumption)) | go_size))⟩
  | true =>
    have hd2 := (proB_bounds h).2.2.1
    have HL := Lib.hid fun (w : World) => meLeast_any d w (by omega)
    by_cases h0 : leastF d = 0
    · have E := Lib.hid (fxO_zero (n := n) h0)
      rw [h0] at HL
      go_enter Tryz.func37, Tryz.ntmps37
      go_wp2_with (first | (go_at_call 22; refine (meProper_any _ _ _).mono ?_; rintro e w1 ⟨rfl, hb1⟩; obtain ⟨hc1, hf1⟩ := bcellB hb1; have hz1 := hb1.size; (try simp only [World.size_alloc] at hc1 hf1 hz1); (try have hy1_r_0 : wr.heap.size < w1.heap.size := by omega); (try have hn1_r_0 : wr.heap.size ≠ w1.heap.size := by omega); (try have hm1_r_0 : w1.heap.size ≠ wr.heap.size := by omega); (try have hy1_r_1 : wr.heap.size + 1 < w1.heap.size := by omega); (try have hn1_r_1 : wr.heap.size + 1 ≠ w1.heap.size := by omega); (try have hm1_r_1 : w1.heap.size ≠ wr.heap.size + 1 := by omega); (try have hy1_r_2 : wr.heap.size + 1 + 1 < w1.heap.size := by omega); (try have hp1_r_1 : wr.heap.size < w1.heap.size + 1 := by omega); (try have hp1_r_2 : wr.heap.size < w1.heap.size + 1 + 1 := by omega); (try have hy1_0_0 : w.heap.size < w1.heap.size := by omega); (try have hn1_0_0 : w.heap.size ≠ w1.heap.size := by omega); (try have hm1_0_0 : w1.heap.size ≠ w.heap.size := by omega); (try have hy1_0_1 : w.heap.size + 1 < w1.heap.size := by omega); (try have hn1_0_1 : w.heap.size + 1 ≠ w1.heap.size := by omega); (try have hm1_0_1 : w1.heap.size ≠ w.heap.size + 1 := by omega); (try have hy1_0_2 : w.heap.size + 1 + 1 < w1.heap.size := by omega); (try have hp1_0_1 : w.heap.size < w1.heap.size + 1 := by omega); (try have hp1_0_2 : w.heap.size < w1.heap.size + 1 + 1 := by omega); (try have hg1_g1 : g1 < w1.heap.size := by omega); (try have hi1_g1 : g1 ≠ w1.heap.size := by omega); (try have hj1_g1 : w1.heap.size ≠ g1 := by omega); (try have hk1_g1 : g1 < w1.heap.size + 1 := by omega); (try have hg1_g2 : g2 < w1.heap.size := by omega); (try have hi1_g2 : g2 ≠ w1.heap.size := by omega); (try have hj1_g2 : w1.heap.size ≠ g2 := by omega); (try have hk1_g2 : g2 < w1.heap.size + 1 := by omega)) | (go_at_call 64; refine (HL.out _).mono ?_; rintro e w1 ⟨rfl, k1, rfl⟩))
      go_ret2
      rw [E.out]
      exact ⟨none, 0, rfl, Reads.nil, by (repeat' (first | (with_reducible exact Below.refl _ _) | (with_reducible assumption) | (with_reducible refine Below.drew ?_) | (with_reducible refine belowDrewN ?_ _) | (with_reducible refine Below.alloc ?_ ?_ _) | (with_reducible refine Below.setCell ?_ ?_ _) | (with_reducible refine belowStep (by assumption) ?_ ?_) | (with_reducible exact Below.size (by assumption)) | go_size))⟩
    · have E := Lib.hid (fxO_some h h0)
      have hz : (leastF d == 0) = false := by simp [h0]
      have HM := Lib.hid fun (w : World) => meDigits_any n d w h h0
      obtain ⟨_, hl, hin⟩ := faO_some (fdO_yes h h0)
      have Hin := Lib.hid hin
      have T0 := Lib.hid (TwoAt.new w n d 27)
      clear hin
      generalize fdL n d = ds at *
      go_enter Tryz.func37, Tryz.ntmps37
      go_wp2_with (first | (go_at_call 22; refine (meProper_any _ _ _).mono ?_; rintro e w1 ⟨rfl, hb1⟩; obtain ⟨hc1, hf1⟩ := bcellB hb1; have hz1 := hb1.size; (try simp only [World.size_alloc] at hc1 hf1 hz1); (try have hy1_r_0 : wr.heap.size < w1.heap.size := by omega); (try have hn1_r_0 : wr.heap.size ≠ w1.heap.size := by omega); (try have hm1_r_0 : w1.heap.size ≠ wr.heap.size := by omega); (try have hy1_r_1 : wr.heap.size + 1 < w1.heap.size := by omega); (try have hn1_r_1 : wr.heap.size + 1 ≠ w1.heap.size := by omega); (try have hm1_r_1 : w1.heap.size ≠ wr.heap.size + 1 := by omega); (try have hy1_r_2 : wr.heap.size + 1 + 1 < w1.heap.size := by omega); (try have hp1_r_1 : wr.heap.size < w1.heap.size + 1 := by omega); (try have hp1_r_2 : wr.heap.size < w1.heap.size + 1 + 1 := by omega); (try have hy1_0_0 : w.heap.size < w1.heap.size := by omega); (try have hn1_0_0 : w.heap.size ≠ w1.heap.size := by omega); (try have hm1_0_0 : w1.heap.size ≠ w.heap.size := by omega); (try have hy1_0_1 : w.heap.size + 1 < w1.heap.size := by omega); (try have hn1_0_1 : w.heap.size + 1 ≠ w1.heap.size := by omega); (try have hm1_0_1 : w1.heap.size ≠ w.heap.size + 1 := by omega); (try have hy1_0_2 : w.heap.size + 1 + 1 < w1.heap.size := by omega); (try have hp1_0_1 : w.heap.size < w1.heap.size + 1 := by omega); (try have hp1_0_2 : w.heap.size < w1.heap.size + 1 + 1 := by omega); (try have hg1_g1 : g1 < w1.heap.size := by omega); (try have hi1_g1 : g1 ≠ w1.heap.size := by omega); (try have hj1_g1 : w1.heap.size ≠ g1 := by omega); (try have hk1_g1 : g1 < w1.heap.size + 1 := by omega); (try have hg1_g2 : g2 < w1.heap.size := by omega); (try have hi1_g2 : g2 ≠ w1.heap.size := by omega); (try have hj1_g2 : w1.heap.size ≠ g2 := by omega); (try have hk1_g2 : g2 < w1.heap.size + 1 := by omega)) | (go_at_call 64; refine (HL.out _).mono ?_; rintro e w1 ⟨rfl, k1, rfl⟩))
      refine (HM.out _).mono ?_; rintro e w2 ⟨v2, rfl, ho2, hb2⟩; obtain ⟨A2, c2, rfl, hr2⟩ := ho2.form
      have hz2 := hb2.size
      (try simp only [World.heap_drewN] at hz2)
      have Hr2 := Lib.hid hr2
      clear ho2 hr2
      go_wp2
      go_loopw [4, 19] (fun v4 v19 wr => ∃ (k : Nat) (A : Option Addr) (c : Nat), k ≤ ds.length ∧ v19 = .int .i64 (k : Int) ∧ v4 = .slice A (facT 0 (ds.take k)).length c ∧ OwnI wr w2.heap.size (.slice A (facT 0 (ds.take k)).length c) (facT 0 (ds.take k)) ∧ Below w2.heap.size w2 wr) (fun _ v19 _ => ds.length - (intOf v19).toNat)
      case atStart => exact ⟨0, none, 0, Nat.zero_le _, rfl, rfl, OwnI.empty _ _, by (repeat' (first | (with_reducible exact Below.refl _ _) | (with_reducible assumption) | (with_reducible refine Below.drew ?_) | (with_reducible refine belowDrewN ?_ _) | (with_reducible refine Below.alloc ?_ ?_ _) | (with_reducible refine Below.setCell ?_ ?_ _) | (with_reducible refine belowStep (by assumption) ?_ ?_) | (with_reducible exact Below.size (by assumption)) | go_size))⟩
      case round =>
        obtain ⟨k, A, c, hk, rfl, rfl, ho, hbr⟩ := hrel
        have hzr := hbr.size
        have Ho := Lib.hid ho
        clear ho
        by_cases hlt : k < ds.length
        · obtain ⟨b, o, x, rfl, hb, hx, hcell⟩ := (Hr2.out.below hbr).at_ hlt
          obtain ⟨x0, x1⟩ := Hin.out k x hx
          have hN := Lib.hid (facT_next hlt hx)
          have hfl := facT_len 0 (ds.take k)
          have htl : (ds.take k).length ≤ 11 := by rw [List.length_take]; omega
          clear hx
          by_cases hp : 0 < x
          · have hN2 : Hid (facT 0 (ds.take (k + 1)) = facT 0 (ds.take k) ++ [fac (k + 2) / x]) := Lib.hid (by rw [hN.out, if_pos hp])
            have hff := fac_in (n := k + 2) (by omega)
            have t12 := term_in hp x1
            have hne : x ≠ 0 := by omega
            have HF : Hid (∀ w : World, Calls Tryz.prog 66 #[.int .i64 ((k : Int) + 2)] w (RetQ (.int .i64 (fac (k + 2))) w)) := Lib.hid fun w => meFactorial_any (k + 2) w (by omega)
            have hf1 := fac_pos (k + 1)
            have htd : (fac (k + 2)).tdiv x = fac (k + 2) / x := Int.tdiv_eq_ediv_of_nonneg (by omega)
            generalize facT 0 (ds.take k) = xs at *
            generalize fac (k + 2) = F at *
            go_wp2_with (first | (go_at_call 66; refine (HF.out _).mono ?_; rintro e w1 ⟨rfl, k1, rfl⟩) | (at_builtin; refine wpList_app _ (o := ⟨some 33, _, _, _, _, _⟩) (ys := [F / x]) rfl _ _ rfl rfl (Ho.out.below (by (repeat' (first | (with_reducible exact Below.refl _ _) | (with_reducible assumption) | (with_reducible refine Below.drew ?_) | (with_reducible refine belowDrewN ?_ _) | (with_reducible refine Below.alloc ?_ ?_ _) | (with_reducible refine Below.setCell ?_ ?_ _) | (with_reducible refine belowStep (by assumption) ?_ ?_) | (with_reducible exact Below.size (by assumption)) | go_size)))) (1) (1) (by first | (simp; done) | (simp; omega)) rfl (Reads.one _ (F / x)) (by (try simp only [List.length_nil, List.length_cons]); omega) (by first | exact Nat.le_refl _ | ((try simp only [World.size_alloc, World.heap_drewN]); omega)) ?_; intro v3 w3 ho3 hb3 hg3 ht3; clear hg3 ht3; have hz3 := hb3.size; (try simp only [World.size_alloc, World.heap_drewN] at hz3)))
            obtain ⟨A3, c3, rfl, hr3⟩ := ho3.form
            go_roundw
            case rel => exact ⟨k + 1, A3, c3, by omega, by go_num, by rw [hN2.out], by rw [hN2.out]; exact ho3, by (repeat' (first | (with_reducible exact Below.refl _ _) | (with_reducible assumption) | (with_reducible refine Below.drew ?_) | (with_reducible refine belowDrewN ?_ _) | (with_reducible refine Below.alloc ?_ ?_ _) | (with_reducible refine Below.setCell ?_ ?_ _) | (with_reducible refine belowStep (by assumption) ?_ ?_) | (with_reducible exact Below.size (by assumption)) | go_size))⟩
            case measure => simp [intOf]; omega
          · have hN2 : Hid (facT 0 (ds.take (k + 1)) = facT 0 (ds.take k)) := Lib.hid (by rw [hN.out, if_neg hp, List.append_nil])
            go_wp2
            go_roundw
            case rel => exact ⟨k + 1, A, c, by omega, by go_num, by rw [hN2.out], by rw [hN2.out]; exact Ho.out, by (repeat' (first | (with_reducible exact Below.refl _ _) | (with_reducible assumption) | (with_reducible refine Below.drew ?_) | (with_reducible refine belowDrewN ?_ _) | (with_reducible refine Below.alloc ?_ ?_ _) | (with_reducible refine Below.setCell ?_ ?_ _) | (with_reducible refine belowStep (by assumption) ?_ ?_) | (with_reducible exact Below.size (by assumption)) | go_size))⟩
            case measure => simp [intOf]; omega
        · obtain rfl : k = ds.length := by omega
          have hfl := facT_len 0 (ds.take ds.length)
          obtain ⟨Aq, cq, eq1, hr⟩ := Ho.out.form
          injection eq1 with eq2 eq3 eq4
          subst eq2
          have Hr := Lib.hid hr
          have HT : Hid (facT 0 (ds.take ds.length) = facT 0 ds) := Lib.hid (by rw [List.take_length])
          rw [HT.out] at hfl Hr
          have htl : (ds.take ds.length).length ≤ 11 := by rw [List.length_take]; omega
          clear hr
          rw [HT.out]
          generalize facT 0 ds = xs at *
          cases hx : expB xs with
          | true =>
            rw [hx] at E
            go_wp2_with fail
            refine (unList_yes _ A _ xs Hr.out (by omega) hx).mono ?_; rintro e w3 ⟨rfl, hb3⟩
            have hz3 := hb3.size
            go_wp2
            go_ret2
            rw [E.out]
            exact ⟨_, _, rfl, Hr.out.below hb3, by (repeat' (first | (with_reducible exact Below.refl _ _) | (with_reducible assumption) | (with_reducible refine Below.drew ?_) | (with_reducible refine belowDrewN ?_ _) | (with_reducible refine Below.alloc ?_ ?_ _) | (with_reducible refine Below.setCell ?_ ?_ _) | (with_reducible refine belowStep (by assumption) ?_ ?_) | (with_reducible exact Below.size (by assumption)) | go_size))⟩
          | false =>
            rw [hx] at E
            go_wp2_with fail
            refine (unList_no _ A _ xs Hr.out (by omega) hx).mono ?_; rintro e w3 ⟨rfl, hb3⟩
            have hz3 := hb3.size
            go_wp2
            go_ret2
            rw [E.out]
            exact ⟨none, 0, rfl, Reads.nil, by (repeat' (first | (with_reducible exact Below.refl _ _) | (with_reducible assumption) | (with_reducible refine Below.drew ?_) | (with_reducible refine belowDrewN ?_ _) | (with_reducible refine Below.alloc ?_ ?_ _) | (with_reducible refine Below.setCell ?_ ?_ _) | (with_reducible refine belowStep (by assumption) ?_ ?_) | (with_reducible exact Below.size (by assumption)) | go_size))⟩
end Go.Proofs.YtbjblkfibinenadGreatDoor


/-
  Contracts of the program's test of a list that rises or does not fall, and of its products.
-/
namespace Go.Proofs.YtbjblkfibinenadGreatDoor
open Go.RowKit
/-- what the program's products are: none at all if one is too great -/
def prodB (xs : List Int) : Bool := (prodL 1 xs).isSome
def prodQ (xs : List Int) : List Int := (prodL 1 xs).getD []
theorem prod_some {xs ps : List Int} (h : prodL 1 xs = some ps) : prodB xs = true ∧ prodQ xs = ps := by simp [prodB, prodQ, h]
theorem prod_none {xs : List Int} (h : prodL 1 xs = none) : prodB xs = false ∧ prodQ xs = [] := by simp [prodB, prodQ, h]
set_option maxRecDepth 100000 in
set_option maxHeartbeats 4000000 in
theorem products_any (w : World) (Axs : Option Addr) (cxs : Nat) (xs : List Int) (hxs : Reads w Axs xs) (lxs : xs.length ≤ 1048576) (hin : ∀ x ∈ xs, 1 ≤ x ∧ x ≤ 1000000000) (hl : xs.length ≤ 24) : Calls Tryz.prog 32 #[.slice Axs xs.length cxs] w (RetLB (prodQ xs) (prodB xs) w) := by
  have Hxs := Lib.hid hxs
  have Hin := Lib.hid hin
  clear hxs hin
  obtain ⟨i0, hi, hz0, hz1, hz2⟩ := info_parts intInfo
  go_enter Tryz.func32, Tryz.ntmps32
  go_wp2_with (at_make; refine wpList_make_full _ rfl _ _ 24 rfl w.heap.size 3 i0 (.int .i64 0) 1 Tryz.underlying24 hi hz0 hz1 .i64 .i64 _ _ xs.length rfl rfl rfl rfl (by rw [hz2]; omega) (by unfold maxLen; omega) (Nat.le_refl _) ?_; intro w1 hown1 hgrow1)
  have hown : OwnI w1 w.heap.size (.slice (some ⟨w.heap.size, 0, none⟩) xs.length xs.length) ([] ++ List.replicate (xs.length - 0) 0) := by
    unfold OwnI
    rw [List.nil_append, Nat.sub_zero, List.length_replicate, List.map_replicate]
    rw [show (Value.int IntKind.i64 0).cells = #[Value.int IntKind.i64 0] from rfl, Nat.mul_one, toList_madeCells_one] at hown1
    exact hown1
  have hb1 : Below w.heap.size w w1 := (Below.refl _ _).grown hgrow1 (Nat.le_refl _) (by simp)
  clear hown1 hgrow1
  go_loopw [5, 13] (fun v5 v13 wr => ∃ (k : Nat) (p : Int) (qs : List Int), k ≤ xs.length ∧ v5 = .int .i64 p ∧ v13 = .int .i64 k ∧ 1 ≤ p ∧ p ≤ 1000000000 ∧ qs.length = k ∧ prodL 1 xs = (prodL p (xs.drop k)).map (qs ++ ·) ∧ OwnI wr w.heap.size (.slice (some ⟨w.heap.size, 0, none⟩) xs.length xs.length) (qs ++ List.replicate (xs.length - k) 0) ∧ Below w.heap.size w wr) (fun _ v13 _ => xs.length - (intOf v13).toNat)
  case atStart => exact ⟨0, 1, [], Nat.zero_le _, rfl, rfl, by omega, by omega, rfl, by cases h : prodL 1 xs <;> simp [h], hown, hb1⟩
  case round =>
    obtain ⟨k, p, qs, hk, rfl, rfl, p1, p2, hql, hr, ho, hbr⟩ := hrel
    have Hr := Lib.hid hr
    clear hr
    by_cases hlt : k < xs.length
    · obtain ⟨b, o, x, rfl, hb, hx, hcell⟩ := (Hxs.out.below hbr).at_ hlt
      obtain ⟨x1, x2⟩ := Hin.out x (List.mem_of_getElem? hx)
      have hlen : (qs ++ List.replicate (xs.length - k) (0 : Int)).length = xs.length := by simp; omega
      have hat : (qs ++ List.replicate (xs.length - k) (0 : Int))[k]? = some 0 := by
        rw [List.getElem?_append_right (by omega), hql, Nat.sub_self, List.getElem?_replicate, if_pos (by omega)]
      obtain ⟨hC, hF⟩ := ho.cell_ hlen.symm hat
      have Ho := Lib.hid ho
      have Hx := Lib.hid hx
      have hm := mul_bounds (a := p) (b := x) (by omega) p2 (by omega) x2
      have hm1 := mul_pos1 p1 x1
      have Hset : Hid ((qs ++ List.replicate (xs.length - k) (0 : Int)).set k (p * x) = (qs ++ [p * x]) ++ List.replicate (xs.length - (k + 1)) 0) := Lib.hid (by
        rw [List.set_append_right _ _ (by omega), hql, Nat.sub_self, show xs.length - k = (xs.length - (k + 1)) + 1 from by omega, List.replicate_succ, List.set_cons_zero, List.append_assoc, List.singleton_append])
      have Hlen := Lib.hid hlen
      clear ho hx hlen hat
      by_cases hle : p * x ≤ 1000000000
      · have Hst := Lib.hid (prodL_yes (xs := xs.drop (k + 1)) hle)
        go_wp2
        go_roundw
        case rel => exact ⟨k + 1, p * x, qs ++ [p * x], by omega, rfl, by go_num, hm1, hle, by simp [hql], by
            rw [Hr.out, drop_at Hx.out, Hst.out, Option.map_map]
            congr 1
            funext z
            simp, by rw [← Hset.out]; exact Ho.out.set_ Hlen.out.symm k (p * x), hbr.setCell (Nat.le_refl _) _⟩
        case measure => simp [intOf]; omega
      · have Hn : Hid (prodL 1 xs = none) := Lib.hid (by rw [Hr.out, drop_at Hx.out, prodL_no hle]; rfl)
        go_wp2
        go_ret2
        rw [(prod_none Hn.out).1, (prod_none Hn.out).2]
        exact ⟨_, rfl, OwnI.empty _ _, by (repeat' (first | (with_reducible exact Below.refl _ _) | (with_reducible assumption) | (with_reducible refine Below.drew ?_) | (with_reducible refine belowDrewN ?_ _) | (with_reducible refine Below.alloc ?_ ?_ _) | (with_reducible refine Below.setCell ?_ ?_ _) | (with_reducible refine belowStep (by assumption) ?_ ?_) | (with_reducible exact Below.size (by assumption)) | go_size))⟩
    · obtain rfl : k = xs.length := by omega
      have Hn : Hid (prodL 1 xs = some qs) := Lib.hid (by rw [Hr.out, drop_all]; simp [prodL])
      rw [Nat.sub_self, List.replicate_zero, List.append_nil] at ho
      have Ho := Lib.hid ho
      clear ho
      go_wp2
      go_ret2
      rw [(prod_some Hn.out).1, (prod_some Hn.out).2]
      exact ⟨_, rfl, Ho.out, hbr⟩
end Go.Proofs.YtbjblkfibinenadGreatDoor


/-
  Contracts of the test whether the terms of an expansion grow faster than squares.
-/
namespace Go.Proofs.YtbjblkfibinenadGreatDoor
open Go.RowKit
def gB (xs : List Int) : Bool := expB xs && growsL xs
theorem gB_no {xs : List Int} (h : expB xs = false) : gB xs = false := by simp [gB, h]
theorem gB_yes {xs : List Int} (h : expB xs = true) : gB xs = growsL xs := by simp [gB, h]
theorem ret_bb {a b c d : Bool} (h : a = c) (h2 : b = d) : Ending.returned (.tuple #[.bool a, .bool b]) = .returned (.tuple #[.bool c, .bool d]) := by rw [h, h2]
end Go.Proofs.YtbjblkfibinenadGreatDoor
