import Derived.Test.YtbjblkfibinenadGreatDoorPk32

/-
  Contracts of the model's comparison of methods.
-/
namespace Go.Proofs.YtbjblkfibinenadGreatDoor
open Go.RowKit
/-- a block that holds the lists of all methods -/
def AllAt (w : World) (B : Nat) (n d : Int) : Prop := B < w.heap.size ∧ ∀ k, k < 6 → ∃ A c, w.cell? ⟨B, k, none⟩ = some (.slice A (msL k n d).length c) ∧ Reads w A (msL k n d)
theorem AllAt.below {w w' : World} {B : Nat} {n d : Int} (h : AllAt w B n d) (hb : Below w.heap.size w w') : AllAt w' B n d :=
  ⟨Nat.lt_of_lt_of_le h.1 hb.size, fun k hk => let ⟨A, c, h1, h2⟩ := h.2 k hk; ⟨A, c, (hb.cell (p := ⟨B, k, none⟩) h.1).trans h1, h2.below hb⟩⟩
set_option maxRecDepth 100000 in
set_option maxHeartbeats 4000000 in
theorem meAll_any (n d : Int) (w : World) : Calls Tryz.prog 23 #[.agg #[.int .i64 n, .int .i64 d]] w (fun e w' => ∃ B, e = .returned (.slice (some ⟨B, 0, none⟩) 6 6) ∧ AllAt w' B n d ∧ Below w.heap.size w w') := by
  have X0 : Hid (∀ w, Calls Tryz.prog 34 #[.agg #[.int .i64 n, .int .i64 d]] w (RetRB (msL 0 n d) (msO 0 n d).isSome w)) := Lib.hid fun w => spec_greedyExp_any n d w
  have X1 : Hid (∀ w, Calls Tryz.prog 35 #[.agg #[.int .i64 n, .int .i64 d]] w (RetRB (msL 1 n d) (msO 1 n d).isSome w)) := Lib.hid fun w => spec_golombExp_any n d w
  have X2 : Hid (∀ w, Calls Tryz.prog 36 #[.agg #[.int .i64 n, .int .i64 d]] w (RetRB (msL 2 n d) (msO 2 n d).isSome w)) := Lib.hid fun w => spec_binaryExp_any n d w
  have X3 : Hid (∀ w, Calls Tryz.prog 37 #[.agg #[.int .i64 n, .int .i64 d]] w (RetRB (msL 3 n d) (msO 3 n d).isSome w)) := Lib.hid fun w => spec_factorialExp_any n d w
  have X4 : Hid (∀ w, Calls Tryz.prog 38 #[.agg #[.int .i64 n, .int .i64 d]] w (RetRB (msL 4 n d) (msO 4 n d).isSome w)) := Lib.hid fun w => spec_pair_any n d w
  have X5 : Hid (∀ w, Calls Tryz.prog 39 #[.agg #[.int .i64 n, .int .i64 d]] w (RetRB (msL 5 n d) (msO 5 n d).isSome w)) := Lib.hid fun w => spec_engelTerms_any n d w
  have TG := Lib.hid (TwoAt.new w (n) (d) 27)
  go_enter Tryz.func23, Tryz.ntmps23
  obtain ⟨oG1, oG2, oG3, oG4, oG5⟩ := TG.out
  go_wp2_with fail
  refine (X0.out _).mono ?_; rintro e w1 ⟨A1, c1, rfl, hr1, hb1⟩; have hz1 := hb1.size; (try simp only [World.size_alloc] at hz1)
  clear oG1 oG2 oG3 oG4 oG5
  have TG := Lib.hid (TG.out.below hb1)
  have R1 := Lib.hid hr1
  clear hr1 X0
  obtain ⟨oG1, oG2, oG3, oG4, oG5⟩ := TG.out
  go_wp2_with fail
  refine (X1.out _).mono ?_; rintro e w2 ⟨A2, c2, rfl, hr2, hb2⟩; have hz2 := hb2.size; (try simp only [World.size_alloc, World.size_setCell, World.size_drew, World.heap_drewN] at hz2)
  clear oG1 oG2 oG3 oG4 oG5
  have TG := Lib.hid (TG.out.below hb2)
  have R2 := Lib.hid hr2
  have R1 := Lib.hid (R1.out.below hb2)
  clear hr2 X1
  obtain ⟨oG1, oG2, oG3, oG4, oG5⟩ := TG.out
  go_wp2_with fail
  refine (X2.out _).mono ?_; rintro e w3 ⟨A3, c3, rfl, hr3, hb3⟩; have hz3 := hb3.size; (try simp only [World.size_alloc, World.size_setCell, World.size_drew, World.heap_drewN] at hz3)
  clear oG1 oG2 oG3 oG4 oG5
  have TG := Lib.hid (TG.out.below hb3)
  have R3 := Lib.hid hr3
  have R2 := Lib.hid (R2.out.below hb3)
  have R1 := Lib.hid (R1.out.below hb3)
  clear hr3 X2
  obtain ⟨oG1, oG2, oG3, oG4, oG5⟩ := TG.out
  go_wp2_with fail
  refine (X3.out _).mono ?_; rintro e w4 ⟨A4, c4, rfl, hr4, hb4⟩; have hz4 := hb4.size; (try simp only [World.size_alloc, World.size_setCell, World.size_drew, World.heap_drewN] at hz4)
  clear oG1 oG2 oG3 oG4 oG5
  have TG := Lib.hid (TG.out.below hb4)
  have R4 := Lib.hid hr4
  have R3 := Lib.hid (R3.out.below hb4)
  have R2 := Lib.hid (R2.out.below hb4)
  have R1 := Lib.hid (R1.out.below hb4)
  clear hr4 X3
  obtain ⟨oG1, oG2, oG3, oG4, oG5⟩ := TG.out
  go_wp2_with fail
  refine (X4.out _).mono ?_; rintro e w5 ⟨A5, c5, rfl, hr5, hb5⟩; have hz5 := hb5.size; (try simp only [World.size_alloc, World.size_setCell, World.size_drew, World.heap_drewN] at hz5)
  clear oG1 oG2 oG3 oG4 oG5
  have TG := Lib.hid (TG.out.below hb5)
  have R5 := Lib.hid hr5
  have R4 := Lib.hid (R4.out.below hb5)
  have R3 := Lib.hid (R3.out.below hb5)
  have R2 := Lib.hid (R2.out.below hb5)
  have R1 := Lib.hid (R1.out.below hb5)
  clear hr5 X4
  obtain ⟨oG1, oG2, oG3, oG4, oG5⟩ := TG.out
  go_wp2_with fail
  refine (X5.out _).mono ?_; rintro e w6 ⟨A6, c6, rfl, hr6, hb6⟩; have hz6 := hb6.size; (try simp only [World.size_alloc, World.size_setCell, World.size_drew, World.heap_drewN] at hz6)
  clear oG1 oG2 oG3 oG4 oG5
  have R6 := Lib.hid hr6
  have R5 := Lib.hid (R5.out.below hb6)
  have R4 := Lib.hid (R4.out.below hb6)
  have R3 := Lib.hid (R3.out.below hb6)
  have R2 := Lib.hid (R2.out.below hb6)
  have R1 := Lib.hid (R1.out.below hb6)
  clear hr6 X5 TG
  go_wp2
  go_ret
  have hbA : ∀ o : Obj, Below w6.heap.size w6 (w6.alloc o) := fun o => (Below.refl _ _).alloc (Nat.le_refl _) o
  refine ⟨_, rfl, ⟨by simp, fun k hk => ?_⟩, by (repeat' (first | (with_reducible exact Below.refl _ _) | (with_reducible assumption) | (with_reducible refine Below.drew ?_) | (with_reducible refine belowDrewN ?_ _) | (with_reducible refine Below.alloc ?_ ?_ _) | (with_reducible refine Below.setCell ?_ ?_ _) | (with_reducible refine belowStep (by assumption) ?_ ?_) | (with_reducible exact Below.size (by assumption)) | go_size))⟩
  rcases (by omega : k = 0 ∨ k = 1 ∨ k = 2 ∨ k = 3 ∨ k = 4 ∨ k = 5) with rfl | rfl | rfl | rfl | rfl | rfl
  · exact ⟨A1, c1, by simp, R1.out.below (hbA _)⟩
  · exact ⟨A2, c2, by simp, R2.out.below (hbA _)⟩
  · exact ⟨A3, c3, by simp, R3.out.below (hbA _)⟩
  · exact ⟨A4, c4, by simp, R4.out.below (hbA _)⟩
  · exact ⟨A5, c5, by simp, R5.out.below (hbA _)⟩
  · exact ⟨A6, c6, by simp, R6.out.below (hbA _)⟩
set_option maxRecDepth 100000 in
set_option maxHeartbeats 4000000 in
theorem spec_methodSizes_any (n d : Int) (w : World) : Calls Tryz.prog 6 #[.agg #[.int .i64 n, .int .i64 d]] w (RetRB ((szO n d).getD []) (szO n d).isSome w) := by
  have HP := Lib.hid fun (w : World) => meProper_any n d w
  have TG := Lib.hid (TwoAt.new w (n) (d) 27)
  cases hp : proB n d with
  | false =>
    have E := Lib.hid (szO_no hp)
    rw [hp] at HP
    clear hp
    go_enter Tryz.func6, Tryz.ntmps6
    obtain ⟨oG1, oG2, oG3, oG4, oG5⟩ := TG.out
    go_wp2_with fail
    refine (HP.out _).mono ?_; rintro e w1 ⟨rfl, hb1⟩; obtain ⟨hc1, hf1⟩ := bcellB hb1; have hz1 := hb1.size; (try simp only [World.size_alloc] at hc1 hf1 hz1); (try have hy1_r_0 : wr.heap.size < w1.heap.size := by omega); (try have hn1_r_0 : wr.heap.size ≠ w1.heap.size := by omega); (try have hm1_r_0 : w1.heap.size ≠ wr.heap.size := by omega); (try have hy1_r_1 : wr.heap.size + 1 < w1.heap.size := by omega); (try have hn1_r_1 : wr.heap.size + 1 ≠ w1.heap.size := by omega); (try have hm1_r_1 : w1.heap.size ≠ wr.heap.size + 1 := by omega); (try have hy1_r_2 : wr.heap.size + 1 + 1 < w1.heap.size := by omega); (try have hp1_r_1 : wr.heap.size < w1.heap.size + 1 := by omega); (try have hp1_r_2 : wr.heap.size < w1.heap.size + 1 + 1 := by omega); (try have hy1_0_0 : w.heap.size < w1.heap.size := by omega); (try have hn1_0_0 : w.heap.size ≠ w1.heap.size := by omega); (try have hm1_0_0 : w1.heap.size ≠ w.heap.size := by omega); (try have hy1_0_1 : w.heap.size + 1 < w1.heap.size := by omega); (try have hn1_0_1 : w.heap.size + 1 ≠ w1.heap.size := by omega); (try have hm1_0_1 : w1.heap.size ≠ w.heap.size + 1 := by omega); (try have hy1_0_2 : w.heap.size + 1 + 1 < w1.heap.size := by omega); (try have hp1_0_1 : w.heap.size < w1.heap.size + 1 := by omega); (try have hp1_0_2 : w.heap.size < w1.heap.size + 1 + 1 := by omega); (try have hg1_g1 : g1 < w1.heap.size := by omega); (try have hi1_g1 : g1 ≠ w1.heap.size := by omega); (try have hj1_g1 : w1.heap.size ≠ g1 := by omega); (try have hk1_g1 : g1 < w1.heap.size + 1 := by omega); (try have hg1_g2 : g2 < w1.heap.size := by omega); (try have hi1_g2 : g2 ≠ w1.heap.size := by omega); (try have hj1_g2 : w1.heap.size ≠ g2 := by omega); (try have hk1_g2 : g2 < w1.heap.size + 1 := by omega)
    go_wp2
    go_ret2
    rw [E.out]
    exact ⟨none, 0, rfl, Reads.nil, by (repeat' (first | (with_reducible exact Below.refl _ _) | (with_reducible assumption) | (with_reducible refine Below.drew ?_) | (with_reducible refine belowDrewN ?_ _) | (with_reducible refine Below.alloc ?_ ?_ _) | (with_reducible refine Below.setCell ?_ ?_ _) | (with_reducible refine belowStep (by assumption) ?_ ?_) | (with_reducible exact Below.size (by assumption)) | go_size))⟩
  | true =>
    have E := Lib.hid (szO_yes hp)
    rw [hp] at HP
    clear hp
    go_enter Tryz.func6, Tryz.ntmps6
    obtain ⟨oG1, oG2, oG3, oG4, oG5⟩ := TG.out
    go_wp2_with fail
    refine (HP.out _).mono ?_; rintro e w1 ⟨rfl, hb1⟩; have hz1 := hb1.size; (try simp only [World.size_alloc] at hz1)
    clear oG1 oG2 oG3 oG4 oG5
    have TG := Lib.hid (TG.out.below hb1)
    obtain ⟨oG1, oG2, oG3, oG4, oG5⟩ := TG.out
    go_wp2_with fail
    refine (meAll_any n d _).mono ?_; rintro e w2 ⟨B, rfl, ha2, hb2⟩; have hz2 := hb2.size; (try simp only [World.size_alloc, World.size_setCell, World.size_drew, World.heap_drewN] at hz2)
    clear oG1 oG2 oG3 oG4 oG5
    have HB2 : Below w.heap.size w w2 := by (repeat' (first | (with_reducible exact Below.refl _ _) | (with_reducible assumption) | (with_reducible refine Below.drew ?_) | (with_reducible refine belowDrewN ?_ _) | (with_reducible refine Below.alloc ?_ ?_ _) | (with_reducible refine Below.setCell ?_ ?_ _) | (with_reducible refine belowStep (by assumption) ?_ ?_) | (with_reducible exact Below.size (by assumption)) | go_size))
    have HA2 := Lib.hid ha2
    clear ha2 TG
    go_wp2
    go_loopw [4, 13] (fun v4 v13 wr => ∃ k : Nat, k ≤ 6 ∧ v13 = .int .i64 (k : Int) ∧ OwnI wr w2.heap.size v4 (szL n d k) ∧ Below w2.heap.size w2 wr) (fun _ v13 _ => 6 - (intOf v13).toNat)
    case atStart => exact ⟨0, by omega, rfl, OwnI.empty _ _, Below.refl _ _⟩
    case round =>
      obtain ⟨k, hk, rfl, ho, hbr⟩ := hrel
      have hzr := hbr.size
      have Ho := Lib.hid ho
      clear ho
      by_cases hlt : k < 6
      · obtain ⟨A, c, hcell, _⟩ := (HA2.out.below hbr).2 k hlt
        have hB := (HA2.out.below hbr).1
        have hlt' : (k : Int) < 6 := by omega
        have hl := szL_len n d k
        have hml := msL_len k n d
        have E2 : Hid (szL n d (k + 1) = szL n d k ++ [((msL k n d).length : Int)]) := Lib.hid rfl
        generalize szL n d k = xs at *
        generalize msL k n d = ls at *
        go_wp2_with (at_builtin; refine wpList_app _ (o := ⟨some 21, _, _, _, _, _⟩) (ys := [((ls.length : Nat) : Int)]) rfl _ _ rfl rfl (OwnI.below Ho.out ((Below.refl _ _).alloc (Nat.le_refl _) _)) (1) (1) (by first | (simp; done) | (simp; omega)) rfl (Reads.one _ ((ls.length : Nat) : Int)) (by (try simp only [List.length_nil, List.length_cons]); omega) (by first | exact Nat.le_refl _ | ((try simp only [World.size_alloc]); omega)) ?_; intro v3 w3 ho3 hb3 hg3 ht3; clear hg3 ht3; have hz3 := hb3.size; (try simp only [World.size_alloc] at hz3))
        go_roundw
        case rel => exact ⟨k + 1, by omega, by go_num, by rw [E2.out]; exact ho3, by (repeat' (first | (with_reducible exact Below.refl _ _) | (with_reducible assumption) | (with_reducible refine Below.drew ?_) | (with_reducible refine belowDrewN ?_ _) | (with_reducible refine Below.alloc ?_ ?_ _) | (with_reducible refine Below.setCell ?_ ?_ _) | (with_reducible refine belowStep (by assumption) ?_ ?_) | (with_reducible exact Below.size (by assumption)) | go_size))⟩
        case measure => simp [intOf]; omega
      · obtain rfl : k = 6 := by omega
        obtain ⟨A, c, rfl, hr⟩ := Ho.out.form
        have HR := Lib.hid hr
        clear hr
        go_wp2
        go_ret2
        rw [E.out]
        exact ⟨A, c, rfl, HR.out, by (repeat' (first | (with_reducible exact Below.refl _ _) | (with_reducible assumption) | (with_reducible refine Below.drew ?_) | (with_reducible refine belowDrewN ?_ _) | (with_reducible refine Below.alloc ?_ ?_ _) | (with_reducible refine Below.setCell ?_ ?_ _) | (with_reducible refine belowStep (by assumption) ?_ ?_) | (with_reducible exact Below.size (by assumption)) | go_size))⟩
set_option maxRecDepth 100000 in
set_option maxHeartbeats 4000000 in
theorem spec_bestMethod_any (n d : Int) (w : World) : Calls Tryz.prog 12 #[.agg #[.int .i64 n, .int .i64 d]] w (RetRB ((beO n d).getD []) (beO n d).isSome w) := by
  have HP := Lib.hid fun (w : World) => meProper_any n d w
  have TG := Lib.hid (TwoAt.new w (n) (d) 27)
  cases hp : proB n d with
  | false =>
    have E := Lib.hid (beO_no hp)
    rw [hp] at HP
    clear hp
    go_enter Tryz.func12, Tryz.ntmps12
    obtain ⟨oG1, oG2, oG3, oG4, oG5⟩ := TG.out
    go_wp2_with fail
    refine (HP.out _).mono ?_; rintro e w1 ⟨rfl, hb1⟩; obtain ⟨hc1, hf1⟩ := bcellB hb1; have hz1 := hb1.size; (try simp only [World.size_alloc] at hc1 hf1 hz1); (try have hy1_r_0 : wr.heap.size < w1.heap.size := by omega); (try have hn1_r_0 : wr.heap.size ≠ w1.heap.size := by omega); (try have hm1_r_0 : w1.heap.size ≠ wr.heap.size := by omega); (try have hy1_r_1 : wr.heap.size + 1 < w1.heap.size := by omega); (try have hn1_r_1 : wr.heap.size + 1 ≠ w1.heap.size := by omega); (try have hm1_r_1 : w1.heap.size ≠ wr.heap.size + 1 := by omega); (try have hy1_r_2 : wr.heap.size + 1 + 1 < w1.heap.size := by omega); (try have hp1_r_1 : wr.heap.size < w1.heap.size + 1 := by omega); (try have hp1_r_2 : wr.heap.size < w1.heap.size + 1 + 1 := by omega); (try have hy1_0_0 : w.heap.size < w1.heap.size := by omega); (try have hn1_0_0 : w.heap.size ≠ w1.heap.size := by omega); (try have hm1_0_0 : w1.heap.size ≠ w.heap.size := by omega); (try have hy1_0_1 : w.heap.size + 1 < w1.heap.size := by omega); (try have hn1_0_1 : w.heap.size + 1 ≠ w1.heap.size := by omega); (try have hm1_0_1 : w1.heap.size ≠ w.heap.size + 1 := by omega); (try have hy1_0_2 : w.heap.size + 1 + 1 < w1.heap.size := by omega); (try have hp1_0_1 : w.heap.size < w1.heap.size + 1 := by omega); (try have hp1_0_2 : w.heap.size < w1.heap.size + 1 + 1 := by omega); (try have hg1_g1 : g1 < w1.heap.size := by omega); (try have hi1_g1 : g1 ≠ w1.heap.size := by omega); (try have hj1_g1 : w1.heap.size ≠ g1 := by omega); (try have hk1_g1 : g1 < w1.heap.size + 1 := by omega); (try have hg1_g2 : g2 < w1.heap.size := by omega); (try have hi1_g2 : g2 ≠ w1.heap.size := by omega); (try have hj1_g2 : w1.heap.size ≠ g2 := by omega); (try have hk1_g2 : g2 < w1.heap.size + 1 := by omega)
    go_wp2
    go_ret2
    rw [E.out]
    exact ⟨none, 0, rfl, Reads.nil, by (repeat' (first | (with_reducible exact Below.refl _ _) | (with_reducible assumption) | (with_reducible refine Below.drew ?_) | (with_reducible refine belowDrewN ?_ _) | (with_reducible refine Below.alloc ?_ ?_ _) | (with_reducible refine Below.setCell ?_ ?_ _) | (with_reducible refine belowStep (by assumption) ?_ ?_) | (with_reducible exact Below.size (by assumption)) | go_size))⟩
  | true =>
    have EP := Lib.hid hp
    rw [hp] at HP
    clear hp
    go_enter Tryz.func12, Tryz.ntmps12
    obtain ⟨oG1, oG2, oG3, oG4, oG5⟩ := TG.out
    go_wp2_with fail
    refine (HP.out _).mono ?_; rintro e w1 ⟨rfl, hb1⟩; have hz1 := hb1.size; (try simp only [World.size_alloc] at hz1)
    clear oG1 oG2 oG3 oG4 oG5
    have TG := Lib.hid (TG.out.below hb1)
    obtain ⟨oG1, oG2, oG3, oG4, oG5⟩ := TG.out
    go_wp2_with fail
    refine (meAll_any n d _).mono ?_; rintro e w2 ⟨B, rfl, ha2, hb2⟩; have hz2 := hb2.size; (try simp only [World.size_alloc, World.size_setCell, World.size_drew, World.heap_drewN] at hz2)
    clear oG1 oG2 oG3 oG4 oG5
    have HB2 : Below w.heap.size w w2 := by (repeat' (first | (with_reducible exact Below.refl _ _) | (with_reducible assumption) | (with_reducible refine Below.drew ?_) | (with_reducible refine belowDrewN ?_ _) | (with_reducible refine Below.alloc ?_ ?_ _) | (with_reducible refine Below.setCell ?_ ?_ _) | (with_reducible refine belowStep (by assumption) ?_ ?_) | (with_reducible exact Below.size (by assumption)) | go_size))
    have HA2 := Lib.hid ha2
    clear ha2 TG
    go_wp2
    go_loopw [4, 13] (fun v4 v13 wr => ∃ (k : Nat) (A : Option Addr) (c : Nat), k ≤ 6 ∧ v13 = .int .i64 (k : Int) ∧ v4 = .slice A (beL n d k).length c ∧ Reads wr A (beL n d k) ∧ Below w2.heap.size w2 wr) (fun _ v13 _ => 6 - (intOf v13).toNat)
    case atStart => exact ⟨0, none, 0, by omega, rfl, rfl, Reads.nil, Below.refl _ _⟩
    case round =>
      obtain ⟨k, A, c, hk, rfl, rfl, hr, hbr⟩ := hrel
      have hzr := hbr.size
      have HR := Lib.hid hr
      clear hr
      by_cases hlt : k < 6
      · obtain ⟨A', c', hcell, hr'⟩ := (HA2.out.below hbr).2 k hlt
        have hB := (HA2.out.below hbr).1
        have HR' := Lib.hid hr'
        have hlt' : (k : Int) < 6 := by omega
        have hml := msL_len k n d
        have hbl := beL_len n d k
        have ET : Hid (0 < (msL k n d).length → ((beL n d k).length = 0 ∨ (msL k n d).length < (beL n d k).length) → beL n d (k + 1) = msL k n d) := Lib.hid fun h1 h2 => beL_take h1 h2
        have EK : Hid (¬ (0 < (msL k n d).length ∧ ((beL n d k).length = 0 ∨ (msL k n d).length < (beL n d k).length)) → beL n d (k + 1) = beL n d k) := Lib.hid fun h => beL_keep h
        clear hr'
        generalize hbs' : beL n d (k + 1) = bs' at ET EK
        have HBS := Lib.hid hbs'
        clear hbs'
        generalize beL n d k = bs at *
        generalize msL k n d = ls at *
        by_cases h1 : 0 < ls.length
        · by_cases h2 : bs.length = 0
          · have E2 := Lib.hid (ET.out h1 (.inl h2))
            have hd1 : decide ((0 : Int) < (ls.length : Int)) = true := decide_eq_true (by omega)
            have hd2 : (((bs.length : Nat) : Int) == 0) = true := by simp [h2]
            clear ET EK h2
            go_wp2
            go_roundw
            case rel => exact ⟨k + 1, A', c', by omega, by go_num, by rw [HBS.out, E2.out], by rw [HBS.out, E2.out]; exact HR'.out, hbr⟩
            case measure => simp [intOf]; omega
          · have hd1 : decide ((0 : Int) < (ls.length : Int)) = true := decide_eq_true (by omega)
            have hd2 : (((bs.length : Nat) : Int) == 0) = false := by simp [h2]
            by_cases h3 : ls.length < bs.length
            · have E2 := Lib.hid (ET.out h1 (.inr h3))
              clear ET EK
              go_wp2
              go_roundw
              case rel => exact ⟨k + 1, A', c', by omega, by go_num, by rw [HBS.out, E2.out], by rw [HBS.out, E2.out]; exact HR'.out, hbr⟩
              case measure => simp [intOf]; omega
            · have E2 := Lib.hid (EK.out (fun h => by rcases h.2 with h | h <;> omega))
              clear ET EK
              go_wp2
              go_roundw
              case rel => exact ⟨k + 1, A, c, by omega, by go_num, by rw [HBS.out, E2.out], by rw [HBS.out, E2.out]; exact HR.out, hbr⟩
              case measure => simp [intOf]; omega
        · have E2 := Lib.hid (EK.out (fun h => h1 h.1))
          have hd1 : decide ((0 : Int) < (ls.length : Int)) = false := decide_eq_false (by omega)
          clear ET EK
          go_wp2
          go_roundw
          case rel => exact ⟨k + 1, A, c, by omega, by go_num, by rw [HBS.out, E2.out], by rw [HBS.out, E2.out]; exact HR.out, hbr⟩
          case measure => simp [intOf]; omega
      · obtain rfl : k = 6 := by omega
        by_cases h1 : 0 < (beL n d 6).length
        · have E := Lib.hid (beO_some EP.out h1)
          have hd1 : decide ((0 : Int) < ((beL n d 6).length : Int)) = true := decide_eq_true (by omega)
          go_wp2
          go_ret2
          rw [E.out]
          exact ⟨A, c, rfl, HR.out, by (repeat' (first | (with_reducible exact Below.refl _ _) | (with_reducible assumption) | (with_reducible refine Below.drew ?_) | (with_reducible refine belowDrewN ?_ _) | (with_reducible refine Below.alloc ?_ ?_ _) | (with_reducible refine Below.setCell ?_ ?_ _) | (with_reducible refine belowStep (by assumption) ?_ ?_) | (with_reducible exact Below.size (by assumption)) | go_size))⟩
        · have E := Lib.hid (beO_none h1)
          have h2 : beL n d 6 = [] := List.eq_nil_of_length_eq_zero (by omega)
          have hd1 : decide ((0 : Int) < ((beL n d 6).length : Int)) = false := decide_eq_false (by omega)
          have H2 := Lib.hid h2
          clear h2 h1
          go_wp2
          go_ret2
          rw [E.out, H2.out]
          exact ⟨A, c, rfl, fun h => absurd h (by simp), by (repeat' (first | (with_reducible exact Below.refl _ _) | (with_reducible assumption) | (with_reducible refine Below.drew ?_) | (with_reducible refine belowDrewN ?_ _) | (with_reducible refine Below.alloc ?_ ?_ _) | (with_reducible refine Below.setCell ?_ ?_ _) | (with_reducible refine belowStep (by assumption) ?_ ?_) | (with_reducible exact Below.size (by assumption)) | go_size))⟩
end Go.Proofs.YtbjblkfibinenadGreatDoor
