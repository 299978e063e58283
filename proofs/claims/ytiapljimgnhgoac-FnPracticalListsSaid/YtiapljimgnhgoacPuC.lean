
/-
  Contracts of the lists of practical numbers up to a number.
-/
import Derived.Test.YtiapljimgnhgoacNxC
namespace Go.Proofs.Ytiapljimgnhgoac
open Go.RowKit
/-- the practical numbers up to k, increasing -/
def puL : Nat → List Nat
  | 0 => []
  | k + 1 => if brkO (k + 1) = none then puL k ++ [k + 1] else puL k
theorem puL_yes {k : Nat} (h : brkO (k + 1) = none) : puL (k + 1) = puL k ++ [k + 1] := by rw [puL, if_pos h]
theorem puL_no {k : Nat} (h : ¬ brkO (k + 1) = none) : puL (k + 1) = puL k := by rw [puL, if_neg h]
theorem puL_len : ∀ k, (puL k).length ≤ k
  | 0 => Nat.le_refl 0
  | k + 1 => by
    have := puL_len k
    by_cases h : brkO (k + 1) = none
    · rw [puL_yes h]; simp; omega
    · rw [puL_no h]; omega
def puO (n : Int) : Option (List Nat) := if numB n = true then some (puL n.toNat) else none
theorem puO_yes {N : Nat} (h : numB (N : Int) = true) : puO (N : Int) = some (puL N) := by unfold puO; rw [if_pos h]; rfl
theorem puO_no {n : Int} (h : numB n = false) : puO n = none := by unfold puO; rw [h]; rfl
theorem puO_len (n : Int) : ((puO n).getD []).length ≤ 2000 := by
  unfold puO
  split
  · rename_i h
    have := (numB_iff n).1 h
    have h2 := puL_len n.toNat
    rw [Option.getD_some]
    omega
  · simp
set_option maxHeartbeats 4000000 in
theorem practicalsUpTo_any (n : Int) (w : World) : Calls Try.prog 19 #[.int .i64 n] w (RetLB (ints ((puO n).getD [])) (puO n).isSome w) := by
  cases hn : numB n with
  | false =>
    have E := Lib.hid (puO_no hn)
    have HN : Hid (∀ w, Calls Try.prog 46 #[.int .i64 n] w (RetQ (.bool false) w)) := Lib.hid fun w => by have := isNumber_any n w; rwa [hn] at this
    clear hn
    go_enter Try.func19, Try.ntmps19
    go_wp2_with fail
    refine (HN.out _).mono ?_; rintro e w1 ⟨rfl, k1, rfl⟩
    go_wp2
    go_ret2
    rw [E.out]
    exact ⟨_, rfl, OwnI.empty _ _, by (repeat' (first | (with_reducible exact Below.refl _ _) | (with_reducible assumption) | (with_reducible refine Below.drew ?_) | (with_reducible refine belowDrewN ?_ _) | (with_reducible refine Below.alloc ?_ ?_ _) | (with_reducible refine Below.setCell ?_ ?_ _) | (with_reducible refine belowStep (by assumption) ?_ ?_) | (with_reducible exact Below.size (by assumption)) | go_size))⟩
  | true =>
    obtain ⟨N, rfl, h1, h2⟩ := numB_nat hn
    have EO := Lib.hid (puO_yes hn)
    have HN : Hid (∀ w, Calls Try.prog 46 #[.int .i64 (N : Int)] w (RetQ (.bool true) w)) := Lib.hid fun w => by have := isNumber_any (N : Int) w; rwa [hn] at this
    clear hn
    go_enter Try.func19, Try.ntmps19
    go_wp2_with fail
    refine (HN.out _).mono ?_; rintro e w1 ⟨rfl, k1, rfl⟩
    go_wp2
    go_loopw [4, 5] (fun v4 v5 wr => ∃ k : Nat, k ≤ N ∧ v5 = .int .i64 ((k : Int) + 1) ∧ OwnI wr w.heap.size v4 (ints (puL k)) ∧ Below w.heap.size w wr) (fun _ v5 _ => N + 1 - (intOf v5).toNat)
    case atStart => exact ⟨0, Nat.zero_le _, rfl, OwnI.zero _ _ (Nat.le_refl _), by (repeat' (first | (with_reducible exact Below.refl _ _) | (with_reducible assumption) | (with_reducible refine Below.drew ?_) | (with_reducible refine belowDrewN ?_ _) | (with_reducible refine Below.alloc ?_ ?_ _) | (with_reducible refine Below.setCell ?_ ?_ _) | (with_reducible refine belowStep (by assumption) ?_ ?_) | (with_reducible exact Below.size (by assumption)) | go_size))⟩
    case round =>
      obtain ⟨k, hk, rfl, ho, hbr⟩ := hrel
      have hzr := hbr.size
      have hl := puL_len k
      rw [← ints_len] at hl
      have Ho := Lib.hid ho
      clear ho
      by_cases hlt : k < N
      · have hlt' : (k : Int) + 1 ≤ (N : Int) := by omega
        by_cases hb : brkO (k + 1) = none
        · have HI : Hid (∀ w, Calls Try.prog 14 #[.int .i64 ((k : Int) + 1)] w (Ret (.tuple #[.bool true, .bool true]) w)) := Lib.hid fun w => by
            have := isPractical_any ((k + 1 : Nat) : Int) w
            rwa [prcB_yes (by omega) (by omega), (isNone_yes hb).1, numB_of (by omega) (by omega)] at this
          have E := Lib.hid (puL_yes hb)
          clear hb
          go_wp2_with fail
          refine (HI.out _).mono ?_; rintro e w3 ⟨rfl, hb3⟩; have hz3 := hb3.size; (try simp only [World.size_alloc, World.size_setCell, World.size_drew, World.heap_drewN] at hz3)
          go_wp2_with (at_builtin; refine wpList_app _ (o := ⟨some 26, _, _, _, _, _⟩) (ys := [(k : Int) + 1]) rfl _ _ rfl rfl (OwnI.below (OwnI.below Ho.out (by (repeat' (first | (with_reducible exact Below.refl _ _) | (with_reducible assumption) | (with_reducible refine Below.drew ?_) | (with_reducible refine belowDrewN ?_ _) | (with_reducible refine Below.alloc ?_ ?_ _) | (with_reducible refine Below.setCell ?_ ?_ _) | (with_reducible refine belowStep (by assumption) ?_ ?_) | (with_reducible exact Below.size (by assumption)) | go_size)))) ((Below.refl _ _).alloc (Nat.le_refl _) _)) (1) (1) (by first | (simp; done) | (simp; omega)) rfl (Reads.one _ ((k : Int) + 1)) (by (try simp only [List.length_append, List.length_take, List.length_drop, List.length_nil, List.length_singleton, List.length_cons]); omega) (by first | exact Nat.le_refl _ | ((try simp only [World.size_alloc, World.size_setCell, World.size_drew, World.heap_drewN]); omega)) ?_; intro v4 w4 ho4 hb4 hg4 ht4; clear hg4 ht4; have hz4 := hb4.size; (try simp only [World.size_alloc, World.size_setCell, World.size_drew, World.heap_drewN] at hz4))
          go_roundw
          case rel => exact ⟨k + 1, by omega, by go_num, by rw [E.out, ints_app]; exact ho4, by (repeat' (first | (with_reducible exact Below.refl _ _) | (with_reducible assumption) | (with_reducible refine Below.drew ?_) | (with_reducible refine belowDrewN ?_ _) | (with_reducible refine Below.alloc ?_ ?_ _) | (with_reducible refine Below.setCell ?_ ?_ _) | (with_reducible refine belowStep (by assumption) ?_ ?_) | (with_reducible exact Below.size (by assumption)) | go_size))⟩
          case measure => simp [intOf]; omega
        · have HI : Hid (∀ w, Calls Try.prog 14 #[.int .i64 ((k : Int) + 1)] w (Ret (.tuple #[.bool false, .bool true]) w)) := Lib.hid fun w => by
            have := isPractical_any ((k + 1 : Nat) : Int) w
            rwa [prcB_yes (by omega) (by omega), (isNone_no hb).1, numB_of (by omega) (by omega)] at this
          have E := Lib.hid (puL_no hb)
          clear hb
          go_wp2_with fail
          refine (HI.out _).mono ?_; rintro e w3 ⟨rfl, hb3⟩; have hz3 := hb3.size; (try simp only [World.size_alloc, World.size_setCell, World.size_drew, World.heap_drewN] at hz3)
          go_wp2
          go_roundw
          case rel => exact ⟨k + 1, by omega, by go_num, by rw [E.out]; exact OwnI.below Ho.out (by (repeat' (first | (with_reducible exact Below.refl _ _) | (with_reducible assumption) | (with_reducible refine Below.drew ?_) | (with_reducible refine belowDrewN ?_ _) | (with_reducible refine Below.alloc ?_ ?_ _) | (with_reducible refine Below.setCell ?_ ?_ _) | (with_reducible refine belowStep (by assumption) ?_ ?_) | (with_reducible exact Below.size (by assumption)) | go_size))), by (repeat' (first | (with_reducible exact Below.refl _ _) | (with_reducible assumption) | (with_reducible refine Below.drew ?_) | (with_reducible refine belowDrewN ?_ _) | (with_reducible refine Below.alloc ?_ ?_ _) | (with_reducible refine Below.setCell ?_ ?_ _) | (with_reducible refine belowStep (by assumption) ?_ ?_) | (with_reducible exact Below.size (by assumption)) | go_size))⟩
          case measure => simp [intOf]; omega
      · obtain rfl : k = N := by omega
        have hlt' : ¬ (k : Int) + 1 ≤ (k : Int) := by omega
        go_wp2
        go_ret2
        rw [EO.out]
        exact ⟨_, rfl, Ho.out, hbr⟩
set_option maxHeartbeats 4000000 in
theorem spec_practicalsUpTo_any (n : Int) (w : World) : Calls Try.prog 20 #[.int .i64 n] w (RetLB (ints ((puO n).getD [])) (puO n).isSome w) := by
  cases hn : numB n with
  | false =>
    have E := Lib.hid (puO_no hn)
    have HN : Hid (∀ w, Calls Try.prog 39 #[.int .i64 n] w (RetQ (.bool false) w)) := Lib.hid fun w => by have := prNumber_any n w; rwa [hn] at this
    clear hn
    go_enter Try.func20, Try.ntmps20
    go_wp2_with fail
    refine (HN.out _).mono ?_; rintro e w1 ⟨rfl, k1, rfl⟩
    go_wp2
    go_ret2
    rw [E.out]
    exact ⟨_, rfl, OwnI.empty _ _, by (repeat' (first | (with_reducible exact Below.refl _ _) | (with_reducible assumption) | (with_reducible refine Below.drew ?_) | (with_reducible refine belowDrewN ?_ _) | (with_reducible refine Below.alloc ?_ ?_ _) | (with_reducible refine Below.setCell ?_ ?_ _) | (with_reducible refine belowStep (by assumption) ?_ ?_) | (with_reducible exact Below.size (by assumption)) | go_size))⟩
  | true =>
    obtain ⟨N, rfl, h1, h2⟩ := numB_nat hn
    have EO := Lib.hid (puO_yes hn)
    have HN : Hid (∀ w, Calls Try.prog 39 #[.int .i64 (N : Int)] w (RetQ (.bool true) w)) := Lib.hid fun w => by have := prNumber_any (N : Int) w; rwa [hn] at this
    clear hn
    go_enter Try.func20, Try.ntmps20
    go_wp2_with fail
    refine (HN.out _).mono ?_; rintro e w1 ⟨rfl, k1, rfl⟩
    go_wp2
    go_loopw [4, 5] (fun v4 v5 wr => ∃ k : Nat, k ≤ N ∧ v5 = .int .i64 ((k : Int) + 1) ∧ OwnI wr w.heap.size v4 (ints (puL k)) ∧ Below w.heap.size w wr) (fun _ v5 _ => N + 1 - (intOf v5).toNat)
    case atStart => exact ⟨0, Nat.zero_le _, rfl, OwnI.empty _ _, by (repeat' (first | (with_reducible exact Below.refl _ _) | (with_reducible assumption) | (with_reducible refine Below.drew ?_) | (with_reducible refine belowDrewN ?_ _) | (with_reducible refine Below.alloc ?_ ?_ _) | (with_reducible refine Below.setCell ?_ ?_ _) | (with_reducible refine belowStep (by assumption) ?_ ?_) | (with_reducible exact Below.size (by assumption)) | go_size))⟩
    case round =>
      obtain ⟨k, hk, rfl, ho, hbr⟩ := hrel
      have hzr := hbr.size
      have hl := puL_len k
      rw [← ints_len] at hl
      have Ho := Lib.hid ho
      clear ho
      by_cases hlt : k < N
      · have hlt' : (k : Int) + 1 ≤ (N : Int) := by omega
        by_cases hb : brkO (k + 1) = none
        · have HI : Hid (∀ w, Calls Try.prog 60 #[.int .i64 ((k : Int) + 1)] w (Ret (.bool false) w)) := Lib.hid fun w => by
            have := prBroken_any ((k + 1 : Nat) : Int) w
            rwa [brO_yes (numB_of (by omega) (by omega)), (isNone_yes hb).2] at this
          have E := Lib.hid (puL_yes hb)
          clear hb
          go_wp2_with fail
          refine (HI.out _).mono ?_; rintro e w3 ⟨rfl, hb3⟩; have hz3 := hb3.size; (try simp only [World.size_alloc, World.size_setCell, World.size_drew, World.heap_drewN] at hz3)
          go_wp2_with (at_builtin; refine wpList_app _ (o := ⟨some 20, _, _, _, _, _⟩) (ys := [(k : Int) + 1]) rfl _ _ rfl rfl (OwnI.below (OwnI.below Ho.out (by (repeat' (first | (with_reducible exact Below.refl _ _) | (with_reducible assumption) | (with_reducible refine Below.drew ?_) | (with_reducible refine belowDrewN ?_ _) | (with_reducible refine Below.alloc ?_ ?_ _) | (with_reducible refine Below.setCell ?_ ?_ _) | (with_reducible refine belowStep (by assumption) ?_ ?_) | (with_reducible exact Below.size (by assumption)) | go_size)))) ((Below.refl _ _).alloc (Nat.le_refl _) _)) (1) (1) (by first | (simp; done) | (simp; omega)) rfl (Reads.one _ ((k : Int) + 1)) (by (try simp only [List.length_append, List.length_take, List.length_drop, List.length_nil, List.length_singleton, List.length_cons]); omega) (by first | exact Nat.le_refl _ | ((try simp only [World.size_alloc, World.size_setCell, World.size_drew, World.heap_drewN]); omega)) ?_; intro v4 w4 ho4 hb4 hg4 ht4; clear hg4 ht4; have hz4 := hb4.size; (try simp only [World.size_alloc, World.size_setCell, World.size_drew, World.heap_drewN] at hz4))
          go_roundw
          case rel => exact ⟨k + 1, by omega, by go_num, by rw [E.out, ints_app]; exact ho4, by (repeat' (first | (with_reducible exact Below.refl _ _) | (with_reducible assumption) | (with_reducible refine Below.drew ?_) | (with_reducible refine belowDrewN ?_ _) | (with_reducible refine Below.alloc ?_ ?_ _) | (with_reducible refine Below.setCell ?_ ?_ _) | (with_reducible refine belowStep (by assumption) ?_ ?_) | (with_reducible exact Below.size (by assumption)) | go_size))⟩
          case measure => simp [intOf]; omega
        · have HI : Hid (∀ w, Calls Try.prog 60 #[.int .i64 ((k : Int) + 1)] w (Ret (.bool true) w)) := Lib.hid fun w => by
            have := prBroken_any ((k + 1 : Nat) : Int) w
            rwa [brO_yes (numB_of (by omega) (by omega)), (isNone_no hb).2] at this
          have E := Lib.hid (puL_no hb)
          clear hb
          go_wp2_with fail
          refine (HI.out _).mono ?_; rintro e w3 ⟨rfl, hb3⟩; have hz3 := hb3.size; (try simp only [World.size_alloc, World.size_setCell, World.size_drew, World.heap_drewN] at hz3)
          go_wp2
          go_roundw
          case rel => exact ⟨k + 1, by omega, by go_num, by rw [E.out]; exact OwnI.below Ho.out (by (repeat' (first | (with_reducible exact Below.refl _ _) | (with_reducible assumption) | (with_reducible refine Below.drew ?_) | (with_reducible refine belowDrewN ?_ _) | (with_reducible refine Below.alloc ?_ ?_ _) | (with_reducible refine Below.setCell ?_ ?_ _) | (with_reducible refine belowStep (by assumption) ?_ ?_) | (with_reducible exact Below.size (by assumption)) | go_size))), by (repeat' (first | (with_reducible exact Below.refl _ _) | (with_reducible assumption) | (with_reducible refine Below.drew ?_) | (with_reducible refine belowDrewN ?_ _) | (with_reducible refine Below.alloc ?_ ?_ _) | (with_reducible refine Below.setCell ?_ ?_ _) | (with_reducible refine belowStep (by assumption) ?_ ?_) | (with_reducible exact Below.size (by assumption)) | go_size))⟩
          case measure => simp [intOf]; omega
      · obtain rfl : k = N := by omega
        have hlt' : ¬ (k : Int) + 1 ≤ (k : Int) := by omega
        go_wp2
        go_ret2
        rw [EO.out]
        exact ⟨_, rfl, Ho.out, hbr⟩
end Go.Proofs.Ytiapljimgnhgoac
