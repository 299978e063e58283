
/-
  Contracts of IsPractical (in the program), of the model's test by a break, and of the lists of practical numbers.
-/
import Derived.Test.YtiapljimgnhgoacBkI
namespace Go.Proofs.Ytiapljimgnhgoac
open Go.RowKit
def prcB (n : Int) : Bool := numB n && (brO n).isNone
theorem prcB_yes {N : Nat} (h1 : 1 ≤ N) (h2 : N ≤ 2000) : prcB (N : Int) = (brkO N).isNone := by
  have h := numB_of h1 h2
  unfold prcB
  rw [h, brO_yes h]
  rfl
theorem prcB_no {n : Int} (h : numB n = false) : prcB n = false := by unfold prcB; rw [h]; rfl
set_option maxHeartbeats 2000000 in
theorem isPractical_any (n : Int) (w : World) : Calls Try.prog 14 #[.int .i64 n] w (Ret (.tuple #[.bool (prcB n), .bool (numB n)]) w) := by
  cases hn : numB n with
  | false =>
    have E := Lib.hid (prcB_no hn)
    have HN : Hid (∀ w, Calls Try.prog 46 #[.int .i64 n] w (RetQ (.bool false) w)) := Lib.hid fun w => by have := isNumber_any n w; rwa [hn] at this
    clear hn
    go_enter Try.func14, Try.ntmps14
    go_wp2_with fail
    refine (HN.out _).mono ?_; rintro e w1 ⟨rfl, k1, rfl⟩
    go_wp2
    go_ret2
    rw [E.out]
    exact ⟨rfl, by (repeat' (first | (with_reducible exact Below.refl _ _) | (with_reducible assumption) | (with_reducible refine Below.drew ?_) | (with_reducible refine belowDrewN ?_ _) | (with_reducible refine Below.alloc ?_ ?_ _) | (with_reducible refine Below.setCell ?_ ?_ _) | (with_reducible refine belowStep (by assumption) ?_ ?_) | (with_reducible exact Below.size (by assumption)) | go_size))⟩
  | true =>
    have E : Hid (prcB n = !(brO n).isSome) := Lib.hid (by unfold prcB; rw [hn]; cases brO n <;> rfl)
    have HN : Hid (∀ w, Calls Try.prog 46 #[.int .i64 n] w (RetQ (.bool true) w)) := Lib.hid fun w => by have := isNumber_any n w; rwa [hn] at this
    have IP : Hid (∀ w, Calls Try.prog 56 #[.int .i64 n] w (Ret (bkV (brO n)) w)) := Lib.hid fun w => breakOf_any n w
    unfold bkV at IP
    generalize bkA (brO n) = x at *
    generalize bkB (brO n) = y at *
    generalize (brO n).isSome = t at *
    clear hn
    go_enter Try.func14, Try.ntmps14
    go_wp2_with fail
    refine (HN.out _).mono ?_; rintro e w1 ⟨rfl, k1, rfl⟩
    go_wp2_with fail
    refine (IP.out _).mono ?_; rintro e w2 ⟨rfl, hb2⟩; have hz2 := hb2.size; (try simp only [World.size_alloc, World.size_setCell, World.size_drew, World.heap_drewN] at hz2)
    go_wp2
    go_ret2
    rw [E.out]
    exact ⟨rfl, by (repeat' (first | (with_reducible exact Below.refl _ _) | (with_reducible assumption) | (with_reducible refine Below.drew ?_) | (with_reducible refine belowDrewN ?_ _) | (with_reducible refine Below.alloc ?_ ?_ _) | (with_reducible refine Below.setCell ?_ ?_ _) | (with_reducible refine belowStep (by assumption) ?_ ?_) | (with_reducible exact Below.size (by assumption)) | go_size))⟩
set_option maxHeartbeats 2000000 in
theorem prBroken_any (n : Int) (w : World) : Calls Try.prog 60 #[.int .i64 n] w (Ret (.bool (brO n).isSome) w) := by
  have SP : Hid (∀ w, Calls Try.prog 77 #[.int .i64 n] w (Ret (bkV (brO n)) w)) := Lib.hid fun w => spec_breakOf_any n w
  unfold bkV at SP
  generalize bkA (brO n) = x at *
  generalize bkB (brO n) = y at *
  generalize (brO n).isSome = t at *
  go_enter Try.func60, Try.ntmps60
  go_wp2_with fail
  refine (SP.out _).mono ?_; rintro e w2 ⟨rfl, hb2⟩; have hz2 := hb2.size; (try simp only [World.size_alloc, World.size_setCell, World.size_drew, World.heap_drewN] at hz2)
  go_wp2
  go_ret
  exact ⟨rfl, by (repeat' (first | (with_reducible exact Below.refl _ _) | (with_reducible assumption) | (with_reducible refine Below.drew ?_) | (with_reducible refine belowDrewN ?_ _) | (with_reducible refine Below.alloc ?_ ?_ _) | (with_reducible refine Below.setCell ?_ ?_ _) | (with_reducible refine belowStep (by assumption) ?_ ?_) | (with_reducible exact Below.size (by assumption)) | go_size))⟩
/-- the first number from m on that isn't broken -/
def nxF : Nat → Nat → Option Nat
  | 0, _ => none
  | f + 1, m => if brkO m = none then some m else nxF f (m + 1)
theorem nxF_yes {f m : Nat} (h : brkO m = none) : nxF (f + 1) m = some m := by rw [nxF, if_pos h]
theorem nxF_no {f m : Nat} (h : ¬ brkO m = none) : nxF (f + 1) m = nxF f (m + 1) := by rw [nxF, if_neg h]
def nxO (n : Int) : Option Nat := if numB n = true then nxF (2000 - n.toNat) (n.toNat + 1) else none
theorem nxO_yes {N : Nat} (h : numB (N : Int) = true) : nxO (N : Int) = nxF (2000 - N) (N + 1) := by unfold nxO; rw [if_pos h]; rfl
theorem nxO_no {n : Int} (h : numB n = false) : nxO n = none := by unfold nxO; rw [h]; rfl
def nxV (o : Option Nat) : Value := .tuple #[.int .i64 ((o.getD 0 : Nat) : Int), .bool o.isSome]
theorem isNone_yes {o : Option (Nat × Nat)} (h : o = none) : o.isNone = true ∧ o.isSome = false := by subst h; exact ⟨rfl, rfl⟩
theorem isNone_no {o : Option (Nat × Nat)} (h : ¬ o = none) : o.isNone = false ∧ o.isSome = true := by cases o with | none => exact absurd rfl h | some _ => exact ⟨rfl, rfl⟩
set_option maxHeartbeats 2000000 in
theorem nextPractical_any (n : Int) (w : World) : Calls Try.prog 21 #[.int .i64 n] w (Ret (nxV (nxO n)) w) := by
  cases hn : numB n with
  | false =>
    have E := Lib.hid (nxO_no hn)
    have HN : Hid (∀ w, Calls Try.prog 46 #[.int .i64 n] w (RetQ (.bool false) w)) := Lib.hid fun w => by have := isNumber_any n w; rwa [hn] at this
    clear hn
    go_enter Try.func21, Try.ntmps21
    go_wp2_with fail
    refine (HN.out _).mono ?_; rintro e w1 ⟨rfl, k1, rfl⟩
    go_wp2
    go_ret2
    rw [E.out]
    exact ⟨rfl, by (repeat' (first | (with_reducible exact Below.refl _ _) | (with_reducible assumption) | (with_reducible refine Below.drew ?_) | (with_reducible refine belowDrewN ?_ _) | (with_reducible refine Below.alloc ?_ ?_ _) | (with_reducible refine Below.setCell ?_ ?_ _) | (with_reducible refine belowStep (by assumption) ?_ ?_) | (with_reducible exact Below.size (by assumption)) | go_size))⟩
  | true =>
    obtain ⟨N, rfl, h1, h2⟩ := numB_nat hn
    have EO := Lib.hid (nxO_yes hn)
    have HN : Hid (∀ w, Calls Try.prog 46 #[.int .i64 (N : Int)] w (RetQ (.bool true) w)) := Lib.hid fun w => by have := isNumber_any (N : Int) w; rwa [hn] at this
    clear hn
    go_enter Try.func21, Try.ntmps21
    go_wp2_with fail
    refine (HN.out _).mono ?_; rintro e w1 ⟨rfl, k1, rfl⟩
    go_wp2
    go_loopw [4] (fun v4 wr => ∃ f m : Nat, v4 = .int .i64 (m : Int) ∧ m + f = 2001 ∧ 1 ≤ m ∧ nxF (2000 - N) (N + 1) = nxF f m ∧ Below w.heap.size w wr) (fun v4 _ => 2001 - (intOf v4).toNat)
    case atStart => exact ⟨2000 - N, N + 1, by go_num, by omega, by omega, rfl, by (repeat' (first | (with_reducible exact Below.refl _ _) | (with_reducible assumption) | (with_reducible refine Below.drew ?_) | (with_reducible refine belowDrewN ?_ _) | (with_reducible refine Below.alloc ?_ ?_ _) | (with_reducible refine Below.setCell ?_ ?_ _) | (with_reducible refine belowStep (by assumption) ?_ ?_) | (with_reducible exact Below.size (by assumption)) | go_size))⟩
    case round =>
      obtain ⟨f, m, rfl, hf, hm1, he, hbr⟩ := hrel
      have HE := Lib.hid he
      have hzr := hbr.size
      clear he
      by_cases hlt : m ≤ 2000
      · obtain ⟨f, rfl⟩ : ∃ j, f = j + 1 := ⟨f - 1, by omega⟩
        have hlt' : (m : Int) ≤ 2000 := by omega
        by_cases hb : brkO m = none
        · have HI : Hid (∀ w, Calls Try.prog 14 #[.int .i64 (m : Int)] w (Ret (.tuple #[.bool true, .bool true]) w)) := Lib.hid fun w => by
            have := isPractical_any (m : Int) w
            rwa [prcB_yes hm1 hlt, (isNone_yes hb).1, numB_of hm1 hlt] at this
          have E := Lib.hid (nxF_yes (f := f) hb)
          clear hb
          go_wp2_with fail
          refine (HI.out _).mono ?_; rintro e w3 ⟨rfl, hb3⟩; have hz3 := hb3.size; (try simp only [World.size_alloc, World.size_setCell, World.size_drew, World.heap_drewN] at hz3)
          go_wp2
          go_ret2
          rw [EO.out, HE.out, E.out]
          exact ⟨rfl, by (repeat' (first | (with_reducible exact Below.refl _ _) | (with_reducible assumption) | (with_reducible refine Below.drew ?_) | (with_reducible refine belowDrewN ?_ _) | (with_reducible refine Below.alloc ?_ ?_ _) | (with_reducible refine Below.setCell ?_ ?_ _) | (with_reducible refine belowStep (by assumption) ?_ ?_) | (with_reducible exact Below.size (by assumption)) | go_size))⟩
        · have HI : Hid (∀ w, Calls Try.prog 14 #[.int .i64 (m : Int)] w (Ret (.tuple #[.bool false, .bool true]) w)) := Lib.hid fun w => by
            have := isPractical_any (m : Int) w
            rwa [prcB_yes hm1 hlt, (isNone_no hb).1, numB_of hm1 hlt] at this
          have E := Lib.hid (nxF_no (f := f) hb)
          clear hb
          go_wp2_with fail
          refine (HI.out _).mono ?_; rintro e w3 ⟨rfl, hb3⟩; have hz3 := hb3.size; (try simp only [World.size_alloc, World.size_setCell, World.size_drew, World.heap_drewN] at hz3)
          go_wp2
          go_roundw
          case rel => exact ⟨f, m + 1, by go_num, by omega, by omega, by rw [HE.out, E.out], by (repeat' (first | (with_reducible exact Below.refl _ _) | (with_reducible assumption) | (with_reducible refine Below.drew ?_) | (with_reducible refine belowDrewN ?_ _) | (with_reducible refine Below.alloc ?_ ?_ _) | (with_reducible refine Below.setCell ?_ ?_ _) | (with_reducible refine belowStep (by assumption) ?_ ?_) | (with_reducible exact Below.size (by assumption)) | go_size))⟩
          case measure => simp [intOf]; omega
      · have hlt' : ¬ (m : Int) ≤ 2000 := by omega
        obtain rfl : f = 0 := by omega
        go_wp2
        go_ret2
        rw [EO.out, HE.out]
        exact ⟨rfl, by (repeat' (first | (with_reducible exact Below.refl _ _) | (with_reducible assumption) | (with_reducible refine Below.drew ?_) | (with_reducible refine belowDrewN ?_ _) | (with_reducible refine Below.alloc ?_ ?_ _) | (with_reducible refine Below.setCell ?_ ?_ _) | (with_reducible refine belowStep (by assumption) ?_ ?_) | (with_reducible exact Below.size (by assumption)) | go_size))⟩
set_option maxHeartbeats 2000000 in
theorem spec_nextPractical_any (n : Int) (w : World) : Calls Try.prog 25 #[.int .i64 n] w (Ret (nxV (nxO n)) w) := by
  cases hn : numB n with
  | false =>
    have E := Lib.hid (nxO_no hn)
    have HN : Hid (∀ w, Calls Try.prog 39 #[.int .i64 n] w (RetQ (.bool false) w)) := Lib.hid fun w => by have := prNumber_any n w; rwa [hn] at this
    clear hn
    go_enter Try.func25, Try.ntmps25
    go_wp2_with fail
    refine (HN.out _).mono ?_; rintro e w1 ⟨rfl, k1, rfl⟩
    go_wp2
    go_ret2
    rw [E.out]
    exact ⟨rfl, by (repeat' (first | (with_reducible exact Below.refl _ _) | (with_reducible assumption) | (with_reducible refine Below.drew ?_) | (with_reducible refine belowDrewN ?_ _) | (with_reducible refine Below.alloc ?_ ?_ _) | (with_reducible refine Below.setCell ?_ ?_ _) | (with_reducible refine belowStep (by assumption) ?_ ?_) | (with_reducible exact Below.size (by assumption)) | go_size))⟩
  | true =>
    obtain ⟨N, rfl, h1, h2⟩ := numB_nat hn
    have EO := Lib.hid (nxO_yes hn)
    have HN : Hid (∀ w, Calls Try.prog 39 #[.int .i64 (N : Int)] w (RetQ (.bool true) w)) := Lib.hid fun w => by have := prNumber_any (N : Int) w; rwa [hn] at this
    clear hn
    go_enter Try.func25, Try.ntmps25
    go_wp2_with fail
    refine (HN.out _).mono ?_; rintro e w1 ⟨rfl, k1, rfl⟩
    go_wp2
    go_loopw [4] (fun v4 wr => ∃ f m : Nat, v4 = .int .i64 (m : Int) ∧ m + f = 2001 ∧ 1 ≤ m ∧ nxF (2000 - N) (N + 1) = nxF f m ∧ Below w.heap.size w wr) (fun v4 _ => 2001 - (intOf v4).toNat)
    case atStart => exact ⟨2000 - N, N + 1, by go_num, by omega, by omega, rfl, by (repeat' (first | (with_reducible exact Below.refl _ _) | (with_reducible assumption) | (with_reducible refine Below.drew ?_) | (with_reducible refine belowDrewN ?_ _) | (with_reducible refine Below.alloc ?_ ?_ _) | (with_reducible refine Below.setCell ?_ ?_ _) | (with_reducible refine belowStep (by assumption) ?_ ?_) | (with_reducible exact Below.size (by assumption)) | go_size))⟩
    case round =>
      obtain ⟨f, m, rfl, hf, hm1, he, hbr⟩ := hrel
      have HE := Lib.hid he
      have hzr := hbr.size
      clear he
      by_cases hlt : m ≤ 2000
      · obtain ⟨f, rfl⟩ : ∃ j, f = j + 1 := ⟨f - 1, by omega⟩
        have hlt' : (m : Int) ≤ 2000 := by omega
        by_cases hb : brkO m = none
        · have HI : Hid (∀ w, Calls Try.prog 60 #[.int .i64 (m : Int)] w (Ret (.bool false) w)) := Lib.hid fun w => by
            have := prBroken_any (m : Int) w
            rwa [brO_yes (numB_of hm1 hlt), (isNone_yes hb).2] at this
          have E := Lib.hid (nxF_yes (f := f) hb)
          clear hb
          go_wp2_with fail
          refine (HI.out _).mono ?_; rintro e w3 ⟨rfl, hb3⟩; have hz3 := hb3.size; (try simp only [World.size_alloc, World.size_setCell, World.size_drew, World.heap_drewN] at hz3)
          go_wp2
          go_ret2
          rw [EO.out, HE.out, E.out]
          exact ⟨rfl, by (repeat' (first | (with_reducible exact Below.refl _ _) | (with_reducible assumption) | (with_reducible refine Below.drew ?_) | (with_reducible refine belowDrewN ?_ _) | (with_reducible refine Below.alloc ?_ ?_ _) | (with_reducible refine Below.setCell ?_ ?_ _) | (with_reducible refine belowStep (by assumption) ?_ ?_) | (with_reducible exact Below.size (by assumption)) | go_size))⟩
        · have HI : Hid (∀ w, Calls Try.prog 60 #[.int .i64 (m : Int)] w (Ret (.bool true) w)) := Lib.hid fun w => by
            have := prBroken_any (m : Int) w
            rwa [brO_yes (numB_of hm1 hlt), (isNone_no hb).2] at this
          have E := Lib.hid (nxF_no (f := f) hb)
          clear hb
          go_wp2_with fail
          refine (HI.out _).mono ?_; rintro e w3 ⟨rfl, hb3⟩; have hz3 := hb3.size; (try simp only [World.size_alloc, World.size_setCell, World.size_drew, World.heap_drewN] at hz3)
          go_wp2
          go_roundw
          case rel => exact ⟨f, m + 1, by go_num, by omega, by omega, by rw [HE.out, E.out], by (repeat' (first | (with_reducible exact Below.refl _ _) | (with_reducible assumption) | (with_reducible refine Below.drew ?_) | (with_reducible refine belowDrewN ?_ _) | (with_reducible refine Below.alloc ?_ ?_ _) | (with_reducible refine Below.setCell ?_ ?_ _) | (with_reducible refine belowStep (by assumption) ?_ ?_) | (with_reducible exact Below.size (by assumption)) | go_size))⟩
          case measure => simp [intOf]; omega
      · have hlt' : ¬ (m : Int) ≤ 2000 := by omega
        obtain rfl : f = 0 := by omega
        go_wp2
        go_ret2
        rw [EO.out, HE.out]
        exact ⟨rfl, by (repeat' (first | (with_reducible exact Below.refl _ _) | (with_reducible assumption) | (with_reducible refine Below.drew ?_) | (with_reducible refine belowDrewN ?_ _) | (with_reducible refine Below.alloc ?_ ?_ _) | (with_reducible refine Below.setCell ?_ ?_ _) | (with_reducible refine belowStep (by assumption) ?_ ?_) | (with_reducible exact Below.size (by assumption)) | go_size))⟩
end Go.Proofs.Ytiapljimgnhgoac
