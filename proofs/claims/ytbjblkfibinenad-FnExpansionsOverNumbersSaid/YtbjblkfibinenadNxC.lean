
/-
  Contracts of IsPractical (in the program), of the model's test by a break, and of the lists of practical numbers.
-/
import Derived.Test.YtbjblkfibinenadBkI
namespace Go.Proofs.Ytbjblkfibinenad
open Go.RowKit
def prcB (n : Int) : Bool := numB n && (brO n).isNone
theorem prcB_yes {N : Nat} (h1 : 1 ≤ N) (h2 : N ≤ 2000) : prcB (N : Int) = (brkO N).isNone := by
  have h := numB_of h1 h2
  unfold prcB
  rw [h, brO_yes h]
  rfl
theorem prcB_no {n : Int} (h : numB n = false) : prcB n = false := by unfold prcB; rw [h]; rfl
set_option maxHeartbeats 2000000 in
theorem isPractical_any (n : Int) (w : World) : Calls Try.prog 40 #[.int .i64 n] w (Ret (.tuple #[.bool (prcB n), .bool (numB n)]) w) := by
  cases hn : numB n with
  | false =>
    have E := Lib.hid (prcB_no hn)
    have HN : Hid (∀ w, Calls Try.prog 34 #[.int .i64 n] w (RetQ (.bool false) w)) := Lib.hid fun w => by have := isNumber_any n w; rwa [hn] at this
    clear hn
    go_enter Try.func40, Try.ntmps40
    go_wp2_with fail
    refine (HN.out _).mono ?_; rintro e w1 ⟨rfl, k1, rfl⟩
    go_wp2
    go_ret2
    rw [E.out]
    exact ⟨rfl, by (repeat' (first | (with_reducible exact Below.refl _ _) | (with_reducible assumption) | (with_reducible refine Below.drew ?_) | (with_reducible refine belowDrewN ?_ _) | (with_reducible refine Below.alloc ?_ ?_ _) | (with_reducible refine Below.setCell ?_ ?_ _) | (with_reducible refine belowStep (by assumption) ?_ ?_) | (with_reducible exact Below.size (by assumption)) | go_size))⟩
  | true =>
    have E : Hid (prcB n = !(brO n).isSome) := Lib.hid (by unfold prcB; rw [hn]; cases brO n <;> rfl)
    have HN : Hid (∀ w, Calls Try.prog 34 #[.int .i64 n] w (RetQ (.bool true) w)) := Lib.hid fun w => by have := isNumber_any n w; rwa [hn] at this
    have IP : Hid (∀ w, Calls Try.prog 65 #[.int .i64 n] w (Ret (bkV (brO n)) w)) := Lib.hid fun w => breakOf_any n w
    unfold bkV at IP
    generalize bkA (brO n) = x at *
    generalize bkB (brO n) = y at *
    generalize (brO n).isSome = t at *
    clear hn
    go_enter Try.func40, Try.ntmps40
    go_wp2_with fail
    refine (HN.out _).mono ?_; rintro e w1 ⟨rfl, k1, rfl⟩
    go_wp2_with fail
    refine (IP.out _).mono ?_; rintro e w2 ⟨rfl, hb2⟩; have hz2 := hb2.size; (try simp only [World.heap_drewN] at hz2)
    go_wp2
    go_ret2
    rw [E.out]
    exact ⟨rfl, by (repeat' (first | (with_reducible exact Below.refl _ _) | (with_reducible assumption) | (with_reducible refine Below.drew ?_) | (with_reducible refine belowDrewN ?_ _) | (with_reducible refine Below.alloc ?_ ?_ _) | (with_reducible refine Below.setCell ?_ ?_ _) | (with_reducible refine belowStep (by assumption) ?_ ?_) | (with_reducible exact Below.size (by assumption)) | go_size))⟩
set_option maxHeartbeats 2000000 in
theorem prBroken_any (n : Int) (w : World) : Calls Try.prog 38 #[.int .i64 n] w (Ret (.bool (brO n).isSome) w) := by
  have SP : Hid (∀ w, Calls Try.prog 64 #[.int .i64 n] w (Ret (bkV (brO n)) w)) := Lib.hid fun w => spec_breakOf_any n w
  unfold bkV at SP
  generalize bkA (brO n) = x at *
  generalize bkB (brO n) = y at *
  generalize (brO n).isSome = t at *
  go_enter Try.func38, Try.ntmps38
  go_wp2_with fail
  refine (SP.out _).mono ?_; rintro e w2 ⟨rfl, hb2⟩; have hz2 := hb2.size; (try simp only [World.size_alloc, World.size_setCell, World.size_drew, World.heap_drewN] at hz2)
  go_wp2
  go_ret
  exact ⟨rfl, by (repeat' (first | (with_reducible exact Below.refl _ _) | (with_reducible assumption) | (with_reducible refine Below.drew ?_) | (with_reducible refine belowDrewN ?_ _) | (with_reducible refine Below.alloc ?_ ?_ _) | (with_reducible refine Below.setCell ?_ ?_ _) | (with_reducible refine belowStep (by assumption) ?_ ?_) | (with_reducible exact Below.size (by assumption)) | go_size))⟩
/-- the first number from m on that isn't broken -/
def nxF : Nat → Nat → Option Nat
  | 0, _ => none
  | f + 1, m => if brkO m = none then some m else nxF f (m + 1)
theorem nxF_yes {f m : Nat} (h : brkO m = none) : nxF (f + 1) m = some m := by rw [nxF, if_pos h]
theorem nxF_no {f m : Nat} (h : ¬ brkO m = none) : nxF (f + 1) m = nxF f (m + 1) := by rw [nxF, if_neg h]
def nxO (n : Int) : Option Nat := if numB n = true then nxF (2000 - n.toNat) (n.toNat + 1) else none
theorem nxO_yes {N : Nat} (h : numB (N : Int) = true) : nxO (N : Int) = nxF (2000 - N) (N + 1) := by unfold nxO; rw [if_pos h]; rfl
theorem nxO_no {n : Int} (h : numB n = false) : nxO n = none := by unfold nxO; rw [h]; rfl
def nxV (o : Option Nat) : Value := .tuple #[.int .i64 ((o.getD 0 : Nat) : Int), .bool o.isSome]
theorem isNone_yes {o : Option (Nat × Nat)} (h : o = none) : o.isNone = true ∧ o.isSome = false := by subst h; exact ⟨rfl, rfl⟩
theorem isNone_no {o : Option (Nat × Nat)} (h : ¬ o = none) : o.isNone = false ∧ o.isSome = true := by cases o with | none => exact absurd rfl h | some _ => exact ⟨rfl, rfl⟩
end Go.Proofs.Ytbjblkfibinenad
