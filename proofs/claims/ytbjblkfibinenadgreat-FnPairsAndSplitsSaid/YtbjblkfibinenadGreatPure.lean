
/-
  Plain facts on integers, used by the walks of this seat.
-/
import Derived.Test.YtbjblkfibinenadGreatRows
import Derived.WalkKit
import Derived.ProofKit
import Derived.OpenShut
import Derived.Below
import Derived.Handy
import Derived.Lib.Hide
import Derived.RegionTactic
import Derived.ChangeAlike
import Derived.BigRegion
import Derived.BigQuiet
import Derived.Deep.QuietTactic
import Derived.Deep.RegionHeld3
import Derived.Deep.DeepCutAuto
import Derived.Deep.DrawnRows
namespace Go.Proofs.YtbjblkfibinenadGreat
open Go.RowKit

/-- What a call of these programs leaves: the value returned, and old memory as it was. -/
def Ret (v : Value) (w : World) (e : Ending) (w' : World) : Prop := e = .returned v ∧ Below w.heap.size w w'
/-- The same where no memory is made: the world has only been drawn from. -/
def RetQ (v : Value) (w : World) (e : Ending) (w' : World) : Prop := e = .returned v ∧ ∃ n, w' = w.drewN n
theorem RetQ.mk0 {v : Value} {w : World} : RetQ v w (.returned v) w := ⟨rfl, 0, rfl⟩
theorem bcell {W w1 : World} (hb : Below W.heap.size W w1) : (∀ b o, b < W.heap.size → w1.cell? ⟨b, o, none⟩ = W.cell? ⟨b, o, none⟩) ∧ (∀ b o, b < W.heap.size → w1.frozen? ⟨b, o, none⟩ = W.frozen? ⟨b, o, none⟩) :=
  ⟨fun b o h => hb.cell (p := ⟨b, o, none⟩) h, fun b o h => hb.frozen (p := ⟨b, o, none⟩) h⟩
theorem belowDrewN {B : Nat} {a w : World} (h : Below B a w) (n : Nat) : Below B a (w.drewN n) := h.trans ⟨rfl, rfl, rfl, Nat.le_refl _, fun _ _ => rfl⟩
theorem bcellB {B : Nat} {W w1 : World} (hb : Below B W w1) : (∀ b o, b < B → w1.cell? ⟨b, o, none⟩ = W.cell? ⟨b, o, none⟩) ∧ (∀ b o, b < B → w1.frozen? ⟨b, o, none⟩ = W.frozen? ⟨b, o, none⟩) :=
  ⟨fun b o h => hb.cell (p := ⟨b, o, none⟩) h, fun b o h => hb.frozen (p := ⟨b, o, none⟩) h⟩
theorem belowStep {B B' : Nat} {a m w : World} (h : Below B' m w) (hB : B ≤ B') (h0 : Below B a m) : Below B a w := h0.trans (h.mono hB)
theorem ret_fr {a b c d : Int} {x y : Bool} (h1 : a = c) (h2 : b = d) (h3 : x = y) : Ending.returned (.tuple #[.agg #[.int .i64 a, .int .i64 b], .bool x]) = .returned (.tuple #[.agg #[.int .i64 c, .int .i64 d], .bool y]) := by rw [h1, h2, h3]
theorem ltAll {m n : Nat} (h : m ≤ n) : ∀ j, j < m → j < n := fun _ hj => Nat.lt_of_lt_of_le hj h
theorem ret_ib {a b : Int} {x y : Bool} (h : a = b) (h2 : x = y) : Ending.returned (.tuple #[.int .i64 a, .bool x]) = .returned (.tuple #[.int .i64 b, .bool y]) := by rw [h, h2]
theorem ret_int {k : IntKind} {a b : Int} (h : a = b) : Ending.returned (.int k a) = .returned (.int k b) := by rw [h]
theorem ret_bool {a b : Bool} (h : a = b) : Ending.returned (.bool a) = .returned (.bool b) := by rw [h]
def gcdI (a b : Int) : Int := (Int.gcd a b : Int)
theorem gcdI_zero (a : Int) (h : 0 ≤ a) : gcdI a 0 = a := by unfold gcdI; rw [Int.gcd_zero_right]; omega
theorem gcdI_step (a b : Int) (ha : 0 ≤ a) (hb : 0 ≤ b) : gcdI b (a % b) = gcdI a b := by
  obtain ⟨m, rfl⟩ := Int.eq_ofNat_of_zero_le ha
  obtain ⟨n, rfl⟩ := Int.eq_ofNat_of_zero_le hb
  unfold gcdI
  rw [← Int.natCast_emod, Int.gcd_natCast_natCast, Int.gcd_natCast_natCast, Nat.gcd_comm n, ← Nat.gcd_rec, Nat.gcd_comm]
theorem gcdI_nonneg (a b : Int) : 0 ≤ gcdI a b := by unfold gcdI; omega
theorem gcdI_pos (a b : Int) (h : 0 < b) : 0 < gcdI a b := by
  have := Int.gcd_pos_of_ne_zero_right a (b := b) (by omega)
  unfold gcdI; omega
theorem gcdI_dvdL (a b : Int) : gcdI a b ∣ a := Int.gcd_dvd_left _ _
theorem gcdI_dvdR (a b : Int) : gcdI a b ∣ b := Int.gcd_dvd_right _ _
theorem gcdI_leR (a b : Int) (h : 0 < b) : gcdI a b ≤ b := Int.le_of_dvd h (gcdI_dvdR a b)

/-- a quotient in lowest terms: its parts, and whether they are small enough -/
def redB (n d : Int) : Bool := decide (n / gcdI n d ≤ 1000000000) && decide (d / gcdI n d ≤ 1000000000)
def redN (n d : Int) : Int := if redB n d = true then n / gcdI n d else 0
def redD (n d : Int) : Int := if redB n d = true then d / gcdI n d else 0
theorem redB_yes {n d : Int} (h1 : n / gcdI n d ≤ 1000000000) (h2 : d / gcdI n d ≤ 1000000000) : redB n d = true := by simp [redB, h1, h2]
theorem redB_no1 {n d : Int} (h1 : ¬ n / gcdI n d ≤ 1000000000) : redB n d = false := by simp [redB]; omega
theorem redB_no2 {n d : Int} (h1 : ¬ d / gcdI n d ≤ 1000000000) : redB n d = false := by simp [redB]; omega
/-- what a pair of numbers must be to be a fraction -/
def goodB (n d : Int) : Bool := decide (0 ≤ n) && decide (n ≤ 1000000000) && decide (1 ≤ d) && decide (d ≤ 1000000000) && decide (gcdI n d = 1)
theorem goodB_iff (n d : Int) : goodB n d = true ↔ 0 ≤ n ∧ n ≤ 1000000000 ∧ 1 ≤ d ∧ d ≤ 1000000000 ∧ gcdI n d = 1 := by
  simp [goodB, and_assoc]
theorem goodB_not {n d : Int} (h : ¬ (0 ≤ n ∧ n ≤ 1000000000 ∧ 1 ≤ d ∧ d ≤ 1000000000 ∧ gcdI n d = 1)) : goodB n d = false := by
  cases hg : goodB n d with
  | false => rfl
  | true => exact absurd ((goodB_iff n d).1 hg) h
theorem red_one {n d : Int} (h : gcdI n d = 1) : n / gcdI n d = n ∧ d / gcdI n d = d := by rw [h]; simp
/-- a number that has a common divisor greater than 1 gets less -/
theorem red_less {n d : Int} (hd : 1 ≤ d) (h : gcdI n d ≠ 1) : d / gcdI n d < d := by
  have h1 := gcdI_pos n d (by omega)
  exact Int.ediv_lt_self_of_pos_of_ne_one (by omega) h
theorem redB_iff (n d : Int) : redB n d = true ↔ n / gcdI n d ≤ 1000000000 ∧ d / gcdI n d ≤ 1000000000 := by simp [redB]
theorem good_of_red {n d : Int} (hn : 0 ≤ n) (hd : 1 ≤ d) (hr : redB n d = true) : goodB n d = (decide (n / gcdI n d = n) && decide (d / gcdI n d = d)) := by
  obtain ⟨r1, r2⟩ := (redB_iff n d).1 hr
  by_cases hg : gcdI n d = 1
  · obtain ⟨e1, e2⟩ := red_one hg
    rw [e1] at r1
    rw [e2] at r2
    rw [(goodB_iff n d).2 ⟨hn, r1, hd, r2, hg⟩, e1, e2]
    simp
  · have hl := red_less hd hg
    rw [goodB_not (fun h => hg h.2.2.2.2)]
    have : ¬ (d / gcdI n d = d) := by omega
    simp [this]
theorem good_bounds {n d : Int} (h : goodB n d = true) : 0 ≤ n ∧ n ≤ 1000000000 ∧ 1 ≤ d ∧ d ≤ 1000000000 := by
  have := (goodB_iff n d).1 h
  exact ⟨this.1, this.2.1, this.2.2.1, this.2.2.2.1⟩
/-- products of parts of fractions -/
theorem mul_bounds {a b : Int} (ha : 0 ≤ a) (ha2 : a ≤ 1000000000) (hb : 0 ≤ b) (hb2 : b ≤ 1000000000) : 0 ≤ a * b ∧ a * b ≤ 1000000000000000000 :=
  ⟨Int.mul_nonneg ha hb, by have := Int.mul_le_mul ha2 hb2 hb (by omega : (0 : Int) ≤ 1000000000); omega⟩
theorem mul_pos1 {a b : Int} (ha : 1 ≤ a) (hb : 1 ≤ b) : 1 ≤ a * b := by have := Int.mul_pos (a := a) (b := b) (by omega) (by omega); omega
theorem gcdI_red {n d : Int} (hd : 1 ≤ d) : gcdI (n / gcdI n d) (d / gcdI n d) = 1 := by
  have h1 := gcdI_pos n d (by omega)
  unfold gcdI at *
  rw [Int.gcd_ediv_gcd_ediv_gcd (by omega)]
  rfl
theorem div_pos1 {a b : Int} (ha : 1 ≤ a) (hb : 1 ≤ b) (h : b ∣ a) : 1 ≤ a / b := by
  have := Int.ediv_pos_of_pos_of_dvd (a := a) (b := b) (by omega) (by omega) h
  omega
theorem good_red {n d : Int} (hn : 0 ≤ n) (hd : 1 ≤ d) : goodB (n / gcdI n d) (d / gcdI n d) = redB n d := by
  have h1 := gcdI_pos n d (by omega)
  have q1 : 0 ≤ n / gcdI n d := Int.ediv_nonneg hn (by omega)
  have q2 : 1 ≤ d / gcdI n d := div_pos1 hd (by omega) (gcdI_dvdR n d)
  rw [Bool.eq_iff_iff, goodB_iff, redB_iff]
  exact ⟨fun h => ⟨h.2.1, h.2.2.2.1⟩, fun h => ⟨q1, h.1, q2, h.2, gcdI_red hd⟩⟩
def cmpI (x y : Int) : Int := if x < y then -1 else if y < x then 1 else 0
theorem cmpI_lt {x y : Int} (h : x < y) : cmpI x y = -1 := by simp [cmpI, h]
theorem cmpI_gt {x y : Int} (h : y < x) : cmpI x y = 1 := by simp [cmpI, h]; omega
theorem cmpI_eq {x y : Int} (h : x = y) : cmpI x y = 0 := by simp [cmpI, h]
end Go.Proofs.YtbjblkfibinenadGreat
