
/-
  Contracts of the greedy step, of the tests of a fraction against 1, and of what they are made of.
-/
import Derived.Test.YtbjblkfibinenaaOrder
import Derived.Test.YtbjblkfibinenaaWalkP
namespace Go.Proofs.Ytbjblkfibinenaa
open Go.RowKit
theorem div_in {n d : Int} (hn : 1 ≤ n) (hd : 0 ≤ d) : (d.tdiv n = d / n) ∧ 0 ≤ d / n ∧ d / n ≤ d :=
  ⟨Int.tdiv_eq_ediv_of_nonneg hd, Int.ediv_nonneg hd (by omega), Int.ediv_le_self n hd⟩
/-- may be stepped from -/
def stepB (n d : Int) : Bool := goodB n d && decide (n ≠ 0)
theorem stepB_yes {n d : Int} (h : stepB n d = true) : goodB n d = true ∧ 1 ≤ n := by
  simp only [stepB, Bool.and_eq_true, decide_eq_true_eq] at h
  have := good_bounds h.1
  exact ⟨h.1, by omega⟩
theorem ucd_tB {n d : Int} (hg : goodB n d = true) (hn : 1 ≤ n) : tB n d (ucd n d) = redB (n * ucd n d - d) (d * ucd n d) := by
  obtain ⟨_, _, d1, d2⟩ := good_bounds hg
  obtain ⟨u1, u2, u3, u4⟩ := ucd_facts hn d1
  have h1 : ucd n d ≤ 1000000000 := by omega
  simp [tB, h1, u2]
/-- the model takes a unit fraction away, and then looks whether what is left is a fraction -/
theorem minusUnit_any (n d t : Int) (w : World) (hg : goodB n d = true) (ht : 1 ≤ t) (ht2 : t ≤ 1000000000) (hl : d ≤ n * t) :
    Calls Try.prog 78 #[.agg #[.int .i64 n, .int .i64 d], .agg #[.int .i64 1, .int .i64 t]] w (Ret (.agg #[.int .i64 ((n * t - d) / gcdI (n * t - d) (d * t)), .int .i64 ((d * t) / gcdI (n * t - d) (d * t))]) w) := by
  have h := unMinus_any n d 1 t w hg (good_unit ht ht2) (by omega)
  rw [Int.one_mul] at h
  exact h
theorem tB_of {n d t : Int} (hd : 1 ≤ d) (ht : 1 ≤ t) (ht2 : t ≤ 1000000000) (hl : d ≤ n * t) : goodB ((n * t - d) / gcdI (n * t - d) (d * t)) ((d * t) / gcdI (n * t - d) (d * t)) = tB n d t := by
  rw [good_red (by omega) (mul_pos1 hd ht)]
  simp [tB, ht2, hl]
/-- a fraction below 1, or up to 1 -/
def belowB (n d : Int) : Bool := goodB n d && decide (n < d)
def atMostB (n d : Int) : Bool := goodB n d && decide (n ≤ d)
theorem belowB_yes {n d : Int} (h : belowB n d = true) : goodB n d = true ∧ n < d := by simpa [belowB] using h
theorem atMostB_yes {n d : Int} (h : atMostB n d = true) : goodB n d = true ∧ n ≤ d := by simpa [atMostB] using h
end Go.Proofs.Ytbjblkfibinenaa
