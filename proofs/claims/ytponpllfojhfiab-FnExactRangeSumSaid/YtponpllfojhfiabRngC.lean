
/-
  Contracts of the sums of ranges.
-/
import Derived.Test.YtponpllfojhfiabHarL
namespace Go.Proofs.Ytponpllfojhfiab
open Go.RowKit
theorem l1LeastR_any (a b : Int) (w : World) : Calls Try.prog 61 #[.int .i64 a, .int .i64 b] w (RetQ (.int .i64 (min a b)) w) := by
  by_cases h : a < b
  · go_enter Try.func61, Try.ntmps61
    go_wp2
    go_ret
    exact ⟨ret_int (by omega), 0, rfl⟩
  · go_enter Try.func61, Try.ntmps61
    go_wp2
    go_ret
    exact ⟨ret_int (by omega), 0, rfl⟩
/-- a range -/
def rgB (f u : Int) : Bool := decide (1 ≤ f) && decide (f ≤ u) && decide (u ≤ 60) && decide (u - f ≤ 5)
def rgP (f u : Int) : Int × Int := if rgB f u = true then rsO f (u - f + 1).toNat else (0, 0)
def rgT (f u : Int) : Bool := rgB f u && rsB f (u - f + 1).toNat
theorem rg_no {f u : Int} (h : rgB f u = false) : (rgP f u).1 = 0 ∧ (rgP f u).2 = 0 ∧ rgT f u = false := by
  rw [rgP, rgT, h]; exact ⟨rfl, rfl, rfl⟩
theorem rg_iff {f u : Int} : rgB f u = true ↔ 1 ≤ f ∧ f ≤ u ∧ u ≤ 60 ∧ u - f ≤ 5 := by simp [rgB, and_assoc]
/-- in a range: k more numbers behind the first one -/
theorem rg_yes {f u : Int} (h : rgB f u = true) : ∃ (F k : Nat), f = (F : Int) ∧ u = (F : Int) + (k : Int) ∧ 1 ≤ F ∧ F ≤ 60 ∧ k ≤ 5 ∧ F + k ≤ 60 ∧ rgP f u = rsO f (k + 1) ∧ rgT f u = rsB f (k + 1) := by
  obtain ⟨h1, h2, h3, h4⟩ := rg_iff.1 h
  obtain ⟨F, rfl⟩ := Int.eq_ofNat_of_zero_le (show 0 ≤ f by omega)
  obtain ⟨k, hk⟩ := Int.eq_ofNat_of_zero_le (show 0 ≤ u - (F : Int) by omega)
  refine ⟨F, k, rfl, by omega, by omega, by omega, by omega, by omega, ?_, ?_⟩
  · rw [rgP, if_pos h, show u - (F : Int) + 1 = ((k + 1 : Nat) : Int) by omega, Int.toNat_natCast]
  · rw [rgT, h, show u - (F : Int) + 1 = ((k + 1 : Nat) : Int) by omega, Int.toNat_natCast, Bool.true_and]
theorem rangeSum_bad (f u : Int) (w : World) (h : rgB f u = false) (rf : -9223372036854775808 ≤ f ∧ f ≤ 9223372036854775807) (ru : -9223372036854775808 ≤ u ∧ u ≤ 9223372036854775807) (hc : f < 1 ∨ u < f ∨ 60 < u ∨ (1 ≤ f ∧ f ≤ u ∧ u ≤ 60 ∧ 5 < u - f)) : Calls Try.prog 31 #[.int .i64 f, .int .i64 u] w (Ret (.tuple #[.agg #[.int .i64 0, .int .i64 0], .bool false]) w) := by
  clear h
  by_cases h1 : f < 1
  · clear hc
    go_enter Try.func31, Try.ntmps31
    go_wp2
    refine bodyPost_ret (by simp [results, Try.results31, go_sem, *]; try rfl) rfl ?_
    exact ⟨rfl, by (repeat' (first | (with_reducible exact Below.refl _ _) | (with_reducible assumption) | (with_reducible refine Below.drew ?_) | (with_reducible refine belowDrewN ?_ _) | (with_reducible refine Below.alloc ?_ ?_ _) | (with_reducible refine Below.setCell ?_ ?_ _) | (with_reducible refine belowStep (by assumption) ?_ ?_) | (with_reducible exact Below.size (by assumption)) | go_size))⟩
  · by_cases h2 : u < f
    · clear hc
      go_enter Try.func31, Try.ntmps31
      go_wp2
      refine bodyPost_ret (by simp [results, Try.results31, go_sem, *]; try rfl) rfl ?_
      exact ⟨rfl, by (repeat' (first | (with_reducible exact Below.refl _ _) | (with_reducible assumption) | (with_reducible refine Below.drew ?_) | (with_reducible refine belowDrewN ?_ _) | (with_reducible refine Below.alloc ?_ ?_ _) | (with_reducible refine Below.setCell ?_ ?_ _) | (with_reducible refine belowStep (by assumption) ?_ ?_) | (with_reducible exact Below.size (by assumption)) | go_size))⟩
    · by_cases h3 : 60 < u
      · clear hc
        go_enter Try.func31, Try.ntmps31
        go_wp2
        refine bodyPost_ret (by simp [results, Try.results31, go_sem, *]; try rfl) rfl ?_
        exact ⟨rfl, by (repeat' (first | (with_reducible exact Below.refl _ _) | (with_reducible assumption) | (with_reducible refine Below.drew ?_) | (with_reducible refine belowDrewN ?_ _) | (with_reducible refine Below.alloc ?_ ?_ _) | (with_reducible refine Below.setCell ?_ ?_ _) | (with_reducible refine belowStep (by assumption) ?_ ?_) | (with_reducible exact Below.size (by assumption)) | go_size))⟩
      · have h4 : 5 < u - f := by omega
        have o : IntKind.i64.wrap (u - f) = u - f := IntWalk.i64_in _ (by omega)
        clear hc
        go_enter Try.func31, Try.ntmps31
        go_wp2
        refine bodyPost_ret (by simp [results, Try.results31, go_sem, *]; try rfl) rfl ?_
        exact ⟨rfl, by (repeat' (first | (with_reducible exact Below.refl _ _) | (with_reducible assumption) | (with_reducible refine Below.drew ?_) | (with_reducible refine belowDrewN ?_ _) | (with_reducible refine Below.alloc ?_ ?_ _) | (with_reducible refine Below.setCell ?_ ?_ _) | (with_reducible refine belowStep (by assumption) ?_ ?_) | (with_reducible exact Below.size (by assumption)) | go_size))⟩
set_option maxHeartbeats 1000000 in
theorem rangeSum_any (f u : Int) (w : World) (rf : -9223372036854775808 ≤ f ∧ f ≤ 9223372036854775807) (ru : -9223372036854775808 ≤ u ∧ u ≤ 9223372036854775807) : Calls Try.prog 31 #[.int .i64 f, .int .i64 u] w (Ret (.tuple #[.agg #[.int .i64 ((rgP f u).1), .int .i64 ((rgP f u).2)], .bool (rgT f u)]) w) := by
  cases hb : rgB f u with
  | false =>
    rw [(rg_no hb).1, (rg_no hb).2.1, (rg_no hb).2.2]
    refine rangeSum_bad f u w hb rf ru ?_
    have : ¬ (1 ≤ f ∧ f ≤ u ∧ u ≤ 60 ∧ u - f ≤ 5) := fun h => by rw [rg_iff.2 h] at hb; cases hb
    omega
  | true =>
    obtain ⟨F, k, rfl, rfl, f1, f2, k5, fk, e1, e2⟩ := rg_yes hb
    have E := Lib.hid (And.intro e1 e2)
    have hgd : ∀ j, j ≤ k → rsB (F : Int) j = true := fun j hj => range_good f2 f1 (by omega)
    have HX := Lib.hid (rsO_eN (f := (F : Int)) (k := k) (by omega) (by omega) (by omega) hgd)
    have hl := nums_len (F : Int) (k + 1)
    have hl2 : (nums (F : Int) (k + 1)).length ≤ 1048576 := by omega
    have HN := Lib.hid fun (w : World) => numbersFrom_any (F : Int) (k + 1) ((F : Int) + (k : Int)) w (by omega) (by omega) (by omega) (by omega)
    have HS := Lib.hid fun (w : World) (A : Option Addr) (c : Nat) (h : Reads w A (nums (F : Int) (k + 1))) => sumOf_any w A c (nums (F : Int) (k + 1)) h hl2 (nums_in (by omega) (by omega))
    have h1 : ¬ (F : Int) < 1 := by omega
    have h2 : ¬ (F : Int) + (k : Int) < (F : Int) := by omega
    have h3 : ¬ 60 < (F : Int) + (k : Int) := by omega
    have h4 : ¬ 5 < (F : Int) + (k : Int) - (F : Int) := by omega
    have o : IntKind.i64.wrap ((F : Int) + (k : Int) - (F : Int)) = (F : Int) + (k : Int) - (F : Int) := IntWalk.i64_in _ (by omega)
    clear hl hl2 hgd hb e1 e2
    go_enter Try.func31, Try.ntmps31
    go_wp2_with fail
    refine (HN.out _).mono ?_; rintro e w1 ⟨v1, rfl, ho1, hb1⟩; have hz1 := hb1.size; (try simp only [World.size_alloc, World.size_setCell, World.size_drew, World.heap_drewN] at hz1)
    obtain ⟨A1, c1, rfl, hr1⟩ := ho1.form
    obtain ⟨hc1, hf1⟩ := bcellB hb1; have hz1 := hb1.size; (try simp only [World.size_alloc, World.size_setCell, World.size_drew, World.heap_drewN] at hc1 hf1 hz1); (try have hy1_r_0 : wr.heap.size < w1.heap.size := by omega); (try have hn1_r_0 : wr.heap.size ≠ w1.heap.size := by omega); (try have hm1_r_0 : w1.heap.size ≠ wr.heap.size := by omega); (try have hy1_r_1 : wr.heap.size + 1 < w1.heap.size := by omega); (try have hn1_r_1 : wr.heap.size + 1 ≠ w1.heap.size := by omega); (try have hm1_r_1 : w1.heap.size ≠ wr.heap.size + 1 := by omega); (try have hy1_r_2 : wr.heap.size + 1 + 1 < w1.heap.size := by omega); (try have hp1_r_1 : wr.heap.size < w1.heap.size + 1 := by omega); (try have hp1_r_2 : wr.heap.size < w1.heap.size + 1 + 1 := by omega); (try have hy1_0_0 : w.heap.size < w1.heap.size := by omega); (try have hn1_0_0 : w.heap.size ≠ w1.heap.size := by omega); (try have hm1_0_0 : w1.heap.size ≠ w.heap.size := by omega); (try have hy1_0_1 : w.heap.size + 1 < w1.heap.size := by omega); (try have hn1_0_1 : w.heap.size + 1 ≠ w1.heap.size := by omega); (try have hm1_0_1 : w1.heap.size ≠ w.heap.size + 1 := by omega); (try have hy1_0_2 : w.heap.size + 1 + 1 < w1.heap.size := by omega); (try have hp1_0_1 : w.heap.size < w1.heap.size + 1 := by omega); (try have hp1_0_2 : w.heap.size < w1.heap.size + 1 + 1 := by omega); (try have hg1_g1 : g1 < w1.heap.size := by omega); (try have hi1_g1 : g1 ≠ w1.heap.size := by omega); (try have hj1_g1 : w1.heap.size ≠ g1 := by omega); (try have hk1_g1 : g1 < w1.heap.size + 1 := by omega); (try have hg1_g2 : g2 < w1.heap.size := by omega); (try have hi1_g2 : g2 ≠ w1.heap.size := by omega); (try have hj1_g2 : w1.heap.size ≠ g2 := by omega); (try have hk1_g2 : g2 < w1.heap.size + 1 := by omega)
    go_wp2_with fail
    refine (HS.out _ _ _ (hr1.below (by (repeat' (first | (with_reducible exact Below.refl _ _) | (with_reducible assumption) | (with_reducible refine Below.drew ?_) | (with_reducible refine belowDrewN ?_ _) | (with_reducible refine Below.alloc ?_ ?_ _) | (with_reducible refine Below.setCell ?_ ?_ _) | (with_reducible refine belowStep (by assumption) ?_ ?_) | (with_reducible exact Below.size (by assumption)) | go_size))))).mono ?_; rintro e w2 ⟨rfl, hb2⟩; obtain ⟨hc2, hf2⟩ := bcellB hb2; have hz2 := hb2.size; (try simp only [World.size_alloc, World.size_setCell, World.size_drew, World.heap_drewN] at hc2 hf2 hz2); (try have hy2_r_0 : wr.heap.size < w2.heap.size := by omega); (try have hn2_r_0 : wr.heap.size ≠ w2.heap.size := by omega); (try have hm2_r_0 : w2.heap.size ≠ wr.heap.size := by omega); (try have hy2_r_1 : wr.heap.size + 1 < w2.heap.size := by omega); (try have hn2_r_1 : wr.heap.size + 1 ≠ w2.heap.size := by omega); (try have hm2_r_1 : w2.heap.size ≠ wr.heap.size + 1 := by omega); (try have hy2_r_2 : wr.heap.size + 1 + 1 < w2.heap.size := by omega); (try have hp2_r_1 : wr.heap.size < w2.heap.size + 1 := by omega); (try have hp2_r_2 : wr.heap.size < w2.heap.size + 1 + 1 := by omega); (try have hy2_0_0 : w.heap.size < w2.heap.size := by omega); (try have hn2_0_0 : w.heap.size ≠ w2.heap.size := by omega); (try have hm2_0_0 : w2.heap.size ≠ w.heap.size := by omega); (try have hy2_0_1 : w.heap.size + 1 < w2.heap.size := by omega); (try have hn2_0_1 : w.heap.size + 1 ≠ w2.heap.size := by omega); (try have hm2_0_1 : w2.heap.size ≠ w.heap.size + 1 := by omega); (try have hy2_0_2 : w.heap.size + 1 + 1 < w2.heap.size := by omega); (try have hp2_0_1 : w.heap.size < w2.heap.size + 1 := by omega); (try have hp2_0_2 : w.heap.size < w2.heap.size + 1 + 1 := by omega); (try have hy2_1_0 : w1.heap.size < w2.heap.size := by omega); (try have hn2_1_0 : w1.heap.size ≠ w2.heap.size := by omega); (try have hm2_1_0 : w2.heap.size ≠ w1.heap.size := by omega); (try have hy2_1_1 : w1.heap.size + 1 < w2.heap.size := by omega); (try have hn2_1_1 : w1.heap.size + 1 ≠ w2.heap.size := by omega); (try have hm2_1_1 : w2.heap.size ≠ w1.heap.size + 1 := by omega); (try have hy2_1_2 : w1.heap.size + 1 + 1 < w2.heap.size := by omega); (try have hp2_1_1 : w1.heap.size < w2.heap.size + 1 := by omega); (try have hp2_1_2 : w1.heap.size < w2.heap.size + 1 + 1 := by omega); (try have hg2_g1 : g1 < w2.heap.size := by omega); (try have hi2_g1 : g1 ≠ w2.heap.size := by omega); (try have hj2_g1 : w2.heap.size ≠ g1 := by omega); (try have hk2_g1 : g1 < w2.heap.size + 1 := by omega); (try have hg2_g2 : g2 < w2.heap.size := by omega); (try have hi2_g2 : g2 ≠ w2.heap.size := by omega); (try have hj2_g2 : w2.heap.size ≠ g2 := by omega); (try have hk2_g2 : g2 < w2.heap.size + 1 := by omega)
    go_wp2
    refine bodyPost_ret (by simp [results, Try.results31, go_sem, *]; try rfl) rfl ?_
    rw [E.out.1, E.out.2, HX.out.1, HX.out.2.1, HX.out.2.2]
    exact ⟨rfl, by (repeat' (first | (with_reducible exact Below.refl _ _) | (with_reducible assumption) | (with_reducible refine Below.drew ?_) | (with_reducible refine belowDrewN ?_ _) | (with_reducible refine Below.alloc ?_ ?_ _) | (with_reducible refine Below.setCell ?_ ?_ _) | (with_reducible refine belowStep (by assumption) ?_ ?_) | (with_reducible exact Below.size (by assumption)) | go_size))⟩
theorem rsO_eq {f : Int} {k : Nat} : (if goodB (rs f k).1 (rs f k).2 = true then (rs f k).1 else 0) = (rsO f k).1 ∧ (if goodB (rs f k).1 (rs f k).2 = true then (rs f k).2 else 0) = (rsO f k).2 := by
  unfold rsO rsB
  cases goodB (rs f k).1 (rs f k).2 <;> exact ⟨rfl, rfl⟩
end Go.Proofs.Ytponpllfojhfiab
