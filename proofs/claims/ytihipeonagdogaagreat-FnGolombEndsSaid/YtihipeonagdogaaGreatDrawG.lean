
/-
  The contract of the draw of a fraction for the law on the method by inverses.
-/
import Derived.Test.YtihipeonagdogaaGreatDrawP
namespace Go.Proofs.YtihipeonagdogaaGreat
open Go.RowKit
set_option maxRecDepth 100000 in
set_option maxHeartbeats 4000000 in
theorem drawGolomb_any (w : World) (A : Option Addr) (n c : Nat) (hr : ReadsB w A n) (hn : n ≤ 1048576) : Calls Tryz.prog 7 #[.slice A n c] w (fun e w' => ∃ a b : Int, e = .returned (.agg #[.int .i64 a, .int .i64 b]) ∧ (-9223372036854775808 ≤ a ∧ a ≤ 9223372036854775807) ∧ (-9223372036854775808 ≤ b ∧ b ≤ 9223372036854775807) ∧ Below w.heap.size w w') := by
  have T0 := Lib.hid (TwoAt.new w 0 0 25)
  have hc0 := beginP (w.alloc (.cells #[.int .i64 0, .int .i64 0] 25)) A n c 46 (hr.below ((Below.refl _ _).alloc (Nat.le_refl _) _)) hn
  rw [World.size_alloc] at hc0
  have HC0 := Lib.hid hc0
  clear hr hc0
  go_enter Tryz.func7, Tryz.ntmps7
  go_wp2_with fail
  refine (oneP_any (w.alloc (.cells #[.int .i64 0, .int .i64 0] 25)) _ (w.heap.size + 1) 0 (by omega) _ (by omega) HC0.out).mono ?_; rintro e w1 ⟨o, rfl, hc1, hg1⟩
  have HC1 := Lib.hid hc1
  have hz1 := hg1.size
  simp only [World.size_alloc] at hz1
  clear hc1 hg1
  cases o with
  | true =>
    go_wp2_with fail
    refine (pick_any (w.alloc (.cells #[.int .i64 0, .int .i64 0] 25)) _ (w.heap.size + 1) 2 (by omega) _ (by omega) HC1.out).mono ?_; rintro e w2 ⟨x, rfl, x0, x1, hc2, hg2⟩
    have HC2 := Lib.hid hc2
    have hz2 := hg2.size
    clear hc2 hg2
    go_wp2_with fail
    refine (pick_any (w.alloc (.cells #[.int .i64 0, .int .i64 0] 25)) _ (w.heap.size + 1) 4 (by omega) _ (by omega) HC2.out).mono ?_; rintro e w3 ⟨y, rfl, y0, y1, hc3, hg3⟩
    have HC3 := Lib.hid hc3
    have hz3 := hg3.size
    clear hc3 hg3
    go_wp2_with fail
    refine (unMake_any _ _ _ (by omega) (by omega) (by omega) (by omega)).mono ?_; rintro e w4 ⟨rfl, hb4⟩
    have hsm := red_small (x := 1 + x) (y := 40001 + y) (by omega) (by omega) (by omega) (by omega)
    generalize (1 + x) / gcdI (1 + x) (40001 + y) = a at *
    generalize (40001 + y) / gcdI (1 + x) (40001 + y) = b at *
    have Hsm := Lib.hid hsm
    have HC4 := Lib.hid (HC3.out.below hb4)
    have hbs := HC4.out.base.2.2
    have hz4 := hb4.size
    obtain ⟨t1, t2, t3, t4, t5⟩ := T0.out.below hbs
    have hbw : Below w.heap.size w w4 := by (repeat' (first | (with_reducible exact Below.refl _ _) | (with_reducible assumption) | (with_reducible refine Below.drew ?_) | (with_reducible refine belowDrewN ?_ _) | (with_reducible refine Below.alloc ?_ ?_ _) | (with_reducible refine Below.setCell ?_ ?_ _) | (with_reducible refine belowStep (by assumption) ?_ ?_) | (with_reducible exact Below.size (by assumption)) | go_size))
    clear hsm hb4 hbs
    go_wp2
    refine bodyPost_ret (by simp [results, Tryz.results7, go_sem, *]; try rfl) rfl ?_
    exact ⟨a, b, rfl, Hsm.out.1, Hsm.out.2, (hbw.setCell (Nat.le_refl _) _).setCell (Nat.le_refl _) _⟩
  | false =>
    go_wp2_with fail
    refine (proper_any (w.alloc (.cells #[.int .i64 0, .int .i64 0] 25)) _ (w.heap.size + 1) 2 (by omega) HC1.out).mono ?_; rintro e w2 ⟨a, b, rfl, ha, hb, hc2, hg2⟩
    have hbs := hc2.base.2.2
    have hz2 := hg2.size
    obtain ⟨t1, t2, t3, t4, t5⟩ := T0.out.below hbs
    have hbw : Below w.heap.size w w2 := by (repeat' (first | (with_reducible exact Below.refl _ _) | (with_reducible assumption) | (with_reducible refine Below.drew ?_) | (with_reducible refine belowDrewN ?_ _) | (with_reducible refine Below.alloc ?_ ?_ _) | (with_reducible refine Below.setCell ?_ ?_ _) | (with_reducible refine belowStep (by assumption) ?_ ?_) | (with_reducible exact Below.size (by assumption)) | go_size))
    clear hc2 hg2 hbs
    go_wp2
    refine bodyPost_ret (by simp [results, Tryz.results7, go_sem, *]; try rfl) rfl ?_
    exact ⟨a, b, rfl, ha, hb, (hbw.setCell (Nat.le_refl _) _).setCell (Nat.le_refl _) _⟩
end Go.Proofs.YtihipeonagdogaaGreat
