
/-
  Contracts of what draws a fraction, and a number over which it is expanded (with what DrawP and Dr4 hold).
-/
import Derived.Test.YtiapljimgnhgoacDraw
import Derived.Deep.OwnRows
import Derived.Test.YtiapljimgnhgoacLawK
namespace Go.Proofs.Ytiapljimgnhgoac
open Go.RowKit
theorem beginP (w : World) (A : Option Addr) (n c : Nat) (T : TypeId) (hr : ReadsB w A n) (hn : n ≤ 1048576) : Cur w (w.alloc (.cells #[.slice A n c, .int .i64 0, .int .u64 0] T)) w.heap.size 0 :=
  ⟨Nat.le_refl _, by simp, (Below.refl _ _).alloc (Nat.le_refl _) _, A, n, c, 0, 0, (by simp), hn, hr, (by simp), by omega, by omega, (by simp), by simp [go_sem], by simp [go_sem]⟩
theorem oneP_any (w0 w : World) (g n : Nat) (hn : n ≤ 1000000) (m : Int) (hm : m ≤ 1000000000) (h : Cur w0 w g n) : Calls Try.prog 40 #[.pointer (some ⟨g, 0, none⟩), .int .i64 m] w (fun e w' => ∃ b : Bool, e = .returned (.bool b) ∧ Cur w0 w' g (n + 2) ∧ w.grownBy w' (some g)) := by
  have HC := Lib.hid h
  clear h
  go_enter Try.func40, Try.ntmps40
  go_wp2_with fail
  refine (pick_any w0 _ _ n hn _ hm HC.out).mono ?_; rintro e w1 ⟨x, rfl, x0, x1, hc1, hg1⟩
  have HC1 := Lib.hid hc1
  have Hg1 := Lib.hid hg1
  clear hc1 hg1
  go_wp2
  go_ret
  exact ⟨_, rfl, HC1.out, Hg1.out⟩
set_option maxHeartbeats 4000000 in
theorem proper_any (w0 w : World) (g n : Nat) (hn : n ≤ 10000) (h : Cur w0 w g n) : Calls Try.prog 62 #[.pointer (some ⟨g, 0, none⟩)] w (DrawF w0 w g (n + 30)) := by
  have HC := Lib.hid (h.below ((Below.refl _ _).alloc (Nat.le_refl _) (.cells #[.int .i64 0, .int .i64 0] 43)))
  obtain ⟨b1, b2, b3⟩ := h.base
  clear h
  have T0 := Lib.hid (TwoAt.new w 0 0 43)
  go_enter Try.func62, Try.ntmps62
  go_wp2_with fail
  refine (oneP_any w0 _ g n (by omega) _ (by omega) HC.out).mono ?_; rintro e w1 ⟨o, rfl, hc1, hg1⟩
  have HC1 := Lib.hid hc1
  have T1 := Lib.hid (T0.out.grown hg1 (by omega))
  have Hg1 := Lib.hid ((grownAlloc (World.grownBy.refl w (some g)) (Nat.le_refl _) _).trans hg1)
  have hz1 := hg1.size
  simp only [World.size_alloc] at hz1
  clear hc1 hg1
  cases o with
  | true =>
    go_wp2_with fail
    refine (fraction_any w0 _ g (n + 2) (by omega) HC1.out).mono ?_; rintro e w2 ⟨a, b, rfl, ha, hb, hc2, hg2⟩
    have HC2 := Lib.hid hc2
    have Hg2 := Lib.hid (Hg1.out.trans hg2)
    have hz2 := hg2.size
    obtain ⟨t1, t2, t3, t4, t5⟩ := T1.out.grown hg2 (by omega)
    clear hc2 hg2
    go_wp2
    refine bodyPost_ret (by simp [results, Try.results62, go_sem, *]; try rfl) rfl ?_
    exact ⟨a, b, rfl, ha, hb, ((HC2.out.more (by omega)).set (by omega) (by omega) _ _).set (by omega) (by omega) _ _, grownSetNew (grownSetNew Hg2.out (Nat.le_refl _) _ _) (Nat.le_refl _) _ _⟩
  | false =>
    go_wp2_with fail
    refine (pick_any w0 _ _ (n + 2) (by omega) _ (by omega) HC1.out).mono ?_; rintro e w2 ⟨p, rfl, p0, p1, hc2, hg2⟩
    have HC2 := Lib.hid hc2
    have T2 := Lib.hid (T1.out.grown hg2 (by omega))
    have Hg2 := Lib.hid (Hg1.out.trans hg2)
    have hz2 := hg2.size
    clear hc2 hg2
    go_wp2_with fail
    refine (pick_any w0 _ _ (n + 4) (by omega) _ (by omega) HC2.out).mono ?_; rintro e w3 ⟨q, rfl, q0, q1, hc3, hg3⟩
    have HC3 := Lib.hid hc3
    have T3 := Lib.hid (T2.out.grown hg3 (by omega))
    have Hg3 := Lib.hid (Hg2.out.trans hg3)
    have hz3 := hg3.size
    clear hc3 hg3
    go_wp2_with fail
    refine (unMake_any _ _ _ (by omega) (by omega) (by omega) (by omega)).mono ?_; rintro e w4 ⟨rfl, hb4⟩
    have hsm := red_small (x := 1 + q) (y := 2 + p) (by omega) (by omega) (by omega) (by omega)
    generalize (1 + q) / gcdI (1 + q) (2 + p) = a at *
    generalize (2 + p) / gcdI (1 + q) (2 + p) = b at *
    have Hsm := Lib.hid hsm
    have HC4 := Lib.hid (HC3.out.below hb4)
    have Hg4 := Lib.hid (grownBelow Hg3.out (by omega) hb4)
    obtain ⟨t1, t2, t3, t4, t5⟩ := T3.out.below hb4
    have hz4 := hb4.size
    clear hsm hb4
    go_wp2
    refine bodyPost_ret (by simp [results, Try.results62, go_sem, *]; try rfl) rfl ?_
    exact ⟨a, b, rfl, Hsm.out.1, Hsm.out.2, ((HC4.out.more (by omega)).set (by omega) (by omega) _ _).set (by omega) (by omega) _ _, grownSetNew (grownSetNew Hg4.out (Nat.le_refl _) _ _) (Nat.le_refl _) _ _⟩
theorem OwnI.atRow {w : World} {base g k : Nat} (hb : base ≤ g) (hk : k ≤ 1000) (h : w.heap[g]? = some (.cells (madeCells #[.int .i64 0] k) 3)) : OwnI w base (.slice (some ⟨g, 0, none⟩) k k) (List.replicate k 0) := by
  unfold OwnI
  rw [List.length_replicate]
  refine ⟨by simp, .inr ⟨g, k, _, rfl, hb, h, Nat.le_refl _, by unfold maxLen; omega, by simp [madeCells], ?_⟩⟩
  rw [toList_madeCells_one, Nat.mul_one, List.map_replicate]
  exact List.take_of_length_le (by simp)
/-- a list of the call's own has been drawn -/
def DrawnL (w : World) (e : Ending) (w' : World) : Prop := ∃ v zs, e = .returned v ∧ OwnI w' w.heap.size v zs ∧ zs.length ≤ 40 ∧ (∀ z ∈ zs, -9223372036854775808 ≤ z ∧ z ≤ 9223372036854775807) ∧ Below w.heap.size w w'
end Go.Proofs.Ytiapljimgnhgoac
namespace Go.Proofs.Ytiapljimgnhgoac
open Go.RowKit
set_option maxHeartbeats 4000000 in
theorem number4_any (w0 w : World) (g n : Nat) (hn : n ≤ 100000) (h : Cur w0 w g n) : Calls Try.prog 38 #[.pointer (some ⟨g, 0, none⟩)] w (DrawN w0 w g (n + 4) (-1) 2001) := by
  have HC := Lib.hid h
  obtain ⟨b1, b2, b3⟩ := h.base
  clear h
  go_enter Try.func38, Try.ntmps38
  go_wp2_with fail
  refine (pick_any w0 _ _ n (by omega) _ (by omega) HC.out).mono ?_; rintro e w1 ⟨x, rfl, x0, x1, hc1, hg1⟩
  have HC1 := Lib.hid hc1
  have Hg1 := Lib.hid hg1
  have hz1 := hg1.size
  clear hc1 hg1
  by_cases e0 : x = 0
  · subst e0
    go_wp2_with fail
    refine (among_any w0 _ _ (n + 2) (by omega) (-1) 2001 _ 5 [0, -1, 1, 2000, 2001] (Reads.lit w1 _ 5 rfl) (by simp) (by simp) (by simp) (fun a ha => by injection ha with ha; subst ha; show w1.heap.size ≠ g; omega) (fun z hz => by simp only [List.mem_cons, List.not_mem_nil, or_false] at hz; omega) (HC1.out.below ((Below.refl _ _).alloc (Nat.le_refl _) _))).mono ?_; rintro e w2 ⟨z, rfl, z0, z1, hc2, hg2⟩
    have HC2 := Lib.hid hc2
    have Hg2 := Lib.hid (Hg1.out.trans ((grownAlloc (World.grownBy.refl w1 (some g)) (Nat.le_refl _) _).trans hg2))
    clear hc2 hg2
    go_wp2
    go_ret
    exact ⟨z, rfl, z0, z1, HC2.out, Hg2.out⟩
  · by_cases e1 : x = 1
    · subst e1
      go_wp2_with fail
      refine (pick_any w0 _ _ (n + 2) (by omega) _ (by omega) HC1.out).mono ?_; rintro e w2 ⟨z, rfl, z0, z1, hc2, hg2⟩
      have HC2 := Lib.hid hc2
      have Hg2 := Lib.hid (Hg1.out.trans hg2)
      clear hc2 hg2
      go_wp2
      go_ret
      exact ⟨1 + z, rfl, by omega, by omega, HC2.out, Hg2.out⟩
    · have h0 : (x == 0) = false := by simp [e0]
      have h1 : (x == 1) = false := by simp [e1]
      by_cases e23 : x = 2 ∨ x = 3
      · rcases e23 with rfl | rfl
        all_goals
          go_wp2_with fail
          refine (among_any w0 _ _ (n + 2) (by omega) (-1) 2001 _ 19 [6, 12, 20, 28, 30, 36, 42, 60, 70, 72, 84, 90, 120, 156, 210, 240, 280, 420, 1680] (Reads.lit w1 _ 19 rfl) (by simp) (by simp) (by simp) (fun a ha => by injection ha with ha; subst ha; show w1.heap.size ≠ g; omega) (fun z hz => by simp only [List.mem_cons, List.not_mem_nil, or_false] at hz; omega) (HC1.out.below ((Below.refl _ _).alloc (Nat.le_refl _) _))).mono ?_; rintro e w2 ⟨z, rfl, z0, z1, hc2, hg2⟩
          have HC2 := Lib.hid hc2
          have Hg2 := Lib.hid (Hg1.out.trans ((grownAlloc (World.grownBy.refl w1 (some g)) (Nat.le_refl _) _).trans hg2))
          clear hc2 hg2
          go_wp2
          go_ret
          exact ⟨z, rfl, z0, z1, HC2.out, Hg2.out⟩
      · have h2 : (x == 2) = false := by simp; omega
        have h3 : (x == 3) = false := by simp; omega
        go_wp2_with fail
        refine (pick_any w0 _ _ (n + 2) (by omega) _ (by omega) HC1.out).mono ?_; rintro e w2 ⟨z, rfl, z0, z1, hc2, hg2⟩
        have HC2 := Lib.hid hc2
        have Hg2 := Lib.hid (Hg1.out.trans hg2)
        clear hc2 hg2
        go_wp2
        go_ret
        exact ⟨1 + z, rfl, by omega, by omega, HC2.out, Hg2.out⟩
theorem drawDivisorsOf_any (w : World) (A : Option Addr) (n c : Nat) (hr : ReadsB w A n) (hn : n ≤ 1048576) : Calls Try.prog 59 #[.slice A n c] w (fun e w' => ∃ x : Int, e = .returned (.int .i64 x) ∧ -1 ≤ x ∧ x ≤ 2001 ∧ Below w.heap.size w w') := by
  have HC0 := Lib.hid (beginP w A n c 56 hr hn)
  clear hr
  go_enter Try.func59, Try.ntmps59
  go_wp2_with fail
  refine (number4_any w _ w.heap.size 0 (by omega) HC0.out).mono ?_; rintro e w2 ⟨x, rfl, x0, x1, hc2, hg2⟩
  have hbs := hc2.base.2.2
  clear hc2 hg2
  go_wp2
  go_ret
  exact ⟨x, rfl, x0, x1, hbs⟩
theorem drawPracticalsUpTo_any (w : World) (A : Option Addr) (n c : Nat) (hr : ReadsB w A n) (hn : n ≤ 1048576) : Calls Try.prog 18 #[.slice A n c] w (fun e w' => ∃ x : Int, e = .returned (.int .i64 x) ∧ -1 ≤ x ∧ x ≤ 2001 ∧ Below w.heap.size w w') := by
  have HD := Lib.hid (drawDivisorsOf_any w A n c hr hn)
  clear hr
  go_enter Try.func18, Try.ntmps18
  go_wp2_with fail
  refine HD.out.mono ?_; rintro e w2 ⟨x, rfl, x0, x1, hb2⟩
  go_wp2
  go_ret
  exact ⟨x, rfl, x0, x1, hb2⟩
theorem drawIsPrimitive_any (w : World) (A : Option Addr) (n c : Nat) (hr : ReadsB w A n) (hn : n ≤ 1048576) : Calls Try.prog 22 #[.slice A n c] w (fun e w' => ∃ x : Int, e = .returned (.int .i64 x) ∧ -1 ≤ x ∧ x ≤ 2001 ∧ Below w.heap.size w w') := by
  have HD := Lib.hid (drawDivisorsOf_any w A n c hr hn)
  clear hr
  go_enter Try.func22, Try.ntmps22
  go_wp2_with fail
  refine HD.out.mono ?_; rintro e w2 ⟨x, rfl, x0, x1, hb2⟩
  go_wp2
  go_ret
  exact ⟨x, rfl, x0, x1, hb2⟩
end Go.Proofs.Ytiapljimgnhgoac
namespace Go.Proofs.Ytiapljimgnhgoac
open Go.RowKit
def DrawFr (w : World) (e : Ending) (w' : World) : Prop := ∃ a b : Int, e = .returned (.agg #[.int .i64 a, .int .i64 b]) ∧ (-9223372036854775808 ≤ a ∧ a ≤ 9223372036854775807) ∧ (-9223372036854775808 ≤ b ∧ b ≤ 9223372036854775807) ∧ Below w.heap.size w w'
set_option maxRecDepth 100000 in
set_option maxHeartbeats 2000000 in
theorem drawPractical_any (w : World) (A : Option Addr) (n c : Nat) (hr : ReadsB w A n) (hn : n ≤ 1048576) : Calls Try.prog 35 #[.slice A n c] w (fun e w' => ∃ a b : Int, e = .returned (.agg #[.int .i64 a, .int .i64 b]) ∧ (-9223372036854775808 ≤ a ∧ a ≤ 9223372036854775807) ∧ (-9223372036854775808 ≤ b ∧ b ≤ 9223372036854775807) ∧ Below w.heap.size w w') := by
  have T0 := Lib.hid (TwoAt.new w 0 0 43)
  have hc0 := beginP (w.alloc (.cells #[.int .i64 0, .int .i64 0] 43)) A n c 56 (hr.below ((Below.refl _ _).alloc (Nat.le_refl _) _)) hn
  rw [World.size_alloc] at hc0
  have HC0 := Lib.hid hc0
  clear hr hc0
  go_enter Try.func35, Try.ntmps35
  go_wp2_with fail
  refine (proper_any (w.alloc (.cells #[.int .i64 0, .int .i64 0] 43)) _ (w.heap.size + 1) 0 (by omega) HC0.out).mono ?_; rintro e w2 ⟨a, b, rfl, ha, hb, hc2, hg2⟩
  have hbs := hc2.base.2.2
  have hz2 := hg2.size
  simp only [World.size_alloc] at hz2
  obtain ⟨t1, t2, t3, t4, t5⟩ := T0.out.below hbs
  have hbw : Below w.heap.size w w2 := by (repeat' (first | (with_reducible exact Below.refl _ _) | (with_reducible assumption) | (with_reducible refine Below.drew ?_) | (with_reducible refine belowDrewN ?_ _) | (with_reducible refine Below.alloc ?_ ?_ _) | (with_reducible refine Below.setCell ?_ ?_ _) | (with_reducible refine belowStep (by assumption) ?_ ?_) | (with_reducible exact Below.size (by assumption)) | go_size))
  clear hc2 hg2 hbs
  go_wp2
  refine bodyPost_ret (by simp [results, Try.results35, go_sem, *]; try rfl) rfl ?_
  exact ⟨a, b, rfl, ha, hb, (hbw.setCell (Nat.le_refl _) _).setCell (Nat.le_refl _) _⟩
set_option maxRecDepth 100000 in
set_option maxHeartbeats 4000000 in
theorem drawLeastOver_any (w : World) (A : Option Addr) (n c : Nat) (hr : ReadsB w A n) (hn : n ≤ 1048576) : Calls Try.prog 31 #[.slice A n c] w (DrawFr w) := by
  have T0 := Lib.hid (TwoAt.new w 0 0 43)
  have hc0 := beginP (w.alloc (.cells #[.int .i64 0, .int .i64 0] 43)) A n c 56 (hr.below ((Below.refl _ _).alloc (Nat.le_refl _) _)) hn
  rw [World.size_alloc] at hc0
  have HC0 := Lib.hid hc0
  clear hr hc0
  go_enter Try.func31, Try.ntmps31
  go_wp2_with fail
  refine (oneP_any (w.alloc (.cells #[.int .i64 0, .int .i64 0] 43)) _ (w.heap.size + 1) 0 (by omega) _ (by omega) HC0.out).mono ?_; rintro e w1 ⟨o, rfl, hc1, hg1⟩
  have HC1 := Lib.hid hc1
  have hz1 := hg1.size
  simp only [World.size_alloc] at hz1
  clear hc1 hg1
  cases o with
  | true =>
    go_wp2_with fail
    refine (pick_any _ _ (w.heap.size + 1) 2 (by omega) _ (by omega) HC1.out).mono ?_; rintro e w2 ⟨p, rfl, p0, p1, hc2, hg2⟩
    have HC2 := Lib.hid hc2
    have hz2 := hg2.size
    clear hc2 hg2
    go_wp2_with fail
    refine (pick_any _ _ (w.heap.size + 1) 4 (by omega) _ (by omega) HC2.out).mono ?_; rintro e w3 ⟨q, rfl, q0, q1, hc3, hg3⟩
    have HC3 := Lib.hid hc3
    have hz3 := hg3.size
    clear hc3 hg3
    go_wp2_with fail
    refine (unMake_any _ _ _ (by omega) (by omega) (by omega) (by omega)).mono ?_; rintro e w4 ⟨rfl, hb4⟩
    have hsm := red_small (x := 1 + p) (y := 1 + q) (by omega) (by omega) (by omega) (by omega)
    generalize (1 + p) / gcdI (1 + p) (1 + q) = a at *
    generalize (1 + q) / gcdI (1 + p) (1 + q) = b at *
    have Hsm := Lib.hid hsm
    have hbs := (HC3.out.below hb4).base.2.2
    obtain ⟨t1, t2, t3, t4, t5⟩ := T0.out.below hbs
    have hz4 := hb4.size
    have hbw : Below w.heap.size w w4 := by (repeat' (first | (with_reducible exact Below.refl _ _) | (with_reducible assumption) | (with_reducible refine Below.drew ?_) | (with_reducible refine belowDrewN ?_ _) | (with_reducible refine Below.alloc ?_ ?_ _) | (with_reducible refine Below.setCell ?_ ?_ _) | (with_reducible refine belowStep (by assumption) ?_ ?_) | (with_reducible exact Below.size (by assumption)) | go_size))
    clear hsm hbs
    go_wp2
    refine bodyPost_ret (by simp [results, Try.results31, go_sem, *]; try rfl) rfl ?_
    exact ⟨a, b, rfl, by have := Hsm.out; omega, by have := Hsm.out; omega, (hbw.setCell (Nat.le_refl _) _).setCell (Nat.le_refl _) _⟩
  | false =>
    go_wp2_with fail
    refine (proper_any _ _ (w.heap.size + 1) 2 (by omega) HC1.out).mono ?_; rintro e w2 ⟨a, b, rfl, ha, hb, hc2, hg2⟩
    have hbs := hc2.base.2.2
    have hz2 := hg2.size
    obtain ⟨t1, t2, t3, t4, t5⟩ := T0.out.below hbs
    have hbw : Below w.heap.size w w2 := by (repeat' (first | (with_reducible exact Below.refl _ _) | (with_reducible assumption) | (with_reducible refine Below.drew ?_) | (with_reducible refine belowDrewN ?_ _) | (with_reducible refine Below.alloc ?_ ?_ _) | (with_reducible refine Below.setCell ?_ ?_ _) | (with_reducible refine belowStep (by assumption) ?_ ?_) | (with_reducible exact Below.size (by assumption)) | go_size))
    clear hc2 hg2 hbs
    go_wp2
    refine bodyPost_ret (by simp [results, Try.results31, go_sem, *]; try rfl) rfl ?_
    exact ⟨a, b, rfl, ha, hb, (hbw.setCell (Nat.le_refl _) _).setCell (Nat.le_refl _) _⟩
def DrawFN (w : World) (e : Ending) (w' : World) : Prop := ∃ a b N : Int, e = .returned (.tuple #[.agg #[.int .i64 a, .int .i64 b], .int .i64 N]) ∧ (-9223372036854775808 ≤ a ∧ a ≤ 9223372036854775807) ∧ (-9223372036854775808 ≤ b ∧ b ≤ 9223372036854775807) ∧ -1 ≤ N ∧ N ≤ 6000 ∧ Below w.heap.size w w'
theorem mul_small {b z : Int} (b0 : 1 ≤ b) (b1 : b < 500) (z0 : 1 ≤ z) (z1 : z ≤ 12) : 1 ≤ b * z ∧ b * z ≤ 6000 ∧ IntKind.i64.wrap (b * z) = b * z := by
  have h1 := Int.mul_pos (a := b) (b := z) (by omega) (by omega)
  have h2 := Int.mul_le_mul (a := b) (b := z) (c := 500) (d := 12) (by omega) z1 (by omega) (by omega)
  exact ⟨by omega, by omega, IntWalk.i64_in _ (by omega)⟩
set_option maxRecDepth 100000 in
set_option maxHeartbeats 8000000 in
theorem drawExpandOver_any (w : World) (A : Option Addr) (n c : Nat) (hr : ReadsB w A n) (hn : n ≤ 1048576) : Calls Try.prog 27 #[.slice A n c] w (DrawFN w) := by
  have T0 := Lib.hid (TwoAt.new w 0 0 43)
  have hc0 := beginP (w.alloc (.cells #[.int .i64 0, .int .i64 0] 43)) A n c 56 (hr.below ((Below.refl _ _).alloc (Nat.le_refl _) _)) hn
  rw [World.size_alloc] at hc0
  have HC0 := Lib.hid hc0
  clear hr hc0
  go_enter Try.func27, Try.ntmps27
  go_wp2_with fail
  refine (proper_any (w.alloc (.cells #[.int .i64 0, .int .i64 0] 43)) _ (w.heap.size + 1) 0 (by omega) HC0.out).mono ?_; rintro e w2 ⟨a, b, rfl, ha, hb, hc2, hg2⟩
  have hz2 := hg2.size
  simp only [World.size_alloc] at hz2
  have T02 := Lib.hid (T0.out.below hc2.base.2.2)
  have hbw2 : Below w.heap.size w w2 := ((Below.refl _ _).alloc (Nat.le_refl _) (.cells #[.int .i64 0, .int .i64 0] 43)).trans (hc2.base.2.2.mono (by simp))
  have T5 := Lib.hid (TwoAt.new w2 a b 43)
  have T02 := Lib.hid (T02.out.below ((Below.refl _ _).alloc (Nat.le_refl _) (.cells #[.int .i64 a, .int .i64 b] 43)))
  have HC2 := Lib.hid (hc2.below ((Below.refl _ _).alloc (Nat.le_refl _) (.cells #[.int .i64 a, .int .i64 b] 43)))
  clear hc2 hg2 T0
  go_wp2_with fail
  refine (number4_any _ _ (w.heap.size + 1) 30 (by omega) HC2.out).mono ?_; rintro e w3 ⟨x, rfl, x0, x1, hc3, hg3⟩
  have HC3 := Lib.hid hc3
  have hz3 := hg3.size
  simp only [World.size_alloc] at hz3
  have T53 := Lib.hid (T5.out.grown hg3 (by omega))
  have T03 := Lib.hid (T02.out.grown hg3 (by omega))
  have hbw3 := hbw2.trans ((((Below.refl _ _).alloc hbw2.size (.cells #[.int .i64 a, .int .i64 b] 43)).grown hg3 (by simp; omega) (fun k hk => by injection hk with hk; omega)))
  have HB3 := Lib.hid hbw3
  clear hc3 hg3 T5 T02 hbw3
  go_wp2_with fail
  refine (oneP_any _ _ (w.heap.size + 1) 34 (by omega) _ (by omega) HC3.out).mono ?_; rintro e w4 ⟨o, rfl, hc4, hg4⟩
  have HC4 := Lib.hid hc4
  have hz4 := hg4.size
  have T54 := Lib.hid (T53.out.grown hg4 (by omega))
  have T04 := Lib.hid (T03.out.grown hg4 (by omega))
  have HB4 := Lib.hid (HB3.out.grown hg4 (by omega) (fun k hk => by injection hk with hk; omega))
  clear hc4 hg4 T53 T03
  cases o with
  | false =>
    obtain ⟨t1, t2, t3, t4, t5⟩ := T54.out
    obtain ⟨u1, u2, u3, u4, u5⟩ := T04.out
    go_wp2
    refine bodyPost_ret (by simp [results, Try.results27, go_sem, *]; try rfl) rfl ?_
    exact ⟨a, b, x, rfl, ha, hb, x0, by omega, (HB4.out.setCell (Nat.le_refl _) _).setCell (Nat.le_refl _) _⟩
  | true =>
    obtain ⟨t1, t2, t3, t4, t5⟩ := T54.out
    go_wp2_with fail
    refine (unGood_any a b _).mono ?_; rintro e w5 ⟨rfl, hb5⟩; have hz5 := hb5.size; (try simp only [World.size_alloc, World.size_setCell, World.size_drew, World.heap_drewN] at hz5)
    clear t1 t2 t3 t4 t5
    have T55 := Lib.hid (T54.out.below hb5)
    have T05 := Lib.hid (T04.out.below hb5)
    have HC5 := Lib.hid (HC4.out.below hb5)
    have HB5 := Lib.hid (HB4.out.trans (hb5.mono HB4.out.size))
    clear T54 T04
    obtain ⟨t1, t2, t3, t4, t5⟩ := T55.out
    obtain ⟨u1, u2, u3, u4, u5⟩ := T05.out
    cases hg : goodB a b with
    | false =>
      go_wp2
      refine bodyPost_ret (by simp [results, Try.results27, go_sem, *]; try rfl) rfl ?_
      exact ⟨a, b, x, rfl, ha, hb, x0, by omega, (HB5.out.setCell (Nat.le_refl _) _).setCell (Nat.le_refl _) _⟩
    | true =>
      obtain ⟨g1, g2, g3, g4⟩ := good_bounds hg
      by_cases hb500 : b < 500
      · go_wp2_with fail
        go_cut [6] (fun s6 wx => ∃ z : Int, s6 = .int .i64 z ∧ -1 ≤ z ∧ z ≤ 6000 ∧ TwoAt wx w2.heap.size a b ∧ TwoAt wx w.heap.size 0 0 ∧ Below w.heap.size w wx)
        case first =>
          go_region_held3 (fun w' => w'.cell? ⟨w2.heap.size, 0, none⟩ = some (.int .i64 a) ∧ w'.cell? ⟨w2.heap.size, 1, none⟩ = some (.int .i64 b)) (go_keep) (first | (go_at_call 41; refine (among_any _ _ (w.heap.size + 1) 36 (by omega) 1 12 _ 6 [1, 2, 3, 4, 6, 12] (by exact Reads.lit w5 [1, 2, 3, 4, 6, 12] 6 rfl) (by simp) (by simp) (by simp) (fun x hx => by injection hx with hx; subst hx; show w5.heap.size ≠ w.heap.size + 1; omega) (fun z hz => by simp only [List.mem_cons, List.not_mem_nil, or_false] at hz; omega) (HC5.out.below (by (repeat' (first | (with_reducible exact Below.refl _ _) | (with_reducible assumption) | (with_reducible refine Below.drew ?_) | (with_reducible refine belowDrewN ?_ _) | (with_reducible refine Below.alloc ?_ ?_ _) | (with_reducible refine Below.setCell ?_ ?_ _) | (with_reducible refine belowStep (by assumption) ?_ ?_) | (with_reducible exact Below.size (by assumption)) | go_size))))).mono ?_; rintro e w6 ⟨z, rfl, z0, z1, hc6, hg6⟩; have T56 := (T55.out.below (show Below w5.heap.size w5 _ by (repeat' (first | (with_reducible exact Below.refl _ _) | (with_reducible assumption) | (with_reducible refine Below.drew ?_) | (with_reducible refine belowDrewN ?_ _) | (with_reducible refine Below.alloc ?_ ?_ _) | (with_reducible refine Below.setCell ?_ ?_ _) | (with_reducible refine belowStep (by assumption) ?_ ?_) | (with_reducible exact Below.size (by assumption)) | go_size)))).grown hg6 (by omega); have T06 := (T05.out.below (show Below w5.heap.size w5 _ by (repeat' (first | (with_reducible exact Below.refl _ _) | (with_reducible assumption) | (with_reducible refine Below.drew ?_) | (with_reducible refine belowDrewN ?_ _) | (with_reducible refine Below.alloc ?_ ?_ _) | (with_reducible refine Below.setCell ?_ ?_ _) | (with_reducible refine belowStep (by assumption) ?_ ?_) | (with_reducible exact Below.size (by assumption)) | go_size)))).grown hg6 (by omega); have HB50 := HB5.out; have HB6 := (HB50.trans (show Below w.heap.size w5 _ by (repeat' (first | (with_reducible exact Below.refl _ _) | (with_reducible assumption) | (with_reducible refine Below.drew ?_) | (with_reducible refine belowDrewN ?_ _) | (with_reducible refine Below.alloc ?_ ?_ _) | (with_reducible refine Below.setCell ?_ ?_ _) | (with_reducible refine belowStep (by assumption) ?_ ?_) | (with_reducible exact Below.size (by assumption)) | go_size)))).grown hg6 (by (first | (go_size; done) | ((try simp only [World.size_alloc, World.size_setCell, World.size_drew, World.heap_drewN]); omega))) (fun k hk => by injection hk with hk; omega); obtain ⟨y1, y2, y3⟩ := mul_small g3 hb500 z0 z1; obtain ⟨v1, v2, v3, v4, v5⟩ := T56))
          all_goals go_wp2_with fail
          all_goals go_meet
          all_goals exact ⟨_, rfl, by omega, by omega, ⟨v1, v2, v3, v4, v5⟩, T06, HB6⟩
        case rest =>
          obtain ⟨w6, rfl⟩ : ∃ x : World, x = wc := ⟨_, rfl⟩
          obtain ⟨z, rfl, z0, z1, T56, T06, HB6⟩ := hcut
          clear t1 t2 t3 t4 t5 u1 u2 u3 u4 u5
          obtain ⟨t1, t2, t3, t4, t5⟩ := T56
          obtain ⟨u1, u2, u3, u4, u5⟩ := T06
          have HB := Lib.hid HB6
          go_wp2
          refine bodyPost_ret (by simp [results, Try.results27, go_sem, *]; try rfl) rfl ?_
          exact ⟨a, b, z, rfl, ha, hb, z0, z1, (HB.out.setCell (Nat.le_refl _) _).setCell (Nat.le_refl _) _⟩
      · go_wp2
        refine bodyPost_ret (by simp [results, Try.results27, go_sem, *]; try rfl) rfl ?_
        exact ⟨a, b, x, rfl, ha, hb, x0, by omega, (HB5.out.setCell (Nat.le_refl _) _).setCell (Nat.le_refl _) _⟩
end Go.Proofs.Ytiapljimgnhgoac
