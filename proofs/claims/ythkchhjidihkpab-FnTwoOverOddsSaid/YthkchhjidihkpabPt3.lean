import Derived.Test.YthkchhjidihkpabPk12
import Derived.Deep.OwnRows
import Derived.Test.YthkchhjidihkpabPk9
import Derived.Test.YthkchhjidihkpabPk11
import Derived.Test.YthkchhjidihkpabPk1

/-
  Contracts of what draws fractions up to 1, yes or no, and lists of numbers: whatever the bytes are, numbers that fit are handed out, and only the cursor has changed.
-/
namespace Go.Proofs.Ythkchhjidihkpab
open Go.RowKit
theorem beginP (w : World) (A : Option Addr) (n c : Nat) (T : TypeId) (hr : ReadsB w A n) (hn : n ≤ 1048576) : Cur w (w.alloc (.cells #[.slice A n c, .int .i64 0, .int .u64 0] T)) w.heap.size 0 :=
  ⟨Nat.le_refl _, by simp, (Below.refl _ _).alloc (Nat.le_refl _) _, A, n, c, 0, 0, (by simp), hn, hr, (by simp), by omega, by omega, (by simp), by simp [go_sem], by simp [go_sem]⟩
theorem oneP_any (w0 w : World) (g n : Nat) (hn : n ≤ 1000000) (m : Int) (hm : m ≤ 1000000000) (h : Cur w0 w g n) : Calls Try.prog 75 #[.pointer (some ⟨g, 0, none⟩), .int .i64 m] w (fun e w' => ∃ b : Bool, e = .returned (.bool b) ∧ Cur w0 w' g (n + 2) ∧ w.grownBy w' (some g)) := by
  have HC := Lib.hid h
  clear h
  go_enter Try.func75, Try.ntmps75
  go_wp2_with fail
  refine (pick_any w0 _ _ n hn _ hm HC.out).mono ?_; rintro e w1 ⟨x, rfl, x0, x1, hc1, hg1⟩
  have HC1 := Lib.hid hc1
  have Hg1 := Lib.hid hg1
  clear hc1 hg1
  go_wp2
  go_ret
  exact ⟨_, rfl, HC1.out, Hg1.out⟩
set_option maxHeartbeats 4000000 in
theorem proper_any (w0 w : World) (g n : Nat) (hn : n ≤ 10000) (h : Cur w0 w g n) : Calls Try.prog 87 #[.pointer (some ⟨g, 0, none⟩)] w (DrawF w0 w g (n + 30)) := by
  have HC := Lib.hid (h.below ((Below.refl _ _).alloc (Nat.le_refl _) (.cells #[.int .i64 0, .int .i64 0] 33)))
  obtain ⟨b1, b2, b3⟩ := h.base
  clear h
  have T0 := Lib.hid (TwoAt.new w 0 0 33)
  go_enter Try.func87, Try.ntmps87
  go_wp2_with fail
  refine (oneP_any w0 _ g n (by omega) _ (by omega) HC.out).mono ?_; rintro e w1 ⟨o, rfl, hc1, hg1⟩
  have HC1 := Lib.hid hc1
  have T1 := Lib.hid (T0.out.grown hg1 (by omega))
  have Hg1 := Lib.hid ((grownAlloc (World.grownBy.refl w (some g)) (Nat.le_refl _) _).trans hg1)
  have hz1 := hg1.size
  simp only [World.size_alloc] at hz1
  clear hc1 hg1
  cases o with
  | true =>
    go_wp2_with fail
    refine (fraction_any w0 _ g (n + 2) (by omega) HC1.out).mono ?_; rintro e w2 ⟨a, b, rfl, ha, hb, hc2, hg2⟩
    have HC2 := Lib.hid hc2
    have Hg2 := Lib.hid (Hg1.out.trans hg2)
    have hz2 := hg2.size
    obtain ⟨t1, t2, t3, t4, t5⟩ := T1.out.grown hg2 (by omega)
    clear hc2 hg2
    go_wp2
    refine bodyPost_ret (by simp [results, Try.results87, go_sem, *]; try rfl) rfl ?_
    exact ⟨a, b, rfl, ha, hb, ((HC2.out.more (by omega)).set (by omega) (by omega) _ _).set (by omega) (by omega) _ _, grownSetNew (grownSetNew Hg2.out (Nat.le_refl _) _ _) (Nat.le_refl _) _ _⟩
  | false =>
    go_wp2_with fail
    refine (pick_any w0 _ _ (n + 2) (by omega) _ (by omega) HC1.out).mono ?_; rintro e w2 ⟨p, rfl, p0, p1, hc2, hg2⟩
    have HC2 := Lib.hid hc2
    have T2 := Lib.hid (T1.out.grown hg2 (by omega))
    have Hg2 := Lib.hid (Hg1.out.trans hg2)
    have hz2 := hg2.size
    clear hc2 hg2
    go_wp2_with fail
    refine (pick_any w0 _ _ (n + 4) (by omega) _ (by omega) HC2.out).mono ?_; rintro e w3 ⟨q, rfl, q0, q1, hc3, hg3⟩
    have HC3 := Lib.hid hc3
    have T3 := Lib.hid (T2.out.grown hg3 (by omega))
    have Hg3 := Lib.hid (Hg2.out.trans hg3)
    have hz3 := hg3.size
    clear hc3 hg3
    go_wp2_with fail
    refine (unMake_any _ _ _ (by omega) (by omega) (by omega) (by omega)).mono ?_; rintro e w4 ⟨rfl, hb4⟩
    have hsm := red_small (x := 1 + q) (y := 2 + p) (by omega) (by omega) (by omega) (by omega)
    generalize (1 + q) / gcdI (1 + q) (2 + p) = a at *
    generalize (2 + p) / gcdI (1 + q) (2 + p) = b at *
    have Hsm := Lib.hid hsm
    have HC4 := Lib.hid (HC3.out.below hb4)
    have Hg4 := Lib.hid (grownBelow Hg3.out (by omega) hb4)
    obtain ⟨t1, t2, t3, t4, t5⟩ := T3.out.below hb4
    have hz4 := hb4.size
    clear hsm hb4
    go_wp2
    refine bodyPost_ret (by simp [results, Try.results87, go_sem, *]; try rfl) rfl ?_
    exact ⟨a, b, rfl, Hsm.out.1, Hsm.out.2, ((HC4.out.more (by omega)).set (by omega) (by omega) _ _).set (by omega) (by omega) _ _, grownSetNew (grownSetNew Hg4.out (Nat.le_refl _) _ _) (Nat.le_refl _) _ _⟩
theorem OwnI.atRow {w : World} {base g k : Nat} (hb : base ≤ g) (hk : k ≤ 1000) (h : w.heap[g]? = some (.cells (madeCells #[.int .i64 0] k) 3)) : OwnI w base (.slice (some ⟨g, 0, none⟩) k k) (List.replicate k 0) := by
  unfold OwnI
  rw [List.length_replicate]
  refine ⟨by simp, .inr ⟨g, k, _, rfl, hb, h, Nat.le_refl _, by unfold maxLen; omega, by simp [madeCells], ?_⟩⟩
  rw [toList_madeCells_one, Nat.mul_one, List.map_replicate]
  exact List.take_of_length_le (by simp)
/-- a list of the call's own has been drawn -/
def DrawnL (w : World) (e : Ending) (w' : World) : Prop := ∃ v zs, e = .returned v ∧ OwnI w' w.heap.size v zs ∧ zs.length ≤ 40 ∧ (∀ z ∈ zs, -9223372036854775808 ≤ z ∧ z ≤ 9223372036854775807) ∧ Below w.heap.size w w'
end Go.Proofs.Ythkchhjidihkpab


/-
  Contracts of the laws' own helpers.
-/
namespace Go.Proofs.Ythkchhjidihkpab
open Go.RowKit
def bigB (n m : Nat) : Bool := decide (1048576 < n) || decide (1048576 < n + m)
theorem big_any (w : World) (A B : Option Addr) (n m c d : Nat) (hn : n ≤ 9223372036854775807) (_ : m ≤ 9223372036854775807) : Calls Try.prog 30 #[.slice A n c, .slice B m d] w (RetQ (.bool (bigB n m)) w) := by
  by_cases h : 1048576 < n
  · have h1 : 1048576 < (n : Int) := by omega
    have E : Hid (bigB n m = true) := by show bigB n m = true; simp [bigB, h]
    go_enter Try.func30, Try.ntmps30
    go_wp2
    go_ret
    exact ⟨ret_bool (by first | (rw [E.out]; done) | (rw [E.out]; simp; done) | (rw [E.out]; simp; omega)), 0, rfl⟩
  · have h1 : ¬ 1048576 < (n : Int) := by omega
    have h2 : (n : Int) ≤ 1048576 := by omega
    have E : Hid (bigB n m = decide (1048576 - (n : Int) < m)) := by
      show bigB n m = _
      rw [Bool.eq_iff_iff]; simp [bigB, h]; omega
    go_enter Try.func30, Try.ntmps30
    go_wp2
    go_ret
    exact ⟨ret_bool (by first | (rw [E.out]; done) | (rw [E.out]; simp; done) | (rw [E.out]; simp; omega)), 0, rfl⟩
open Go.ChangeShapes Go.WideShapes Go.ChangeAt Go.Joins Go.Deep
section
variable {H : Type} {enc : TypeId × Value → H} {P : Program}
/-- A slice of bytes: nil, empty or not, one way. -/
theorem open_bytes_reads {W : World} {r : Reach} {b0 : Nat} {t ti : TypeId} {v : Value} {d : DataW H} {p : List MemPlace} (ht : P.underlying t = some (.slice ti)) (hti : P.underlying ti = some (.int .u8)) (hC : P.cellsOf ti = 1)
    (hv : Value.okWide P W r b0 t v) (h : DataW.Trod enc P W 0 (fun _ => true) true t v d p) (hlt : ∀ y ∈ p, y.block < W.heap.size) :
    ∃ (A : Option Addr) (c : Nat) (n : Nat), v = .slice A n c ∧ (ReadsB W A n ∧ n ≤ 9223372036854775807) := by
  obtain ⟨a0, len, cap, rfl⟩ := okWide_slice ht hv
  obtain ⟨fuel, hf⟩ := h
  rcases open_ints ht hti hC hf with ⟨hcs, _⟩ | ⟨a, len', cap', zs, hcs, _, hl, hm, hz, hx, hcell, hw⟩
  · simp [Value.cells] at hcs
    obtain ⟨rfl, rfl, rfl⟩ := hcs
    exact ⟨none, 0, 0, rfl, fun h0 => by omega, by omega⟩
  · simp [Value.cells] at hcs
    obtain ⟨rfl, rfl, rfl⟩ := hcs
    simp only [if_true] at hz
    unfold maxLen at hm
    refine ⟨some a, cap, len, rfl, fun h0 => ?_, by omega⟩
    obtain ⟨b, o, spot⟩ := a
    have hspot : spot = none := by simpa [Addr.add] using World.cell?_spot (hcell 0 (by omega))
    subst hspot
    refine ⟨b, o, rfl, ?_, fun i hi => ?_⟩
    · simp only [Prod.mk.injEq] at hx
      exact hlt (.cell b o) (by rw [hx.2]; exact MemPlace.mem_row.2 ⟨0, by omega, by simp⟩)
    · have hc := hcell i (by omega)
      have hb := range_u8 hw i
      refine ⟨zs.getD i 0, by simpa [Go.WideShapes.add_plain] using hc, ?_⟩
      simpa [List.getD] using hb
end
end Go.Proofs.Ythkchhjidihkpab
