
/-
  Contracts of the helpers and of the draws of the law on pairs and splits, and its plain facts.
-/
import Derived.Test.YtolgjokghecceaaGreatDraw
import Derived.Test.YtolgjokghecceaaGreatSum2
import Derived.Test.YtolgjokghecceaaGreatHas
import Derived.Test.YtolgjokghecceaaGreatShell
import Derived.Deep.OwnRows
import Derived.Test.YtolgjokghecceaaGreatTwF
import Derived.Test.YtolgjokghecceaaGreatRq
namespace Go.Proofs.YtolgjokghecceaaGreat
open Go.RowKit
def bigB (n m : Nat) : Bool := decide (1048576 < n) || decide (1048576 < n + m)
theorem big_any (w : World) (A B : Option Addr) (n m c d : Nat) (hn : n ≤ 9223372036854775807) (hm : m ≤ 9223372036854775807) : Calls Tryz.prog 4 #[.slice A n c, .slice B m d] w (RetQ (.bool (bigB n m)) w) := by
  by_cases h : 1048576 < n
  · have h1 : 1048576 < (n : Int) := by omega
    have E : Hid (bigB n m = true) := by show bigB n m = true; simp [bigB, h]
    go_enter Tryz.func4, Tryz.ntmps4
    go_wp2
    go_ret
    exact ⟨ret_bool (by first | (rw [E.out]; done) | (rw [E.out]; simp; done) | (rw [E.out]; simp; omega)), 0, rfl⟩
  · have h1 : ¬ 1048576 < (n : Int) := by omega
    have h2 : (n : Int) ≤ 1048576 := by omega
    have E : Hid (bigB n m = decide (1048576 - (n : Int) < m)) := by
      show bigB n m = _
      rw [Bool.eq_iff_iff]; simp [bigB, h]; omega
    go_enter Tryz.func4, Tryz.ntmps4
    go_wp2
    go_ret
    exact ⟨ret_bool (by first | (rw [E.out]; done) | (rw [E.out]; simp; done) | (rw [E.out]; simp; omega)), 0, rfl⟩
set_option maxHeartbeats 1000000 in
theorem pSame_same (w : World) (A B : Option Addr) (c d : Nat) (xs : List Int) (ha : Reads w A xs) (hb : Reads w B xs) (hl : xs.length ≤ 1048576) :
    Calls Tryz.prog 8 #[.slice A xs.length c, .slice B xs.length d] w (RetQ (.bool true) w) := by
  go_enter Tryz.func8, Tryz.ntmps8
  go_wp2
  go_loopw [13] (fun v5 wr => ∃ k : Nat, k ≤ xs.length ∧ v5 = .int .i64 k ∧ ∃ n, wr = w.drewN n) (fun v5 _ => xs.length - (intOf v5).toNat)
  case atStart => exact ⟨0, Nat.zero_le _, rfl, 0, rfl⟩
  case round =>
    obtain ⟨k, hk, rfl, n, rfl⟩ := hrel
    by_cases hlt : k < xs.length
    · obtain ⟨b, o, x, rfl, _, hx, hcell⟩ := ha.at_ hlt
      obtain ⟨b', o', x', rfl, _, hx', hcell'⟩ := hb.at_ hlt
      obtain rfl : x = x' := by rw [hx] at hx'; injection hx'
      have hki : (k : Int) < (xs.length : Int) := by omega
      clear hx hx' ha hb
      go_wp2
      go_quiet (fail)
      go_wp2
      go_roundw
      case rel => exact ⟨k + 1, by omega, by go_num, _, rfl⟩
      case measure => simp [intOf]; omega
    · go_wp2
      go_ret
      exact ⟨rfl, n, rfl⟩
theorem pSums_yes (w : World) (n d : Int) (Axs : Option Addr) (cxs : Nat) (xs : List Int) (hxs : Reads w Axs xs) (lxs : xs.length ≤ 1048576) (r64 : ∀ (i : Nat) (x : Int), xs[i]? = some x → -9223372036854775808 ≤ x ∧ x ≤ 9223372036854775807) (h : expB xs = true) (hn : eN xs = n) (hd : eD xs = d) : Calls Tryz.prog 12 #[.slice Axs xs.length cxs, .agg #[.int .i64 n, .int .i64 d]] w (Ret (.bool true) w) := by
  have Hxs := Lib.hid hxs
  have Hr64 := Lib.hid r64
  have Hn := Lib.hid hn
  have Hd := Lib.hid hd
  have H := Lib.hid h
  clear hxs r64 hn hd h
  go_enter Tryz.func12, Tryz.ntmps12
  go_wp2_with fail
  refine (sumOf_any _ _ _ _ (Hxs.out.below (by (repeat' (first | (with_reducible exact Below.refl _ _) | (with_reducible assumption) | (with_reducible refine Below.drew ?_) | (with_reducible refine belowDrewN ?_ _) | (with_reducible refine Below.alloc ?_ ?_ _) | (with_reducible refine Below.setCell ?_ ?_ _) | (with_reducible refine belowStep (by assumption) ?_ ?_) | (with_reducible exact Below.size (by assumption)) | go_size)))) lxs Hr64.out).mono ?_; rintro e w1 ⟨rfl, hb1⟩; have hz1 := hb1.size; (try simp only [World.size_alloc, World.size_setCell, World.size_drew, World.heap_drewN] at hz1)
  rw [Hn.out, Hd.out, H.out]
  obtain ⟨hc1, hf1⟩ := bcellB hb1; have hz1 := hb1.size; (try simp only [World.size_alloc, World.size_setCell, World.size_drew, World.heap_drewN] at hc1 hf1 hz1); (try have hy1_r_0 : wr.heap.size < w1.heap.size := by omega); (try have hn1_r_0 : wr.heap.size ≠ w1.heap.size := by omega); (try have hm1_r_0 : w1.heap.size ≠ wr.heap.size := by omega); (try have hy1_r_1 : wr.heap.size + 1 < w1.heap.size := by omega); (try have hn1_r_1 : wr.heap.size + 1 ≠ w1.heap.size := by omega); (try have hm1_r_1 : w1.heap.size ≠ wr.heap.size + 1 := by omega); (try have hy1_r_2 : wr.heap.size + 1 + 1 < w1.heap.size := by omega); (try have hp1_r_1 : wr.heap.size < w1.heap.size + 1 := by omega); (try have hp1_r_2 : wr.heap.size < w1.heap.size + 1 + 1 := by omega); (try have hy1_0_0 : w.heap.size < w1.heap.size := by omega); (try have hn1_0_0 : w.heap.size ≠ w1.heap.size := by omega); (try have hm1_0_0 : w1.heap.size ≠ w.heap.size := by omega); (try have hy1_0_1 : w.heap.size + 1 < w1.heap.size := by omega); (try have hn1_0_1 : w.heap.size + 1 ≠ w1.heap.size := by omega); (try have hm1_0_1 : w1.heap.size ≠ w.heap.size + 1 := by omega); (try have hy1_0_2 : w.heap.size + 1 + 1 < w1.heap.size := by omega); (try have hp1_0_1 : w.heap.size < w1.heap.size + 1 := by omega); (try have hp1_0_2 : w.heap.size < w1.heap.size + 1 + 1 := by omega); (try have hg1_g1 : g1 < w1.heap.size := by omega); (try have hi1_g1 : g1 ≠ w1.heap.size := by omega); (try have hj1_g1 : w1.heap.size ≠ g1 := by omega); (try have hk1_g1 : g1 < w1.heap.size + 1 := by omega); (try have hg1_g2 : g2 < w1.heap.size := by omega); (try have hi1_g2 : g2 ≠ w1.heap.size := by omega); (try have hj1_g2 : w1.heap.size ≠ g2 := by omega); (try have hk1_g2 : g2 < w1.heap.size + 1 := by omega)
  go_wp2
  go_ret
  exact ⟨rfl, by (repeat' (first | (with_reducible exact Below.refl _ _) | (with_reducible assumption) | (with_reducible refine Below.drew ?_) | (with_reducible refine belowDrewN ?_ _) | (with_reducible refine Below.alloc ?_ ?_ _) | (with_reducible refine Below.setCell ?_ ?_ _) | (with_reducible refine belowStep (by assumption) ?_ ?_) | (with_reducible exact Below.size (by assumption)) | go_size))⟩
open Go.ChangeShapes Go.WideShapes Go.ChangeAt Go.Joins Go.Deep
section
variable {H : Type} {enc : TypeId × Value → H} {P : Program}
/-- A slice of bytes: nil, empty or not, one way. -/
theorem open_bytes_reads {W : World} {r : Reach} {b0 : Nat} {t ti : TypeId} {v : Value} {d : DataW H} {p : List MemPlace} (ht : P.underlying t = some (.slice ti)) (hti : P.underlying ti = some (.int .u8)) (hC : P.cellsOf ti = 1)
    (hv : Value.okWide P W r b0 t v) (h : DataW.Trod enc P W 0 (fun _ => true) true t v d p) (hlt : ∀ y ∈ p, y.block < W.heap.size) :
    ∃ (A : Option Addr) (c : Nat) (n : Nat), v = .slice A n c ∧ (ReadsB W A n ∧ n ≤ 9223372036854775807) := by
  obtain ⟨a0, len, cap, rfl⟩ := okWide_slice ht hv
  obtain ⟨fuel, hf⟩ := h
  rcases open_ints ht hti hC hf with ⟨hcs, _⟩ | ⟨a, len', cap', zs, hcs, _, hl, hm, hz, hx, hcell, hw⟩
  · simp [Value.cells] at hcs
    obtain ⟨rfl, rfl, rfl⟩ := hcs
    exact ⟨none, 0, 0, rfl, fun h0 => by omega, by omega⟩
  · simp [Value.cells] at hcs
    obtain ⟨rfl, rfl, rfl⟩ := hcs
    simp only [if_true] at hz
    unfold maxLen at hm
    refine ⟨some a, cap, len, rfl, fun h0 => ?_, by omega⟩
    obtain ⟨b, o, spot⟩ := a
    have hspot : spot = none := by simpa [Addr.add] using World.cell?_spot (hcell 0 (by omega))
    subst hspot
    refine ⟨b, o, rfl, ?_, fun i hi => ?_⟩
    · simp only [Prod.mk.injEq] at hx
      exact hlt (.cell b o) (by rw [hx.2]; exact MemPlace.mem_row.2 ⟨0, by omega, by simp⟩)
    · have hc := hcell i (by omega)
      have hb := range_u8 hw i
      refine ⟨zs.getD i 0, by simpa [Go.WideShapes.add_plain] using hc, ?_⟩
      simpa [List.getD] using hb
end
theorem beginP (w : World) (A : Option Addr) (n c : Nat) (T : TypeId) (hr : ReadsB w A n) (hn : n ≤ 1048576) : Cur w (w.alloc (.cells #[.slice A n c, .int .i64 0, .int .u64 0] T)) w.heap.size 0 :=
  ⟨Nat.le_refl _, by simp, (Below.refl _ _).alloc (Nat.le_refl _) _, A, n, c, 0, 0, (by simp), hn, hr, (by simp), by omega, by omega, (by simp), by simp [go_sem], by simp [go_sem]⟩
theorem oneP_any (w0 w : World) (g n : Nat) (hn : n ≤ 1000000) (m : Int) (hm : m ≤ 1000000000) (h : Cur w0 w g n) : Calls Tryz.prog 13 #[.pointer (some ⟨g, 0, none⟩), .int .i64 m] w (fun e w' => ∃ b : Bool, e = .returned (.bool b) ∧ Cur w0 w' g (n + 2) ∧ w.grownBy w' (some g)) := by
  have HC := Lib.hid h
  clear h
  go_enter Tryz.func13, Tryz.ntmps13
  go_wp2_with fail
  refine (pick_any w0 _ _ n hn _ hm HC.out).mono ?_; rintro e w1 ⟨x, rfl, x0, x1, hc1, hg1⟩
  have HC1 := Lib.hid hc1
  have Hg1 := Lib.hid hg1
  clear hc1 hg1
  go_wp2
  go_ret
  exact ⟨_, rfl, HC1.out, Hg1.out⟩
set_option maxHeartbeats 4000000 in
theorem proper_any (w0 w : World) (g n : Nat) (hn : n ≤ 10000) (h : Cur w0 w g n) : Calls Tryz.prog 16 #[.pointer (some ⟨g, 0, none⟩)] w (DrawF w0 w g (n + 30)) := by
  have HC := Lib.hid (h.below ((Below.refl _ _).alloc (Nat.le_refl _) (.cells #[.int .i64 0, .int .i64 0] 25)))
  obtain ⟨b1, b2, b3⟩ := h.base
  clear h
  have T0 := Lib.hid (TwoAt.new w 0 0 25)
  go_enter Tryz.func16, Tryz.ntmps16
  go_wp2_with fail
  refine (oneP_any w0 _ g n (by omega) _ (by omega) HC.out).mono ?_; rintro e w1 ⟨o, rfl, hc1, hg1⟩
  have HC1 := Lib.hid hc1
  have T1 := Lib.hid (T0.out.grown hg1 (by omega))
  have Hg1 := Lib.hid ((grownAlloc (World.grownBy.refl w (some g)) (Nat.le_refl _) _).trans hg1)
  have hz1 := hg1.size
  simp only [World.size_alloc] at hz1
  clear hc1 hg1
  cases o with
  | true =>
    go_wp2_with fail
    refine (fraction_any w0 _ g (n + 2) (by omega) HC1.out).mono ?_; rintro e w2 ⟨a, b, rfl, ha, hb, hc2, hg2⟩
    have HC2 := Lib.hid hc2
    have Hg2 := Lib.hid (Hg1.out.trans hg2)
    have hz2 := hg2.size
    obtain ⟨t1, t2, t3, t4, t5⟩ := T1.out.grown hg2 (by omega)
    clear hc2 hg2
    go_wp2
    refine bodyPost_ret (by simp [results, Tryz.results16, go_sem, *]; try rfl) rfl ?_
    exact ⟨a, b, rfl, ha, hb, ((HC2.out.more (by omega)).set (by omega) (by omega) _ _).set (by omega) (by omega) _ _, grownSetNew (grownSetNew Hg2.out (Nat.le_refl _) _ _) (Nat.le_refl _) _ _⟩
  | false =>
    go_wp2_with fail
    refine (pick_any w0 _ _ (n + 2) (by omega) _ (by omega) HC1.out).mono ?_; rintro e w2 ⟨p, rfl, p0, p1, hc2, hg2⟩
    have HC2 := Lib.hid hc2
    have T2 := Lib.hid (T1.out.grown hg2 (by omega))
    have Hg2 := Lib.hid (Hg1.out.trans hg2)
    have hz2 := hg2.size
    clear hc2 hg2
    go_wp2_with fail
    refine (pick_any w0 _ _ (n + 4) (by omega) _ (by omega) HC2.out).mono ?_; rintro e w3 ⟨q, rfl, q0, q1, hc3, hg3⟩
    have HC3 := Lib.hid hc3
    have T3 := Lib.hid (T2.out.grown hg3 (by omega))
    have Hg3 := Lib.hid (Hg2.out.trans hg3)
    have hz3 := hg3.size
    clear hc3 hg3
    go_wp2_with fail
    refine (unMake_any _ _ _ (by omega) (by omega) (by omega) (by omega)).mono ?_; rintro e w4 ⟨rfl, hb4⟩
    have hsm := red_small (x := 1 + q) (y := 2 + p) (by omega) (by omega) (by omega) (by omega)
    generalize (1 + q) / gcdI (1 + q) (2 + p) = a at *
    generalize (2 + p) / gcdI (1 + q) (2 + p) = b at *
    have Hsm := Lib.hid hsm
    have HC4 := Lib.hid (HC3.out.below hb4)
    have Hg4 := Lib.hid (grownBelow Hg3.out (by omega) hb4)
    obtain ⟨t1, t2, t3, t4, t5⟩ := T3.out.below hb4
    have hz4 := hb4.size
    clear hsm hb4
    go_wp2
    refine bodyPost_ret (by simp [results, Tryz.results16, go_sem, *]; try rfl) rfl ?_
    exact ⟨a, b, rfl, Hsm.out.1, Hsm.out.2, ((HC4.out.more (by omega)).set (by omega) (by omega) _ _).set (by omega) (by omega) _ _, grownSetNew (grownSetNew Hg4.out (Nat.le_refl _) _ _) (Nat.le_refl _) _ _⟩
theorem OwnI.atRow {w : World} {base g k : Nat} (hb : base ≤ g) (hk : k ≤ 1000) (h : w.heap[g]? = some (.cells (madeCells #[.int .i64 0] k) 3)) : OwnI w base (.slice (some ⟨g, 0, none⟩) k k) (List.replicate k 0) := by
  unfold OwnI
  rw [List.length_replicate]
  refine ⟨by simp, .inr ⟨g, k, _, rfl, hb, h, Nat.le_refl _, by unfold maxLen; omega, by simp [madeCells], ?_⟩⟩
  rw [toList_madeCells_one, Nat.mul_one, List.map_replicate]
  exact List.take_of_length_le (by simp)
/-- a list of the call's own has been drawn -/
def DrawnL (w : World) (e : Ending) (w' : World) : Prop := ∃ v zs, e = .returned v ∧ OwnI w' w.heap.size v zs ∧ zs.length ≤ 40 ∧ (∀ z ∈ zs, -9223372036854775808 ≤ z ∧ z ≤ 9223372036854775807) ∧ Below w.heap.size w w'
set_option maxRecDepth 100000 in
set_option maxHeartbeats 4000000 in
theorem drawPair_any (w : World) (A : Option Addr) (n c : Nat) (hr : ReadsB w A n) (hn : n ≤ 1048576) : Calls Tryz.prog 5 #[.slice A n c] w (fun e w' => ∃ a b : Int, e = .returned (.agg #[.int .i64 a, .int .i64 b]) ∧ (-9223372036854775808 ≤ a ∧ a ≤ 9223372036854775807) ∧ (-9223372036854775808 ≤ b ∧ b ≤ 9223372036854775807) ∧ Below w.heap.size w w') := by
  have T0 := Lib.hid (TwoAt.new w 0 0 25)
  have hc0 := beginP (w.alloc (.cells #[.int .i64 0, .int .i64 0] 25)) A n c 35 (hr.below ((Below.refl _ _).alloc (Nat.le_refl _) _)) hn
  rw [World.size_alloc] at hc0
  have HC0 := Lib.hid hc0
  clear hr hc0
  go_enter Tryz.func5, Tryz.ntmps5
  go_wp2_with fail
  refine (oneP_any (w.alloc (.cells #[.int .i64 0, .int .i64 0] 25)) _ (w.heap.size + 1) 0 (by omega) _ (by omega) HC0.out).mono ?_; rintro e w1 ⟨o, rfl, hc1, hg1⟩
  have HC1 := Lib.hid hc1
  have hz1 := hg1.size
  simp only [World.size_alloc] at hz1
  clear hc1 hg1
  cases o with
  | true =>
    go_wp2_with fail
    refine (pick_any (w.alloc (.cells #[.int .i64 0, .int .i64 0] 25)) _ (w.heap.size + 1) 2 (by omega) _ (by omega) HC1.out).mono ?_; rintro e w2 ⟨x, rfl, x0, x1, hc2, hg2⟩
    have HC2 := Lib.hid hc2
    have hz2 := hg2.size
    clear hc2 hg2
    go_wp2_with fail
    refine (pick_any (w.alloc (.cells #[.int .i64 0, .int .i64 0] 25)) _ (w.heap.size + 1) 4 (by omega) _ (by omega) HC2.out).mono ?_; rintro e w3 ⟨y, rfl, y0, y1, hc3, hg3⟩
    have HC3 := Lib.hid hc3
    have hz3 := hg3.size
    clear hc3 hg3
    go_wp2_with fail
    refine (unMake_any _ _ _ (by omega) (by omega) (by omega) (by omega)).mono ?_; rintro e w4 ⟨rfl, hb4⟩
    have hsm := red_small (x := 24 + x) (y := 24 + x + 1 + y) (by omega) (by omega) (by omega) (by omega)
    generalize (24 + x) / gcdI (24 + x) (24 + x + 1 + y) = a at *
    generalize (24 + x + 1 + y) / gcdI (24 + x) (24 + x + 1 + y) = b at *
    have Hsm := Lib.hid hsm
    have HC4 := Lib.hid (HC3.out.below hb4)
    have hbs := HC4.out.base.2.2
    have hz4 := hb4.size
    obtain ⟨t1, t2, t3, t4, t5⟩ := T0.out.below hbs
    have hbw : Below w.heap.size w w4 := by (repeat' (first | (with_reducible exact Below.refl _ _) | (with_reducible assumption) | (with_reducible refine Below.drew ?_) | (with_reducible refine belowDrewN ?_ _) | (with_reducible refine Below.alloc ?_ ?_ _) | (with_reducible refine Below.setCell ?_ ?_ _) | (with_reducible refine belowStep (by assumption) ?_ ?_) | (with_reducible exact Below.size (by assumption)) | go_size))
    clear hsm hb4 hbs
    go_wp2
    refine bodyPost_ret (by simp [results, Tryz.results5, go_sem, *]; try rfl) rfl ?_
    exact ⟨a, b, rfl, Hsm.out.1, Hsm.out.2, (hbw.setCell (Nat.le_refl _) _).setCell (Nat.le_refl _) _⟩
  | false =>
    go_wp2_with fail
    refine (proper_any (w.alloc (.cells #[.int .i64 0, .int .i64 0] 25)) _ (w.heap.size + 1) 2 (by omega) HC1.out).mono ?_; rintro e w2 ⟨a, b, rfl, ha, hb, hc2, hg2⟩
    have hbs := hc2.base.2.2
    have hz2 := hg2.size
    obtain ⟨t1, t2, t3, t4, t5⟩ := T0.out.below hbs
    have hbw : Below w.heap.size w w2 := by (repeat' (first | (with_reducible exact Below.refl _ _) | (with_reducible assumption) | (with_reducible refine Below.drew ?_) | (with_reducible refine belowDrewN ?_ _) | (with_reducible refine Below.alloc ?_ ?_ _) | (with_reducible refine Below.setCell ?_ ?_ _) | (with_reducible refine belowStep (by assumption) ?_ ?_) | (with_reducible exact Below.size (by assumption)) | go_size))
    clear hc2 hg2 hbs
    go_wp2
    refine bodyPost_ret (by simp [results, Tryz.results5, go_sem, *]; try rfl) rfl ?_
    exact ⟨a, b, rfl, ha, hb, (hbw.setCell (Nat.le_refl _) _).setCell (Nat.le_refl _) _⟩
set_option maxRecDepth 100000 in
set_option maxHeartbeats 4000000 in
theorem drawSplit_any (w : World) (A : Option Addr) (n c : Nat) (hr : ReadsB w A n) (hn : n ≤ 1048576) : Calls Tryz.prog 9 #[.slice A n c] w (fun e w' => ∃ a b : Int, e = .returned (.agg #[.int .i64 a, .int .i64 b]) ∧ (-9223372036854775808 ≤ a ∧ a ≤ 9223372036854775807) ∧ (-9223372036854775808 ≤ b ∧ b ≤ 9223372036854775807) ∧ Below w.heap.size w w') := by
  have T0 := Lib.hid (TwoAt.new w 0 0 25)
  have hc0 := beginP (w.alloc (.cells #[.int .i64 0, .int .i64 0] 25)) A n c 35 (hr.below ((Below.refl _ _).alloc (Nat.le_refl _) _)) hn
  rw [World.size_alloc] at hc0
  have HC0 := Lib.hid hc0
  clear hr hc0
  go_enter Tryz.func9, Tryz.ntmps9
  go_wp2_with fail
  refine (oneP_any (w.alloc (.cells #[.int .i64 0, .int .i64 0] 25)) _ (w.heap.size + 1) 0 (by omega) _ (by omega) HC0.out).mono ?_; rintro e w1 ⟨o, rfl, hc1, hg1⟩
  have HC1 := Lib.hid hc1
  have hz1 := hg1.size
  simp only [World.size_alloc] at hz1
  clear hc1 hg1
  cases o with
  | true =>
    go_wp2_with fail
    refine (pick_any (w.alloc (.cells #[.int .i64 0, .int .i64 0] 25)) _ (w.heap.size + 1) 2 (by omega) _ (by omega) HC1.out).mono ?_; rintro e w2 ⟨x, rfl, x0, x1, hc2, hg2⟩
    have HC2 := Lib.hid hc2
    have hz2 := hg2.size
    clear hc2 hg2
    go_wp2_with fail
    refine (pick_any (w.alloc (.cells #[.int .i64 0, .int .i64 0] 25)) _ (w.heap.size + 1) 4 (by omega) _ (by omega) HC2.out).mono ?_; rintro e w3 ⟨y, rfl, y0, y1, hc3, hg3⟩
    have HC3 := Lib.hid hc3
    have hz3 := hg3.size
    clear hc3 hg3
    go_wp2_with fail
    refine (unMake_any _ _ _ (by omega) (by omega) (by omega) (by omega)).mono ?_; rintro e w4 ⟨rfl, hb4⟩
    have hsm := red_small (x := 2 + x) (y := 5 + y) (by omega) (by omega) (by omega) (by omega)
    generalize (2 + x) / gcdI (2 + x) (5 + y) = a at *
    generalize (5 + y) / gcdI (2 + x) (5 + y) = b at *
    have Hsm := Lib.hid hsm
    have HC4 := Lib.hid (HC3.out.below hb4)
    have hbs := HC4.out.base.2.2
    have hz4 := hb4.size
    obtain ⟨t1, t2, t3, t4, t5⟩ := T0.out.below hbs
    have hbw : Below w.heap.size w w4 := by (repeat' (first | (with_reducible exact Below.refl _ _) | (with_reducible assumption) | (with_reducible refine Below.drew ?_) | (with_reducible refine belowDrewN ?_ _) | (with_reducible refine Below.alloc ?_ ?_ _) | (with_reducible refine Below.setCell ?_ ?_ _) | (with_reducible refine belowStep (by assumption) ?_ ?_) | (with_reducible exact Below.size (by assumption)) | go_size))
    clear hsm hb4 hbs
    go_wp2
    refine bodyPost_ret (by simp [results, Tryz.results9, go_sem, *]; try rfl) rfl ?_
    exact ⟨a, b, rfl, Hsm.out.1, Hsm.out.2, (hbw.setCell (Nat.le_refl _) _).setCell (Nat.le_refl _) _⟩
  | false =>
    go_wp2_with fail
    refine (proper_any (w.alloc (.cells #[.int .i64 0, .int .i64 0] 25)) _ (w.heap.size + 1) 2 (by omega) HC1.out).mono ?_; rintro e w2 ⟨a, b, rfl, ha, hb, hc2, hg2⟩
    have hbs := hc2.base.2.2
    have hz2 := hg2.size
    obtain ⟨t1, t2, t3, t4, t5⟩ := T0.out.below hbs
    have hbw : Below w.heap.size w w2 := by (repeat' (first | (with_reducible exact Below.refl _ _) | (with_reducible assumption) | (with_reducible refine Below.drew ?_) | (with_reducible refine belowDrewN ?_ _) | (with_reducible refine Below.alloc ?_ ?_ _) | (with_reducible refine Below.setCell ?_ ?_ _) | (with_reducible refine belowStep (by assumption) ?_ ?_) | (with_reducible exact Below.size (by assumption)) | go_size))
    clear hc2 hg2 hbs
    go_wp2
    refine bodyPost_ret (by simp [results, Tryz.results9, go_sem, *]; try rfl) rfl ?_
    exact ⟨a, b, rfl, ha, hb, (hbw.setCell (Nat.le_refl _) _).setCell (Nat.le_refl _) _⟩
theorem sumQ_permT {xs ys : List Int} (h : xs.Perm ys) : sumQ xs = sumQ ys := by
  induction h with
  | nil => rfl
  | cons x _ ih => simp only [sumQ, ih]
  | swap x y l => simp only [sumQ]; grind
  | trans _ _ ih1 ih2 => exact ih1.trans ih2
/-- what comes has the sum of what goes -/
def KeepQ (g : Int → Nat × List Int) : Prop := ∀ d, 1 ≤ d → ((g d).1 : Rat) * (1 / (d : Rat)) = sumQ (g d).2
theorem repS_q : KeepQ repS := fun d hd => by
  have h1 := ne0 hd
  have h2 := ne0 (show 1 ≤ d + 1 by omega)
  simp only [repS, sumQ, Rat.intCast_mul, Rat.intCast_add] at h2 ⊢
  grind
theorem repP_q : KeepQ repP := fun d hd => by
  by_cases he : d % 2 = 0
  · obtain ⟨k, rfl⟩ : ∃ k, d = 2 * k := ⟨d / 2, by omega⟩
    have e : repP (2 * k) = (2, [k]) := by unfold repP; rw [if_pos he]; congr 2; omega
    have h1 := ne0 (show 1 ≤ k by omega)
    rw [e]
    simp only [sumQ, Rat.intCast_mul]
    grind
  · obtain ⟨k, rfl⟩ : ∃ k, d = 2 * k + 1 := ⟨d / 2, by omega⟩
    have hp : (2 * k + 1) * (2 * k + 1 + 1) / 2 = (2 * k + 1) * (k + 1) := by
      rw [show (2 * k + 1) * (2 * k + 1 + 1) = 2 * ((2 * k + 1) * (k + 1)) by grind]
      exact Int.mul_ediv_cancel_left _ (by decide)
    have e : repP (2 * k + 1) = (2, [k + 1, (2 * k + 1) * (k + 1)]) := by unfold repP; rw [if_neg he, hp, show (2 * k + 1 + 1) / 2 = k + 1 by omega]
    have h1 := ne0 (show 1 ≤ k + 1 by omega)
    have h2 := ne0 (show 1 ≤ 2 * k + 1 by omega)
    rw [e]
    simp only [sumQ, Rat.intCast_mul, Rat.intCast_add] at h1 h2 ⊢
    grind
theorem round_sum {g : Int → Nat × List Int} (hg : GoodG g) (hq : KeepQ g) {xs : List Int} {i : Nat} (hx : ∀ x ∈ xs, 1 ≤ x) (ht : tw xs = some i) : sumQ (roundL g xs i) = sumQ xs := by
  obtain ⟨d, hd, hd2⟩ := tw_at ht
  have h1 := hx d (List.mem_of_getElem? hd)
  have hk := hq d h1
  have a1 := hg.one d
  have a2 := hg.two d
  have e0 : sumQ xs = sumQ (xs.take i) + sumQ (xs.drop i) := by rw [← sumQ_append, List.take_append_drop]
  rw [round_at hd, sumQ_permT (srt_perm _), sumQ_append, sumQ_append, e0, ← hk]
  generalize hm : (g d).1 = m at *
  rcases (by omega : m = 1 ∨ m = 2) with rfl | rfl
  · rw [drop_at hd]
    simp only [sumQ]
    grind
  · rw [drop_at hd, drop_at hd2]
    simp only [sumQ]
    grind
theorem round_len {g : Int → Nat × List Int} (hg : GoodG g) {xs : List Int} {i : Nat} {d : Int} (hd : xs[i]? = some d) (hi : i + 1 < xs.length) : (roundL g xs i).length + (g d).1 = xs.length + (g d).2.length := by
  have a1 := hg.one d
  have a2 := hg.two d
  rw [round_at hd, srt_len, List.length_append, List.length_append, List.length_take, List.length_drop]
  omega
theorem rounds_sum {g : Int → Nat × List Int} (hg : GoodG g) (hq : KeepQ g) : ∀ {k : Nat} {xs ys : List Int}, (∀ x ∈ xs, 1 ≤ x ∧ x ≤ 1000000000) → rounds g k xs = some ys → sumQ ys = sumQ xs ∧ ((∀ d, (g d).2.length ≤ (g d).1) → ys.length ≤ xs.length) ∧ ((∀ d, (g d).1 ≤ (g d).2.length) → xs.length ≤ ys.length)
  | k, xs, ys, hx, hr => by
    cases ht : tw xs with
    | none =>
      rw [rounds_done ht] at hr
      injection hr with hr
      subst hr
      exact ⟨rfl, fun _ => Nat.le_refl _, fun _ => Nat.le_refl _⟩
    | some i =>
      obtain ⟨d, hd, hd2⟩ := tw_at ht
      have hi : i + 1 < xs.length := (List.getElem?_eq_some_iff.1 hd2).1
      cases k with
      | zero => rw [rounds_out ht] at hr; cases hr
      | succ k =>
        cases hs : small (roundL g xs i) with
        | false => rw [rounds_big ht hs] at hr; cases hr
        | true =>
          rw [rounds_on ht hs] at hr
          have hl := round_len hg hd hi
          obtain ⟨b1, b2, b3⟩ := rounds_sum hg hq (k := k) (round_in hg.lo (fun x h => (hx x h).1) ht hs) hr
          exact ⟨b1.trans (round_sum hg hq (fun x h => (hx x h).1) ht), fun h => by have := b2 h; have := h d; omega, fun h => by have := b3 h; have := h d; omega⟩
theorem repL_sum {n d : Int} (hn : 0 ≤ n) (hd : 1 ≤ d) : sumQ (repL n d) = rq n d := by
  obtain ⟨k, rfl⟩ := Int.eq_ofNat_of_zero_le hn
  have h1 := ne0 hd
  unfold repL rq
  rw [Int.toNat_natCast]
  induction k with
  | zero => simp [sumQ]; grind
  | succ k ih =>
    rw [List.replicate_succ]
    simp only [sumQ]
    rw [ih (by omega)]
    simp only [Int.natCast_add, Rat.intCast_add]
    grind
/-- of each expansion by rounds -/
structure TwB (n d : Int) (xs : List Int) : Prop where
  pro : proB n d = true
  exp : expB xs = true
  sum : eN xs = n ∧ eD xs = d
  l24 : xs.length ≤ 24
  x64 : In64 xs
theorem twE_back {g : Int → Nat × List Int} (hg : GoodG g) (hq : KeepQ g) {n d : Int} {xs : List Int} (h : twE g n d = some xs) : TwB n d xs ∧ ((∀ d, (g d).2.length ≤ (g d).1) → (xs.length : Int) ≤ n) ∧ ((∀ d, (g d).1 ≤ (g d).2.length) → n ≤ (xs.length : Int)) := by
  cases hp : proB n d with
  | false => rw [twE_not hp] at h; cases h
  | true =>
    by_cases hn : n ≤ 24
    · obtain ⟨n1, n2, d1, d2, hnd, hgd, _, _⟩ := proB_bounds hp
      rw [twE_on hp hn] at h
      cases hr : rounds g 300 (repL n d) with
      | none => rw [hr] at h; cases h
      | some ys =>
        rw [hr] at h
        have hl : (repL n d).length = n.toNat := by unfold repL; rw [List.length_replicate]
        obtain ⟨b1, b2, b3⟩ := rounds_sum hg hq (fun x hx => by have := List.eq_of_mem_replicate hx; omega) hr
        cases hx : expB (srt ys) with
        | false => rw [exO_no hx] at h; cases h
        | true =>
          rw [exO_yes hx] at h
          injection h with h
          subst h
          have hs := sum_q hx
          rw [sumQ_permT (srt_perm _), b1, repL_sum (by omega) (by omega)] at hs
          obtain ⟨a, b⟩ := good_same (good_sum hx) hgd hs
          refine ⟨⟨hp, hx, ⟨by rw [eN, if_pos hx, a], by rw [eD, if_pos hx, b]⟩, expB_len hx, In64.of_mem fun x h => by have := expB_small hx x h; omega⟩, fun h => ?_, fun h => ?_⟩
          · have := b2 h; rw [srt_len]; omega
          · have := b3 h; rw [srt_len]; omega
    · rw [twE_many hn] at h; cases h
theorem repP_few : ∀ d, (repP d).2.length ≤ (repP d).1 := fun d => by unfold repP; split <;> simp
theorem repS_more : ∀ d, (repS d).1 ≤ (repS d).2.length := fun d => by unfold repS; simp
end Go.Proofs.YtolgjokghecceaaGreat
