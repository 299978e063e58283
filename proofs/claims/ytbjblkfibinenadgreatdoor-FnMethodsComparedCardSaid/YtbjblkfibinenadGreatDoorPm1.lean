import Derived.Test.YtbjblkfibinenadGreatDoorPk4
import Derived.Test.YtbjblkfibinenadGreatDoorPk8
import Derived.Test.YtbjblkfibinenadGreatDoorPk2
import Derived.Test.YtbjblkfibinenadGreatDoorPk1
import Derived.Deep.OwnRows
import Derived.Test.YtbjblkfibinenadGreatDoorPk9
import Derived.Test.YtbjblkfibinenadGreatDoorPk25
import Derived.Test.YtbjblkfibinenadGreatDoorPk14

/-
  Contracts of the laws' own helpers.
-/
namespace Go.Proofs.YtbjblkfibinenadGreatDoor
open Go.RowKit
def bigB (n m : Nat) : Bool := decide (1048576 < n) || decide (1048576 < n + m)
theorem big_any (w : World) (A B : Option Addr) (n m c d : Nat) (hn : n ≤ 9223372036854775807) (_ : m ≤ 9223372036854775807) : Calls Tryz.prog 14 #[.slice A n c, .slice B m d] w (RetQ (.bool (bigB n m)) w) := by
  by_cases h : 1048576 < n
  · have h1 : 1048576 < (n : Int) := by omega
    have E : Hid (bigB n m = true) := by show bigB n m = true; simp [bigB, h]
    go_enter Tryz.func14, Tryz.ntmps14
    go_wp2
    go_ret
    exact ⟨ret_bool (by first | (rw [E.out]; done) | (rw [E.out]; simp; done) | (rw [E.out]; simp; omega)), 0, rfl⟩
  · have h1 : ¬ 1048576 < (n : Int) := by omega
    have h2 : (n : Int) ≤ 1048576 := by omega
    have E : Hid (bigB n m = decide (1048576 - (n : Int) < m)) := by
      show bigB n m = _
      rw [Bool.eq_iff_iff]; simp [bigB, h]; omega
    go_enter Tryz.func14, Tryz.ntmps14
    go_wp2
    go_ret
    exact ⟨ret_bool (by first | (rw [E.out]; done) | (rw [E.out]; simp; done) | (rw [E.out]; simp; omega)), 0, rfl⟩
set_option maxHeartbeats 1000000 in
theorem pSame_same (w : World) (A B : Option Addr) (c d : Nat) (xs : List Int) (ha : Reads w A xs) (hb : Reads w B xs) (hl : xs.length ≤ 1048576) :
    Calls Tryz.prog 16 #[.slice A xs.length c, .slice B xs.length d] w (RetQ (.bool true) w) := by
  go_enter Tryz.func16, Tryz.ntmps16
  go_wp2
  go_loopw [13] (fun v5 wr => ∃ k : Nat, k ≤ xs.length ∧ v5 = .int .i64 k ∧ ∃ n, wr = w.drewN n) (fun v5 _ => xs.length - (intOf v5).toNat)
  case atStart => exact ⟨0, Nat.zero_le _, rfl, 0, rfl⟩
  case round =>
    obtain ⟨k, hk, rfl, n, rfl⟩ := hrel
    by_cases hlt : k < xs.length
    · obtain ⟨b, o, x, rfl, _, hx, hcell⟩ := ha.at_ hlt
      obtain ⟨b', o', x', rfl, _, hx', hcell'⟩ := hb.at_ hlt
      obtain rfl : x = x' := by rw [hx] at hx'; injection hx'
      have hki : (k : Int) < (xs.length : Int) := by omega
      clear hx hx' ha hb
      go_wp2
      go_quiet (fail)
      go_wp2
      go_roundw
      case rel => exact ⟨k + 1, by omega, by go_num, _, rfl⟩
      case measure => simp [intOf]; omega
    · go_wp2
      go_ret
      exact ⟨rfl, n, rfl⟩
theorem pSums_yes (w : World) (n d : Int) (Axs : Option Addr) (cxs : Nat) (xs : List Int) (hxs : Reads w Axs xs) (lxs : xs.length ≤ 1048576) (r64 : ∀ (i : Nat) (x : Int), xs[i]? = some x → -9223372036854775808 ≤ x ∧ x ≤ 9223372036854775807) (h : expB xs = true) (hn : eN xs = n) (hd : eD xs = d) : Calls Tryz.prog 21 #[.slice Axs xs.length cxs, .agg #[.int .i64 n, .int .i64 d]] w (Ret (.bool true) w) := by
  have Hxs := Lib.hid hxs
  have Hr64 := Lib.hid r64
  have Hn := Lib.hid hn
  have Hd := Lib.hid hd
  have H := Lib.hid h
  clear hxs r64 hn hd h
  go_enter Tryz.func21, Tryz.ntmps21
  go_wp2_with fail
  refine (sumOf_any _ _ _ _ (Hxs.out.below (by (repeat' (first | (with_reducible exact Below.refl _ _) | (with_reducible assumption) | (with_reducible refine Below.drew ?_) | (with_reducible refine belowDrewN ?_ _) | (with_reducible refine Below.alloc ?_ ?_ _) | (with_reducible refine Below.setCell ?_ ?_ _) | (with_reducible refine belowStep (by assumption) ?_ ?_) | (with_reducible exact Below.size (by assumption)) | go_size)))) lxs Hr64.out).mono ?_; rintro e w1 ⟨rfl, hb1⟩; have hz1 := hb1.size; (try simp only [World.size_alloc] at hz1)
  rw [Hn.out, Hd.out, H.out]
  obtain ⟨hc1, hf1⟩ := bcellB hb1; have hz1 := hb1.size; (try simp only [World.size_alloc] at hc1 hf1 hz1); (try have hy1_r_0 : wr.heap.size < w1.heap.size := by omega); (try have hn1_r_0 : wr.heap.size ≠ w1.heap.size := by omega); (try have hm1_r_0 : w1.heap.size ≠ wr.heap.size := by omega); (try have hy1_r_1 : wr.heap.size + 1 < w1.heap.size := by omega); (try have hn1_r_1 : wr.heap.size + 1 ≠ w1.heap.size := by omega); (try have hm1_r_1 : w1.heap.size ≠ wr.heap.size + 1 := by omega); (try have hy1_r_2 : wr.heap.size + 1 + 1 < w1.heap.size := by omega); (try have hp1_r_1 : wr.heap.size < w1.heap.size + 1 := by omega); (try have hp1_r_2 : wr.heap.size < w1.heap.size + 1 + 1 := by omega); (try have hy1_0_0 : w.heap.size < w1.heap.size := by omega); (try have hn1_0_0 : w.heap.size ≠ w1.heap.size := by omega); (try have hm1_0_0 : w1.heap.size ≠ w.heap.size := by omega); (try have hy1_0_1 : w.heap.size + 1 < w1.heap.size := by omega); (try have hn1_0_1 : w.heap.size + 1 ≠ w1.heap.size := by omega); (try have hm1_0_1 : w1.heap.size ≠ w.heap.size + 1 := by omega); (try have hy1_0_2 : w.heap.size + 1 + 1 < w1.heap.size := by omega); (try have hp1_0_1 : w.heap.size < w1.heap.size + 1 := by omega); (try have hp1_0_2 : w.heap.size < w1.heap.size + 1 + 1 := by omega); (try have hg1_g1 : g1 < w1.heap.size := by omega); (try have hi1_g1 : g1 ≠ w1.heap.size := by omega); (try have hj1_g1 : w1.heap.size ≠ g1 := by omega); (try have hk1_g1 : g1 < w1.heap.size + 1 := by omega); (try have hg1_g2 : g2 < w1.heap.size := by omega); (try have hi1_g2 : g2 ≠ w1.heap.size := by omega); (try have hj1_g2 : w1.heap.size ≠ g2 := by omega); (try have hk1_g2 : g2 < w1.heap.size + 1 := by omega)
  go_wp2
  go_ret
  exact ⟨rfl, by (repeat' (first | (with_reducible exact Below.refl _ _) | (with_reducible assumption) | (with_reducible refine Below.drew ?_) | (with_reducible refine belowDrewN ?_ _) | (with_reducible refine Below.alloc ?_ ?_ _) | (with_reducible refine Below.setCell ?_ ?_ _) | (with_reducible refine belowStep (by assumption) ?_ ?_) | (with_reducible exact Below.size (by assumption)) | go_size))⟩
open Go.ChangeShapes Go.WideShapes Go.ChangeAt Go.Joins Go.Deep
section
variable {H : Type} {enc : TypeId × Value → H} {P : Program}
/-- A slice of bytes: nil, empty or not, one way. -/
theorem open_bytes_reads {W : World} {r : Reach} {b0 : Nat} {t ti : TypeId} {v : Value} {d : DataW H} {p : List MemPlace} (ht : P.underlying t = some (.slice ti)) (hti : P.underlying ti = some (.int .u8)) (hC : P.cellsOf ti = 1)
    (hv : Value.okWide P W r b0 t v) (h : DataW.Trod enc P W 0 (fun _ => true) true t v d p) (hlt : ∀ y ∈ p, y.block < W.heap.size) :
    ∃ (A : Option Addr) (c : Nat) (n : Nat), v = .slice A n c ∧ (ReadsB W A n ∧ n ≤ 9223372036854775807) := by
  obtain ⟨a0, len, cap, rfl⟩ := okWide_slice ht hv
  obtain ⟨fuel, hf⟩ := h
  rcases open_ints ht hti hC hf with ⟨hcs, _⟩ | ⟨a, len', cap', zs, hcs, _, hl, hm, hz, hx, hcell, hw⟩
  · simp [Value.cells] at hcs
    obtain ⟨rfl, rfl, rfl⟩ := hcs
    exact ⟨none, 0, 0, rfl, fun h0 => by omega, by omega⟩
  · simp [Value.cells] at hcs
    obtain ⟨rfl, rfl, rfl⟩ := hcs
    simp only [if_true] at hz
    unfold maxLen at hm
    refine ⟨some a, cap, len, rfl, fun h0 => ?_, by omega⟩
    obtain ⟨b, o, spot⟩ := a
    have hspot : spot = none := by simpa [Addr.add] using World.cell?_spot (hcell 0 (by omega))
    subst hspot
    refine ⟨b, o, rfl, ?_, fun i hi => ?_⟩
    · simp only [Prod.mk.injEq] at hx
      exact hlt (.cell b o) (by rw [hx.2]; exact MemPlace.mem_row.2 ⟨0, by omega, by simp⟩)
    · have hc := hcell i (by omega)
      have hb := range_u8 hw i
      refine ⟨zs.getD i 0, by simpa [Go.WideShapes.add_plain] using hc, ?_⟩
      simpa [List.getD] using hb
end
end Go.Proofs.YtbjblkfibinenadGreatDoor


/-
  Contracts of what draws fractions up to 1, yes or no, and lists of numbers: whatever the bytes are, numbers that fit are handed out, and only the cursor has changed.
-/
namespace Go.Proofs.YtbjblkfibinenadGreatDoor
open Go.RowKit
theorem beginP (w : World) (A : Option Addr) (n c : Nat) (T : TypeId) (hr : ReadsB w A n) (hn : n ≤ 1048576) : Cur w (w.alloc (.cells #[.slice A n c, .int .i64 0, .int .u64 0] T)) w.heap.size 0 :=
  ⟨Nat.le_refl _, by simp, (Below.refl _ _).alloc (Nat.le_refl _) _, A, n, c, 0, 0, (by simp), hn, hr, (by simp), by omega, by omega, (by simp), by simp [go_sem], by simp [go_sem]⟩
theorem oneP_any (w0 w : World) (g n : Nat) (hn : n ≤ 1000000) (m : Int) (hm : m ≤ 1000000000) (h : Cur w0 w g n) : Calls Tryz.prog 44 #[.pointer (some ⟨g, 0, none⟩), .int .i64 m] w (fun e w' => ∃ b : Bool, e = .returned (.bool b) ∧ Cur w0 w' g (n + 2) ∧ w.grownBy w' (some g)) := by
  have HC := Lib.hid h
  clear h
  go_enter Tryz.func44, Tryz.ntmps44
  go_wp2_with fail
  refine (pick_any w0 _ _ n hn _ hm HC.out).mono ?_; rintro e w1 ⟨x, rfl, x0, x1, hc1, hg1⟩
  have HC1 := Lib.hid hc1
  have Hg1 := Lib.hid hg1
  clear hc1 hg1
  go_wp2
  go_ret
  exact ⟨_, rfl, HC1.out, Hg1.out⟩
set_option maxHeartbeats 4000000 in
theorem proper_any (w0 w : World) (g n : Nat) (hn : n ≤ 10000) (h : Cur w0 w g n) : Calls Tryz.prog 26 #[.pointer (some ⟨g, 0, none⟩)] w (DrawF w0 w g (n + 30)) := by
  have HC := Lib.hid (h.below ((Below.refl _ _).alloc (Nat.le_refl _) (.cells #[.int .i64 0, .int .i64 0] 27)))
  obtain ⟨b1, b2, b3⟩ := h.base
  clear h
  have T0 := Lib.hid (TwoAt.new w 0 0 27)
  go_enter Tryz.func26, Tryz.ntmps26
  go_wp2_with fail
  refine (oneP_any w0 _ g n (by omega) _ (by omega) HC.out).mono ?_; rintro e w1 ⟨o, rfl, hc1, hg1⟩
  have HC1 := Lib.hid hc1
  have T1 := Lib.hid (T0.out.grown hg1 (by omega))
  have Hg1 := Lib.hid ((grownAlloc (World.grownBy.refl w (some g)) (Nat.le_refl _) _).trans hg1)
  have hz1 := hg1.size
  simp only [World.size_alloc] at hz1
  clear hc1 hg1
  cases o with
  | true =>
    go_wp2_with fail
    refine (fraction_any w0 _ g (n + 2) (by omega) HC1.out).mono ?_; rintro e w2 ⟨a, b, rfl, ha, hb, hc2, hg2⟩
    have HC2 := Lib.hid hc2
    have Hg2 := Lib.hid (Hg1.out.trans hg2)
    have hz2 := hg2.size
    obtain ⟨t1, t2, t3, t4, t5⟩ := T1.out.grown hg2 (by omega)
    clear hc2 hg2
    go_wp2
    refine bodyPost_ret (by simp [results, Tryz.results26, go_sem, *]; try rfl) rfl ?_
    exact ⟨a, b, rfl, ha, hb, ((HC2.out.more (by omega)).set (by omega) (by omega) _ _).set (by omega) (by omega) _ _, grownSetNew (grownSetNew Hg2.out (Nat.le_refl _) _ _) (Nat.le_refl _) _ _⟩
  | false =>
    go_wp2_with fail
    refine (pick_any w0 _ _ (n + 2) (by omega) _ (by omega) HC1.out).mono ?_; rintro e w2 ⟨p, rfl, p0, p1, hc2, hg2⟩
    have HC2 := Lib.hid hc2
    have T2 := Lib.hid (T1.out.grown hg2 (by omega))
    have Hg2 := Lib.hid (Hg1.out.trans hg2)
    have hz2 := hg2.size
    clear hc2 hg2
    go_wp2_with fail
    refine (pick_any w0 _ _ (n + 4) (by omega) _ (by omega) HC2.out).mono ?_; rintro e w3 ⟨q, rfl, q0, q1, hc3, hg3⟩
    have HC3 := Lib.hid hc3
    have T3 := Lib.hid (T2.out.grown hg3 (by omega))
    have Hg3 := Lib.hid (Hg2.out.trans hg3)
    have hz3 := hg3.size
    clear hc3 hg3
    go_wp2_with fail
    refine (unMake_any _ _ _ (by omega) (by omega) (by omega) (by omega)).mono ?_; rintro e w4 ⟨rfl, hb4⟩
    have hsm := red_small (x := 1 + q) (y := 2 + p) (by omega) (by omega) (by omega) (by omega)
    generalize (1 + q) / gcdI (1 + q) (2 + p) = a at *
    generalize (2 + p) / gcdI (1 + q) (2 + p) = b at *
    have Hsm := Lib.hid hsm
    have HC4 := Lib.hid (HC3.out.below hb4)
    have Hg4 := Lib.hid (grownBelow Hg3.out (by omega) hb4)
    obtain ⟨t1, t2, t3, t4, t5⟩ := T3.out.below hb4
    have hz4 := hb4.size
    clear hsm hb4
    go_wp2
    refine bodyPost_ret (by simp [results, Tryz.results26, go_sem, *]; try rfl) rfl ?_
    exact ⟨a, b, rfl, Hsm.out.1, Hsm.out.2, ((HC4.out.more (by omega)).set (by omega) (by omega) _ _).set (by omega) (by omega) _ _, grownSetNew (grownSetNew Hg4.out (Nat.le_refl _) _ _) (Nat.le_refl _) _ _⟩
theorem OwnI.atRow {w : World} {base g k : Nat} (hb : base ≤ g) (hk : k ≤ 1000) (h : w.heap[g]? = some (.cells (madeCells #[.int .i64 0] k) 3)) : OwnI w base (.slice (some ⟨g, 0, none⟩) k k) (List.replicate k 0) := by
  unfold OwnI
  rw [List.length_replicate]
  refine ⟨by simp, .inr ⟨g, k, _, rfl, hb, h, Nat.le_refl _, by unfold maxLen; omega, by simp [madeCells], ?_⟩⟩
  rw [toList_madeCells_one, Nat.mul_one, List.map_replicate]
  exact List.take_of_length_le (by simp)
/-- a list of the call's own has been drawn -/
def DrawnL (w : World) (e : Ending) (w' : World) : Prop := ∃ v zs, e = .returned v ∧ OwnI w' w.heap.size v zs ∧ zs.length ≤ 40 ∧ (∀ z ∈ zs, -9223372036854775808 ≤ z ∧ z ≤ 9223372036854775807) ∧ Below w.heap.size w w'
end Go.Proofs.YtbjblkfibinenadGreatDoor


/-
  The contracts of the draws of a fraction for the laws on the sizes and on the best of all methods.
-/
namespace Go.Proofs.YtbjblkfibinenadGreatDoor
open Go.RowKit
set_option maxRecDepth 100000 in
set_option maxHeartbeats 2000000 in
theorem drawSizes_any (w : World) (A : Option Addr) (n c : Nat) (hr : ReadsB w A n) (hn : n ≤ 1048576) : Calls Tryz.prog 15 #[.slice A n c] w (fun e w' => ∃ a b : Int, e = .returned (.agg #[.int .i64 a, .int .i64 b]) ∧ (-9223372036854775808 ≤ a ∧ a ≤ 9223372036854775807) ∧ (-9223372036854775808 ≤ b ∧ b ≤ 9223372036854775807) ∧ Below w.heap.size w w') := by
  have T0 := Lib.hid (TwoAt.new w 0 0 27)
  have hc0 := beginP (w.alloc (.cells #[.int .i64 0, .int .i64 0] 27)) A n c 44 (hr.below ((Below.refl _ _).alloc (Nat.le_refl _) _)) hn
  rw [World.size_alloc] at hc0
  have HC0 := Lib.hid hc0
  clear hr hc0
  go_enter Tryz.func15, Tryz.ntmps15
  go_wp2_with fail
  refine (proper_any (w.alloc (.cells #[.int .i64 0, .int .i64 0] 27)) _ (w.heap.size + 1) 0 (by omega) HC0.out).mono ?_; rintro e w2 ⟨a, b, rfl, ha, hb, hc2, hg2⟩
  have hbs := hc2.base.2.2
  have hz2 := hg2.size
  simp only [World.size_alloc] at hz2
  obtain ⟨t1, t2, t3, t4, t5⟩ := T0.out.below hbs
  have hbw : Below w.heap.size w w2 := by (repeat' (first | (with_reducible exact Below.refl _ _) | (with_reducible assumption) | (with_reducible refine Below.drew ?_) | (with_reducible refine belowDrewN ?_ _) | (with_reducible refine Below.alloc ?_ ?_ _) | (with_reducible refine Below.setCell ?_ ?_ _) | (with_reducible refine belowStep (by assumption) ?_ ?_) | (with_reducible exact Below.size (by assumption)) | go_size))
  clear hc2 hg2 hbs
  go_wp2
  refine bodyPost_ret (by simp [results, Tryz.results15, go_sem, *]; try rfl) rfl ?_
  exact ⟨a, b, rfl, ha, hb, (hbw.setCell (Nat.le_refl _) _).setCell (Nat.le_refl _) _⟩
end Go.Proofs.YtbjblkfibinenadGreatDoor


/-
  Plain facts on Sylvester's numbers.
-/
namespace Go.Proofs.YtbjblkfibinenadGreatDoor
open Go.RowKit
theorem sq_grow {x : Int} (h : 2 ≤ x) : x + 1 ≤ x * (x - 1) + 1 := by
  have : 0 ≤ x * (x - 2) := Int.mul_nonneg (by omega) (by omega)
  have e : x * (x - 1) = x * (x - 2) + x := by grind
  omega
def syl : Nat → Int
  | 0 => 2
  | k + 1 => syl k * (syl k - 1) + 1
theorem syl_two : ∀ k, 2 ≤ syl k
  | 0 => by simp [syl]
  | k + 1 => by have := syl_two k; have := sq_grow this; simp only [syl]; omega
theorem syl6 : 1000000000 < syl 6 := by decide +kernel
theorem syl_next (k : Nat) : syl (k + 1) = syl k * (syl k - 1) + 1 := rfl
theorem syl_small : ∀ k, k ≤ 5 → syl k ≤ 3263443
  | 0, _ => by decide +kernel
  | 1, _ => by decide +kernel
  | 2, _ => by decide +kernel
  | 3, _ => by decide +kernel
  | 4, _ => by decide +kernel
  | 5, _ => by decide +kernel
  | k + 6, h => by omega
theorem syl_prod (k : Nat) (h : k ≤ 5) : 2 ≤ syl k * (syl k - 1) ∧ syl k * (syl k - 1) ≤ 10650056950806 := by
  have h1 := syl_two k
  have h2 := syl_small k h
  have h3 : syl k * (syl k - 1) ≤ 3263443 * 3263442 := Int.mul_le_mul h2 (by omega) (by omega) (by omega)
  have h4 : 2 * 1 ≤ syl k * (syl k - 1) := Int.mul_le_mul h1 (by omega) (by omega) (by omega)
  omega
/-- what the first k of them leave of 1 -/
theorem syl_gap (k : Nat) (h : k ≤ 4) : redB (1 * syl k - 1 * (syl k - 1)) ((syl k - 1) * syl k) = true ∧ (1 * syl k - 1 * (syl k - 1)) / gcdI (1 * syl k - 1 * (syl k - 1)) ((syl k - 1) * syl k) = 1 ∧ ((syl k - 1) * syl k) / gcdI (1 * syl k - 1 * (syl k - 1)) ((syl k - 1) * syl k) = syl (k + 1) - 1 := by
  match k, h with
  | 0, _ => decide +kernel
  | 1, _ => decide +kernel
  | 2, _ => decide +kernel
  | 3, _ => decide +kernel
  | 4, _ => decide +kernel
  | k + 5, h => omega
def sylN (k : Int) : Int := if 0 ≤ k ∧ k ≤ 5 then syl k.toNat else 0
def sylB (k : Int) : Bool := decide (0 ≤ k) && decide (k ≤ 5)
end Go.Proofs.YtbjblkfibinenadGreatDoor


/-
  Plain facts on greedy lists: their terms grow, and they are expansions of what they were taken from.
-/
namespace Go.Proofs.YtbjblkfibinenadGreatDoor
open Go.RowKit
/-- each term is greater than d (d - 1), d the one before it -/
def Gr : Int → List Int → Prop
  | _, [] => True
  | lo, x :: xs => lo ≤ x ∧ x ≤ 1000000000 ∧ Gr (x * (x - 1) + 1) xs
theorem Gr.mono {lo lo' : Int} {xs : List Int} (h : Gr lo xs) (hl : lo' ≤ lo) : Gr lo' xs := by
  cases xs with
  | nil => trivial
  | cons x xs => exact ⟨by have := h.1; omega, h.2⟩
theorem sq_mono {x y : Int} (hx : 1 ≤ x) (h : x ≤ y) : x * (x - 1) ≤ y * (y - 1) := Int.mul_le_mul h (by omega) (by omega) (by omega)
theorem Gr.rise {lo : Int} : ∀ {xs : List Int} {q : Int}, 2 ≤ lo → q < lo → 0 ≤ q → Gr lo xs → rise 1 1000000000 (some q) xs = true
  | [], _, _, _, _, _ => rise_nil _ _ _
  | x :: xs, q, h2, hq, _, hg => by
    obtain ⟨a, b, c⟩ := hg
    have := sq_grow (x := x) (by omega)
    rw [rise_next (by omega) b (by omega)]
    exact Gr.rise (lo := x * (x - 1) + 1) (by omega) (by omega) (by omega) c
theorem Gr.len : ∀ (k : Nat) {xs : List Int}, k ≤ 6 → Gr (syl k) xs → xs.length ≤ 6 - k
  | _, [], _, _ => by simp
  | k, x :: xs, hk, ⟨a, b, c⟩ => by
    have h6 := syl6
    have h2 := syl_two k
    have hlt : k < 6 := by
      rcases Nat.lt_or_ge k 6 with h | h
      · exact h
      · obtain rfl : k = 6 := by omega
        omega
    have hm : syl (k + 1) ≤ x * (x - 1) + 1 := by have := sq_mono (by omega : 1 ≤ syl k) a; simp only [syl]; omega
    have := Gr.len (k + 1) (by omega) (c.mono hm)
    simp only [List.length_cons]
    omega
/-- pairs in lowest terms that are the same number are the same pair -/
theorem cop_sameG {n d m e : Int} (d1 : 1 ≤ d) (e1 : 1 ≤ e) (g1 : gcdI n d = 1) (g2 : gcdI m e = 1) (hq : rq n d = rq m e) : n = m ∧ d = e := by
  have hx := eq_rq d1 e1 hq
  have a : d ∣ e := by
    have : d ∣ n * e := by rw [hx]; exact ⟨m, Int.mul_comm _ _⟩
    exact dvd_cop g1 this
  have b : e ∣ d := by
    have : e ∣ m * d := by rw [← hx]; exact ⟨n, Int.mul_comm _ _⟩
    exact dvd_cop g2 this
  have hde : d = e := by
    have := Int.le_of_dvd (by omega) a
    have := Int.le_of_dvd (by omega) b
    omega
  subst hde
  exact ⟨Int.eq_of_mul_eq_mul_right (by omega) hx, rfl⟩
/-- a number that is a fraction is small enough in whatever form -/
theorem redB_same {n d m e : Int} (hd : 1 ≤ d) (hg : goodB m e = true) (hq : rq n d = rq m e) : redB n d = true ∧ redN n d = m ∧ redD n d = e := by
  obtain ⟨m0, m1, e0, e1, g⟩ := (goodB_iff m e).1 hg
  have hgp := gcdI_pos n d (by omega)
  have hd2 := div_pos1 hd (by omega : 1 ≤ gcdI n d) (gcdI_dvdR n d)
  obtain ⟨a, b⟩ := cop_sameG hd2 e0 (gcdI_red hd) g ((red_q hd).trans hq)
  have hr : redB n d = true := redB_yes (by omega) (by omega)
  exact ⟨hr, by rw [redN, if_pos hr, a], by rw [redD, if_pos hr, b]⟩
theorem rq_step {p q x : Int} (hq : 1 ≤ q) (hx : 1 ≤ x) : rq (p * x + q) (q * x) = rq p q + 1 / (x : Rat) := by
  have h1 := ne0 hq
  have h2 := ne0 hx
  unfold rq
  simp only [Rat.intCast_add, Rat.intCast_mul]
  grind
/-- the sums on the way -/
theorem sumL_Gr {n d : Int} (hg : goodB n d = true) (hnd : n ≤ d) : ∀ {xs : List Int} {p q P lo : Int}, goodB p q = true → q ≤ P → 1 ≤ P → P < lo → 2 ≤ lo → Gr lo xs → rq p q + sumQ xs = rq n d → sumL p q xs = some (n, d)
  | [], p, q, P, lo, hpq, _, _, _, _, _, hs => by
    have : rq p q = rq n d := by rw [← hs]; simp only [sumQ]; grind
    obtain ⟨rfl, rfl⟩ := good_same hpq hg this
    rfl
  | x :: xs, p, q, P, lo, hpq, hqP, hP, hPl, h2, ⟨a, b, c⟩, hs => by
    obtain ⟨p0, p1, q0, q1⟩ := good_bounds hpq
    obtain ⟨n0, n1, d0, d1⟩ := good_bounds hg
    have hx : 1 ≤ x := by omega
    have hqx := mul_pos1 q0 hx
    have hst := rq_step (p := p) q0 hx
    have hs' : rq (p * x + q) (q * x) + sumQ xs = rq n d := by rw [hst, ← hs]; simp only [sumQ]; grind
    have hA : 0 ≤ p * x := Int.mul_nonneg p0 (by omega)
    have hall : ∀ {lo : Int} {zs : List Int}, 1 ≤ lo → Gr lo zs → ∀ z ∈ zs, 1 ≤ z := by
      intro lo zs
      induction zs generalizing lo with
      | nil => intro _ _ z hz; cases hz
      | cons y ys ih =>
        intro hl hgr z hz
        obtain ⟨e1, e2, e3⟩ := hgr
        rcases List.mem_cons.1 hz with rfl | hz
        · omega
        · exact ih (by have := Int.mul_nonneg (by omega : 0 ≤ y) (by omega : 0 ≤ y - 1); omega) e3 z hz
    have hle : p * x + q ≤ q * x := by
      have h3 := sumQ_nonneg (hall (by have := Int.mul_nonneg (by omega : 0 ≤ x) (by omega : 0 ≤ x - 1); omega) c)
      have h4 : rq (p * x + q) (q * x) ≤ rq n d := by rw [← hs']; grind
      have h5 := le_rq hqx d0 h4
      have h6 := Int.mul_le_mul_of_nonneg_right hnd (by omega : 0 ≤ q * x)
      rw [Int.mul_comm d] at h6
      exact Int.le_of_mul_le_mul_right (Int.le_trans h5 h6) (by omega)
    have hgp := gcdI_pos (p * x + q) (q * x) (by omega)
    have key : redB (p * x + q) (q * x) = true ∧ (xs = [] ∨ q * x ≤ x * (x - 1)) := by
      cases xs with
      | nil =>
        have : rq (p * x + q) (q * x) = rq n d := by rw [← hs']; simp only [sumQ]; grind
        exact ⟨(redB_same hqx hg this).1, .inl rfl⟩
      | cons y ys =>
        have h7 : q * x ≤ (x - 1) * x := Int.mul_le_mul_of_nonneg_right (by omega) (by omega)
        rw [Int.mul_comm (x - 1)] at h7
        have h8 := c.1
        have h9 := c.2.1
        refine ⟨redB_yes ?_ ?_, .inr h7⟩
        · have := Int.ediv_le_self (gcdI (p * x + q) (q * x)) (by omega : 0 ≤ p * x + q); omega
        · have := Int.ediv_le_self (gcdI (p * x + q) (q * x)) (by omega : 0 ≤ q * x); omega
    rw [sumL_yes key.1]
    have hg' := good_of_redB (by omega : 0 ≤ p * x + q) hqx key.1
    have hs2 : rq (redN (p * x + q) (q * x)) (redD (p * x + q) (q * x)) + sumQ xs = rq n d := by rw [redN_q hqx key.1]; exact hs'
    rcases key.2 with rfl | h7
    · have : rq (redN (p * x + q) (q * x)) (redD (p * x + q) (q * x)) = rq n d := by rw [← hs2]; simp only [sumQ]; grind
      obtain ⟨e1, e2⟩ := good_same hg' hg this
      rw [e1, e2]; rfl
    · refine sumL_Gr hg hnd (P := q * x) hg' ?_ hqx (by omega : q * x < x * (x - 1) + 1) (by have := sq_grow (x := x) (by omega); omega) c hs2
      rw [redD, if_pos key.1]
      exact Int.ediv_le_self _ (by omega)
theorem exp_Gr {n d : Int} {xs : List Int} (hg : goodB n d = true) (hnd : n ≤ d) (h : Gr 2 xs) (hs : sumQ xs = rq n d) : expB xs = true ∧ sumN xs = n ∧ sumD xs = d := by
  have hl := Gr.len 0 (by omega) h
  have hz : rq 0 1 = 0 := by unfold rq; simp only [Rat.intCast_zero, Rat.intCast_one]; grind
  have hs2 : rq 0 1 + sumQ xs = rq n d := by rw [hs, hz]; grind
  have h1 := sumL_Gr hg hnd good_zero (P := 1) (by omega) (by omega) (by omega : (1 : Int) < 2) (by omega) h hs2
  exact ⟨expB_yes (by omega) (by rw [← rise_zero (q := 0) (by omega)]; exact Gr.rise (by omega) (by omega) (by omega) h) h1, sumN_of h1, sumD_of h1⟩
theorem exp_one : expB [1] = true ∧ sumN [1] = 1 ∧ sumD [1] = 1 := by decide +kernel

/-- what a greedy walk leaves -/
theorem greedy_walk : ∀ (k : Nat) {l n d : Int} {es : List (Int × Int × Int)}, goodB n d = true → n < d → walkR (stG pick0) k l n d = some es →
    sumQ (takenOf es) = rq n d ∧ Gr (max 2 (if 1 ≤ n then ucd n d else 2)) (takenOf es)
  | 0, l, n, d, es, hg, hnd, h => by
    by_cases h0 : n ≤ 0
    · rw [walkR_end h0] at h
      injection h with h
      subst h
      have := good_bounds hg
      obtain rfl : n = 0 := by omega
      exact ⟨by simp [takenOf, sumQ, rq]; grind, trivial⟩
    · rw [walkR_out (by omega)] at h; cases h
  | k + 1, l, n, d, es, hg, hnd, h => by
    by_cases h0 : n ≤ 0
    · rw [walkR_end h0] at h
      injection h with h
      subst h
      have := good_bounds hg
      obtain rfl : n = 0 := by omega
      exact ⟨by simp [takenOf, sumQ, rq]; grind, trivial⟩
    · have hn : 0 < n := by omega
      obtain ⟨_, _, d1, _⟩ := good_bounds hg
      obtain ⟨u1, u2, u3, u4⟩ := ucd_facts (by omega : 1 ≤ n) d1
      cases hb : tB n d (ucd n d) with
      | false => rw [walkR_none hn (stG_no (p := pick0) hb)] at h; cases h
      | true =>
        have s1 := stG_yes (p := pick0) (l := l) (n := n) (d := d) hb
        have hp0 : pick0 l n d = ucd n d := rfl
        rw [hp0] at s1
        rw [walkR_some hn s1] at h
        cases hr : walkR (stG pick0) k (ucd n d + 1) (tN n d (ucd n d)) (tD n d (ucd n d)) with
        | none => rw [hr] at h; cases h
        | some es' =>
          rw [hr] at h
          injection h with h
          subst h
          have u5 : 2 ≤ ucd n d := by
            rcases (by omega : ucd n d = 1 ∨ 2 ≤ ucd n d) with h1 | h1
            · rw [h1] at u2; omega
            · exact h1
          have hg' := tB_good d1 u1 hb
          have hgb := good_bounds hg'
          have hlt : tN n d (ucd n d) < tD n d (ucd n d) := by
            obtain ⟨_, _, h3, _, h5, h6⟩ := tB_parts hb
            obtain ⟨hc, hd'⟩ := red_cross (mul_pos1 d1 u1) h3
            rw [← h5, ← h6] at hc
            have h7 : n * ucd n d - d < d * ucd n d := by
              have := Int.mul_le_mul_of_nonneg_right (by omega : n ≤ d) (by omega : 0 ≤ ucd n d)
              omega
            have h8 := Int.mul_lt_mul_of_pos_right h7 (by omega : 0 < tD n d (ucd n d))
            rw [← hc, Int.mul_comm (d * ucd n d)] at h8
            exact Int.lt_of_mul_lt_mul_right h8 (by have := mul_pos1 d1 u1; omega)
          obtain ⟨a, b⟩ := greedy_walk k hg' hlt hr
          have hsq := sq_grow u5
          refine ⟨?_, ?_⟩
          · show 1 / ((ucd n d : Int) : Rat) + sumQ (takenOf es') = rq n d
            rw [a, tN_q d1 u1 hb]
          · rw [if_pos (by omega)]
            refine ⟨by show max 2 (ucd n d) ≤ ucd n d; omega, (tB_parts hb).1, ?_⟩
            show Gr (ucd n d * (ucd n d - 1) + 1) (takenOf es')
            by_cases h1 : 1 ≤ tN n d (ucd n d)
            · have := grow_step hg (by omega) hb h1
              refine b.mono ?_
              rw [if_pos h1]
              omega
            · rw [walkR_end (by omega)] at hr
              injection hr with hr
              subst hr
              trivial
/-- a greedy walk from at most 1 that ends has taken an expansion of where it began -/
theorem greedy_exp {k : Nat} {l n d : Int} {es : List (Int × Int × Int)} (hg : goodB n d = true) (hnd : n ≤ d) (h : walkR (stG pick0) k l n d = some es) : expB (takenOf es) = true ∧ sumN (takenOf es) = n ∧ sumD (takenOf es) = d := by
  by_cases h1 : n < d
  · obtain ⟨a, b⟩ := greedy_walk k hg h1 h
    exact exp_Gr hg hnd (b.mono (by omega)) a
  · obtain rfl : n = d := by omega
    have hg1 := ((goodB_iff n n).1 hg).2.2
    have hn1 : n = 1 := by
      have : gcdI n n = n := by unfold gcdI; rw [Int.gcd_self]; omega
      omega
    subst hn1
    cases k with
    | zero => rw [walkR_out (by omega)] at h; cases h
    | succ k =>
      have e1 : stG pick0 l 1 1 = some (1, 0, 1) := by
        show stG pick0 0 1 1 = _
        decide +kernel
      rw [walkR_some (by omega) e1, walkR_end (by omega)] at h
      injection h with h
      subst h
      exact exp_one
end Go.Proofs.YtbjblkfibinenadGreatDoor


/-
  Plain facts on the numerators of greedy walks.
-/
namespace Go.Proofs.YtbjblkfibinenadGreatDoor
open Go.RowKit
theorem walkR_at {st : Stp} : ∀ {k m : Nat} {l n d : Int} {es : List (Int × Int × Int)}, walkR st k l n d = some es → es.length ≤ m → walkR st m l n d = some es
  | 0, m, l, n, d, es, h, hm => by
    by_cases h0 : n ≤ 0
    · rw [walkR_end h0] at h ⊢; exact h
    · rw [walkR_out (by omega)] at h; cases h
  | k + 1, m, l, n, d, es, h, hm => by
    by_cases h0 : n ≤ 0
    · rw [walkR_end h0] at h ⊢; exact h
    · have hn : 0 < n := by omega
      cases hs : st l n d with
      | none => rw [walkR_none hn hs] at h; cases h
      | some p =>
        obtain ⟨t, n', d'⟩ := p
        rw [walkR_some hn hs] at h
        cases hr : walkR st k (t + 1) n' d' with
        | none => rw [hr] at h; cases h
        | some es' =>
          rw [hr] at h
          injection h with h
          subst h
          cases m with
          | zero => simp at hm
          | succ m =>
            rw [walkR_some hn hs, walkR_at hr (by simpa using hm)]
            rfl
/-- the numerators of a greedy walk fall -/
theorem greedy_len : ∀ {k : Nat} {l n d : Int} {es : List (Int × Int × Int)}, goodB n d = true → walkR (stG pick0) k l n d = some es → (es.length : Int) ≤ n
  | 0, l, n, d, es, hg, h => by
    by_cases h0 : n ≤ 0
    · rw [walkR_end h0] at h
      injection h with h
      subst h
      have := (good_bounds hg).1
      simpa using this
    · rw [walkR_out (by omega)] at h; cases h
  | k + 1, l, n, d, es, hg, h => by
    by_cases h0 : n ≤ 0
    · rw [walkR_end h0] at h
      injection h with h
      subst h
      have := (good_bounds hg).1
      simpa using this
    · have hn : 0 < n := by omega
      obtain ⟨_, _, d1, _⟩ := good_bounds hg
      obtain ⟨u1, _⟩ := ucd_facts (by omega : 1 ≤ n) d1
      cases hb : tB n d (ucd n d) with
      | false => rw [walkR_none hn (stG_no (p := pick0) hb)] at h; cases h
      | true =>
        have s1 := stG_yes (p := pick0) (l := l) (n := n) (d := d) hb
        have hp0 : pick0 l n d = ucd n d := rfl
        rw [hp0] at s1
        rw [walkR_some hn s1] at h
        cases hr : walkR (stG pick0) k (ucd n d + 1) (tN n d (ucd n d)) (tD n d (ucd n d)) with
        | none => rw [hr] at h; cases h
        | some es' =>
          rw [hr] at h
          injection h with h
          subst h
          have := greedy_len (tB_good d1 u1 hb) hr
          have := tN_less hg (by omega) hb
          simp only [List.length_cons]
          omega
/-- below 1 the walk has few steps -/
theorem greedy_six {k : Nat} {l n d : Int} {es : List (Int × Int × Int)} (hg : goodB n d = true) (hnd : n < d) (h : walkR (stG pick0) k l n d = some es) : es.length ≤ 6 := by
  obtain ⟨_, b⟩ := greedy_walk k hg hnd h
  have := Gr.len 0 (by omega) (b.mono (show syl 0 ≤ _ by simp only [syl]; omega))
  rw [takenOf_len] at this
  omega
/-- whether so many steps are allowed as the numerator tells, or 24 -/
theorem greedy_24 {l n d : Int} (hg : goodB n d = true) (hnd : n < d) : walkR (stG pick0) n.toNat l n d = walkR (stG pick0) 24 l n d := by
  cases h : walkR (stG pick0) 24 l n d with
  | some es => exact walkR_at h (by have := greedy_len hg h; omega)
  | none =>
    cases h2 : walkR (stG pick0) n.toNat l n d with
    | none => rfl
    | some es => rw [walkR_at h2 (by have := greedy_six hg hnd h2; omega)] at h; cases h
theorem ucd_two {n d : Int} (hn : 1 ≤ n) (hnd : n < d) : 2 ≤ ucd n d := by
  obtain ⟨u1, u2, _, _⟩ := ucd_facts hn (by omega : 1 ≤ d)
  rcases (by omega : ucd n d = 1 ∨ 2 ≤ ucd n d) with h | h
  · rw [h] at u2; omega
  · exact h
theorem syl_grow {k : Nat} {u v : Int} (h : syl k ≤ u) (hv : u * (u - 1) < v) : syl (k + 1) ≤ v := by
  have h2 := syl_two k
  have := sq_mono (by omega : 1 ≤ syl k) h
  simp only [syl]
  omega
theorem syl_five {k : Nat} (hk : k ≤ 6) {u : Int} (h : syl k ≤ u) (hu : u ≤ 1000000000) : k ≤ 5 := by
  have h6 := syl6
  rcases Nat.lt_or_ge k 6 with h1 | h1
  · omega
  · obtain rfl : k = 6 := by omega
    omega
end Go.Proofs.YtbjblkfibinenadGreatDoor


/-
  Contracts of the numerators of greedy steps, in the program and in the model.
-/
namespace Go.Proofs.YtbjblkfibinenadGreatDoor
open Go.RowKit
def numsOf (n : Int) (es : List (Int × Int × Int)) : List Int := n :: es.map (·.2.1)
def nmO (n d : Int) : Option (List Int) := if belowB n d = true then (walkR (stG pick0) 24 0 n d).map (numsOf n) else none
theorem nmO_len (n d : Int) : ((nmO n d).getD []).length ≤ 25 := by
  unfold nmO
  split
  · cases h : walkR (stG pick0) 24 0 n d with
    | none => simp
    | some es =>
      have := (walkR_more h).2
      simp [numsOf]
      omega
  · simp
theorem OwnI.oneLit (w : World) (base : Nat) (x : Int) (hb : base ≤ w.heap.size) : OwnI (w.alloc (.cells #[.int .i64 x] 3)) base (.slice (some ⟨w.heap.size, 0, none⟩) 1 1) [x] :=
  World.ownsRow_lit w #[.int .i64 x] 1 hb (by unfold maxLen; omega) rfl
def numAt (g : Nat) (w : World) : Nat := match w.cell? ⟨g, 0, none⟩ with | some (.int _ n) => n.toNat | _ => 0
end Go.Proofs.YtbjblkfibinenadGreatDoor
