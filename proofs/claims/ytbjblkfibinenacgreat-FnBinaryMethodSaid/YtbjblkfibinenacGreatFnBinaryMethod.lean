import Derived.Test.YtbjblkfibinenacGreatDraw
import Derived.Test.YtbjblkfibinenacGreatSum2
import Derived.Test.YtbjblkfibinenacGreatHas
import Derived.Test.YtbjblkfibinenacGreatShell
import Derived.Deep.OwnRows
import Derived.Test.YtbjblkfibinenacGreatBinQ
import Derived.Test.YtbjblkfibinenacGreatRq
import Derived.Test.YtbjblkfibinenacGreatLists
import Derived.Test.YtbjblkfibinenacGreatBinX

/-
  Contracts of the laws' own helpers.
-/
namespace Go.Proofs.YtbjblkfibinenacGreat
open Go.RowKit
def bigB (n m : Nat) : Bool := decide (1048576 < n) || decide (1048576 < n + m)
theorem big_any (w : World) (A B : Option Addr) (n m c d : Nat) (hn : n ≤ 9223372036854775807) (_ : m ≤ 9223372036854775807) : Calls Tryz.prog 4 #[.slice A n c, .slice B m d] w (RetQ (.bool (bigB n m)) w) := by
  by_cases h : 1048576 < n
  · have h1 : 1048576 < (n : Int) := by omega
    have E : Hid (bigB n m = true) := by show bigB n m = true; simp [bigB, h]
    go_enter Tryz.func4, Tryz.ntmps4
    go_wp2
    go_ret
    exact ⟨ret_bool (by first | (rw [E.out]; done) | (rw [E.out]; simp; done) | (rw [E.out]; simp; omega)), 0, rfl⟩
  · have h1 : ¬ 1048576 < (n : Int) := by omega
    have h2 : (n : Int) ≤ 1048576 := by omega
    have E : Hid (bigB n m = decide (1048576 - (n : Int) < m)) := by
      show bigB n m = _
      rw [Bool.eq_iff_iff]; simp [bigB, h]; omega
    go_enter Tryz.func4, Tryz.ntmps4
    go_wp2
    go_ret
    exact ⟨ret_bool (by first | (rw [E.out]; done) | (rw [E.out]; simp; done) | (rw [E.out]; simp; omega)), 0, rfl⟩
set_option maxHeartbeats 1000000 in
theorem pSame_same (w : World) (A B : Option Addr) (c d : Nat) (xs : List Int) (ha : Reads w A xs) (hb : Reads w B xs) (hl : xs.length ≤ 1048576) :
    Calls Tryz.prog 10 #[.slice A xs.length c, .slice B xs.length d] w (RetQ (.bool true) w) := by
  go_enter Tryz.func10, Tryz.ntmps10
  go_wp2
  go_loopw [13] (fun v5 wr => ∃ k : Nat, k ≤ xs.length ∧ v5 = .int .i64 k ∧ ∃ n, wr = w.drewN n) (fun v5 _ => xs.length - (intOf v5).toNat)
  case atStart => exact ⟨0, Nat.zero_le _, rfl, 0, rfl⟩
  case round =>
    obtain ⟨k, hk, rfl, n, rfl⟩ := hrel
    by_cases hlt : k < xs.length
    · obtain ⟨b, o, x, rfl, _, hx, hcell⟩ := ha.at_ hlt
      obtain ⟨b', o', x', rfl, _, hx', hcell'⟩ := hb.at_ hlt
      obtain rfl : x = x' := by rw [hx] at hx'; injection hx'
      have hki : (k : Int) < (xs.length : Int) := by omega
      clear hx hx' ha hb
      go_wp2
      go_quiet (fail)
      go_wp2
      go_roundw
      case rel => exact ⟨k + 1, by omega, by go_num, _, rfl⟩
      case measure => simp [intOf]; omega
    · go_wp2
      go_ret
      exact ⟨rfl, n, rfl⟩
theorem pSums_yes (w : World) (n d : Int) (Axs : Option Addr) (cxs : Nat) (xs : List Int) (hxs : Reads w Axs xs) (lxs : xs.length ≤ 1048576) (r64 : ∀ (i : Nat) (x : Int), xs[i]? = some x → -9223372036854775808 ≤ x ∧ x ≤ 9223372036854775807) (h : expB xs = true) (hn : eN xs = n) (hd : eD xs = d) : Calls Tryz.prog 11 #[.slice Axs xs.length cxs, .agg #[.int .i64 n, .int .i64 d]] w (Ret (.bool true) w) := by
  have Hxs := Lib.hid hxs
  have Hr64 := Lib.hid r64
  have Hn := Lib.hid hn
  have Hd := Lib.hid hd
  have H := Lib.hid h
  clear hxs r64 hn hd h
  go_enter Tryz.func11, Tryz.ntmps11
  go_wp2_with fail
  refine (sumOf_any _ _ _ _ (Hxs.out.below (by (repeat' (first | (with_reducible exact Below.refl _ _) | (with_reducible assumption) | (with_reducible refine Below.drew ?_) | (with_reducible refine belowDrewN ?_ _) | (with_reducible refine Below.alloc ?_ ?_ _) | (with_reducible refine Below.setCell ?_ ?_ _) | (with_reducible refine belowStep (by assumption) ?_ ?_) | (with_reducible exact Below.size (by assumption)) | go_size)))) lxs Hr64.out).mono ?_; rintro e w1 ⟨rfl, hb1⟩; have hz1 := hb1.size; (try simp only [World.size_alloc] at hz1)
  rw [Hn.out, Hd.out, H.out]
  obtain ⟨hc1, hf1⟩ := bcellB hb1; have hz1 := hb1.size; (try simp only [World.size_alloc] at hc1 hf1 hz1); (try have hy1_r_0 : wr.heap.size < w1.heap.size := by omega); (try have hn1_r_0 : wr.heap.size ≠ w1.heap.size := by omega); (try have hm1_r_0 : w1.heap.size ≠ wr.heap.size := by omega); (try have hy1_r_1 : wr.heap.size + 1 < w1.heap.size := by omega); (try have hn1_r_1 : wr.heap.size + 1 ≠ w1.heap.size := by omega); (try have hm1_r_1 : w1.heap.size ≠ wr.heap.size + 1 := by omega); (try have hy1_r_2 : wr.heap.size + 1 + 1 < w1.heap.size := by omega); (try have hp1_r_1 : wr.heap.size < w1.heap.size + 1 := by omega); (try have hp1_r_2 : wr.heap.size < w1.heap.size + 1 + 1 := by omega); (try have hy1_0_0 : w.heap.size < w1.heap.size := by omega); (try have hn1_0_0 : w.heap.size ≠ w1.heap.size := by omega); (try have hm1_0_0 : w1.heap.size ≠ w.heap.size := by omega); (try have hy1_0_1 : w.heap.size + 1 < w1.heap.size := by omega); (try have hn1_0_1 : w.heap.size + 1 ≠ w1.heap.size := by omega); (try have hm1_0_1 : w1.heap.size ≠ w.heap.size + 1 := by omega); (try have hy1_0_2 : w.heap.size + 1 + 1 < w1.heap.size := by omega); (try have hp1_0_1 : w.heap.size < w1.heap.size + 1 := by omega); (try have hp1_0_2 : w.heap.size < w1.heap.size + 1 + 1 := by omega); (try have hg1_g1 : g1 < w1.heap.size := by omega); (try have hi1_g1 : g1 ≠ w1.heap.size := by omega); (try have hj1_g1 : w1.heap.size ≠ g1 := by omega); (try have hk1_g1 : g1 < w1.heap.size + 1 := by omega); (try have hg1_g2 : g2 < w1.heap.size := by omega); (try have hi1_g2 : g2 ≠ w1.heap.size := by omega); (try have hj1_g2 : w1.heap.size ≠ g2 := by omega); (try have hk1_g2 : g2 < w1.heap.size + 1 := by omega)
  go_wp2
  go_ret
  exact ⟨rfl, by (repeat' (first | (with_reducible exact Below.refl _ _) | (with_reducible assumption) | (with_reducible refine Below.drew ?_) | (with_reducible refine belowDrewN ?_ _) | (with_reducible refine Below.alloc ?_ ?_ _) | (with_reducible refine Below.setCell ?_ ?_ _) | (with_reducible refine belowStep (by assumption) ?_ ?_) | (with_reducible exact Below.size (by assumption)) | go_size))⟩
open Go.ChangeShapes Go.WideShapes Go.ChangeAt Go.Joins Go.Deep
section
variable {H : Type} {enc : TypeId × Value → H} {P : Program}
/-- A slice of bytes: nil, empty or not, one way. -/
theorem open_bytes_reads {W : World} {r : Reach} {b0 : Nat} {t ti : TypeId} {v : Value} {d : DataW H} {p : List MemPlace} (ht : P.underlying t = some (.slice ti)) (hti : P.underlying ti = some (.int .u8)) (hC : P.cellsOf ti = 1)
    (hv : Value.okWide P W r b0 t v) (h : DataW.Trod enc P W 0 (fun _ => true) true t v d p) (hlt : ∀ y ∈ p, y.block < W.heap.size) :
    ∃ (A : Option Addr) (c : Nat) (n : Nat), v = .slice A n c ∧ (ReadsB W A n ∧ n ≤ 9223372036854775807) := by
  obtain ⟨a0, len, cap, rfl⟩ := okWide_slice ht hv
  obtain ⟨fuel, hf⟩ := h
  rcases open_ints ht hti hC hf with ⟨hcs, _⟩ | ⟨a, len', cap', zs, hcs, _, hl, hm, hz, hx, hcell, hw⟩
  · simp [Value.cells] at hcs
    obtain ⟨rfl, rfl, rfl⟩ := hcs
    exact ⟨none, 0, 0, rfl, fun h0 => by omega, by omega⟩
  · simp [Value.cells] at hcs
    obtain ⟨rfl, rfl, rfl⟩ := hcs
    simp only [if_true] at hz
    unfold maxLen at hm
    refine ⟨some a, cap, len, rfl, fun h0 => ?_, by omega⟩
    obtain ⟨b, o, spot⟩ := a
    have hspot : spot = none := by simpa [Addr.add] using World.cell?_spot (hcell 0 (by omega))
    subst hspot
    refine ⟨b, o, rfl, ?_, fun i hi => ?_⟩
    · simp only [Prod.mk.injEq] at hx
      exact hlt (.cell b o) (by rw [hx.2]; exact MemPlace.mem_row.2 ⟨0, by omega, by simp⟩)
    · have hc := hcell i (by omega)
      have hb := range_u8 hw i
      refine ⟨zs.getD i 0, by simpa [Go.WideShapes.add_plain] using hc, ?_⟩
      simpa [List.getD] using hb
end
end Go.Proofs.YtbjblkfibinenacGreat


/-
  Contracts of what draws fractions up to 1, yes or no, and lists of numbers: whatever the bytes are, numbers that fit are handed out, and only the cursor has changed.
-/
namespace Go.Proofs.YtbjblkfibinenacGreat
open Go.RowKit
theorem beginP (w : World) (A : Option Addr) (n c : Nat) (T : TypeId) (hr : ReadsB w A n) (hn : n ≤ 1048576) : Cur w (w.alloc (.cells #[.slice A n c, .int .i64 0, .int .u64 0] T)) w.heap.size 0 :=
  ⟨Nat.le_refl _, by simp, (Below.refl _ _).alloc (Nat.le_refl _) _, A, n, c, 0, 0, (by simp), hn, hr, (by simp), by omega, by omega, (by simp), by simp [go_sem], by simp [go_sem]⟩
theorem oneP_any (w0 w : World) (g n : Nat) (hn : n ≤ 1000000) (m : Int) (hm : m ≤ 1000000000) (h : Cur w0 w g n) : Calls Tryz.prog 20 #[.pointer (some ⟨g, 0, none⟩), .int .i64 m] w (fun e w' => ∃ b : Bool, e = .returned (.bool b) ∧ Cur w0 w' g (n + 2) ∧ w.grownBy w' (some g)) := by
  have HC := Lib.hid h
  clear h
  go_enter Tryz.func20, Tryz.ntmps20
  go_wp2_with fail
  refine (pick_any w0 _ _ n hn _ hm HC.out).mono ?_; rintro e w1 ⟨x, rfl, x0, x1, hc1, hg1⟩
  have HC1 := Lib.hid hc1
  have Hg1 := Lib.hid hg1
  clear hc1 hg1
  go_wp2
  go_ret
  exact ⟨_, rfl, HC1.out, Hg1.out⟩
set_option maxHeartbeats 4000000 in
theorem proper_any (w0 w : World) (g n : Nat) (hn : n ≤ 10000) (h : Cur w0 w g n) : Calls Tryz.prog 12 #[.pointer (some ⟨g, 0, none⟩)] w (DrawF w0 w g (n + 30)) := by
  have HC := Lib.hid (h.below ((Below.refl _ _).alloc (Nat.le_refl _) (.cells #[.int .i64 0, .int .i64 0] 25)))
  obtain ⟨b1, b2, b3⟩ := h.base
  clear h
  have T0 := Lib.hid (TwoAt.new w 0 0 25)
  go_enter Tryz.func12, Tryz.ntmps12
  go_wp2_with fail
  refine (oneP_any w0 _ g n (by omega) _ (by omega) HC.out).mono ?_; rintro e w1 ⟨o, rfl, hc1, hg1⟩
  have HC1 := Lib.hid hc1
  have T1 := Lib.hid (T0.out.grown hg1 (by omega))
  have Hg1 := Lib.hid ((grownAlloc (World.grownBy.refl w (some g)) (Nat.le_refl _) _).trans hg1)
  have hz1 := hg1.size
  simp only [World.size_alloc] at hz1
  clear hc1 hg1
  cases o with
  | true =>
    go_wp2_with fail
    refine (fraction_any w0 _ g (n + 2) (by omega) HC1.out).mono ?_; rintro e w2 ⟨a, b, rfl, ha, hb, hc2, hg2⟩
    have HC2 := Lib.hid hc2
    have Hg2 := Lib.hid (Hg1.out.trans hg2)
    have hz2 := hg2.size
    obtain ⟨t1, t2, t3, t4, t5⟩ := T1.out.grown hg2 (by omega)
    clear hc2 hg2
    go_wp2
    refine bodyPost_ret (by simp [results, Tryz.results12, go_sem, *]; try rfl) rfl ?_
    exact ⟨a, b, rfl, ha, hb, ((HC2.out.more (by omega)).set (by omega) (by omega) _ _).set (by omega) (by omega) _ _, grownSetNew (grownSetNew Hg2.out (Nat.le_refl _) _ _) (Nat.le_refl _) _ _⟩
  | false =>
    go_wp2_with fail
    refine (pick_any w0 _ _ (n + 2) (by omega) _ (by omega) HC1.out).mono ?_; rintro e w2 ⟨p, rfl, p0, p1, hc2, hg2⟩
    have HC2 := Lib.hid hc2
    have T2 := Lib.hid (T1.out.grown hg2 (by omega))
    have Hg2 := Lib.hid (Hg1.out.trans hg2)
    have hz2 := hg2.size
    clear hc2 hg2
    go_wp2_with fail
    refine (pick_any w0 _ _ (n + 4) (by omega) _ (by omega) HC2.out).mono ?_; rintro e w3 ⟨q, rfl, q0, q1, hc3, hg3⟩
    have HC3 := Lib.hid hc3
    have T3 := Lib.hid (T2.out.grown hg3 (by omega))
    have Hg3 := Lib.hid (Hg2.out.trans hg3)
    have hz3 := hg3.size
    clear hc3 hg3
    go_wp2_with fail
    refine (unMake_any _ _ _ (by omega) (by omega) (by omega) (by omega)).mono ?_; rintro e w4 ⟨rfl, hb4⟩
    have hsm := red_small (x := 1 + q) (y := 2 + p) (by omega) (by omega) (by omega) (by omega)
    generalize (1 + q) / gcdI (1 + q) (2 + p) = a at *
    generalize (2 + p) / gcdI (1 + q) (2 + p) = b at *
    have Hsm := Lib.hid hsm
    have HC4 := Lib.hid (HC3.out.below hb4)
    have Hg4 := Lib.hid (grownBelow Hg3.out (by omega) hb4)
    obtain ⟨t1, t2, t3, t4, t5⟩ := T3.out.below hb4
    have hz4 := hb4.size
    clear hsm hb4
    go_wp2
    refine bodyPost_ret (by simp [results, Tryz.results12, go_sem, *]; try rfl) rfl ?_
    exact ⟨a, b, rfl, Hsm.out.1, Hsm.out.2, ((HC4.out.more (by omega)).set (by omega) (by omega) _ _).set (by omega) (by omega) _ _, grownSetNew (grownSetNew Hg4.out (Nat.le_refl _) _ _) (Nat.le_refl _) _ _⟩
theorem OwnI.atRow {w : World} {base g k : Nat} (hb : base ≤ g) (hk : k ≤ 1000) (h : w.heap[g]? = some (.cells (madeCells #[.int .i64 0] k) 3)) : OwnI w base (.slice (some ⟨g, 0, none⟩) k k) (List.replicate k 0) := by
  unfold OwnI
  rw [List.length_replicate]
  refine ⟨by simp, .inr ⟨g, k, _, rfl, hb, h, Nat.le_refl _, by unfold maxLen; omega, by simp [madeCells], ?_⟩⟩
  rw [toList_madeCells_one, Nat.mul_one, List.map_replicate]
  exact List.take_of_length_le (by simp)
/-- a list of the call's own has been drawn -/
def DrawnL (w : World) (e : Ending) (w' : World) : Prop := ∃ v zs, e = .returned v ∧ OwnI w' w.heap.size v zs ∧ zs.length ≤ 40 ∧ (∀ z ∈ zs, -9223372036854775808 ≤ z ∧ z ≤ 9223372036854775807) ∧ Below w.heap.size w w'
end Go.Proofs.YtbjblkfibinenacGreat


/-
  Plain facts on the terms of the method by binary digits: their sum, their number, and their bound.
-/
namespace Go.Proofs.YtbjblkfibinenacGreat
open Go.RowKit
set_option maxRecDepth 100000 in
set_option maxHeartbeats 2000000 in
theorem drawBinary_any (w : World) (A : Option Addr) (n c : Nat) (hr : ReadsB w A n) (hn : n ≤ 1048576) : Calls Tryz.prog 5 #[.slice A n c] w (fun e w' => ∃ a b : Int, e = .returned (.agg #[.int .i64 a, .int .i64 b]) ∧ (-9223372036854775808 ≤ a ∧ a ≤ 9223372036854775807) ∧ (-9223372036854775808 ≤ b ∧ b ≤ 9223372036854775807) ∧ Below w.heap.size w w') := by
  have T0 := Lib.hid (TwoAt.new w 0 0 25)
  have hc0 := beginP (w.alloc (.cells #[.int .i64 0, .int .i64 0] 25)) A n c 37 (hr.below ((Below.refl _ _).alloc (Nat.le_refl _) _)) hn
  rw [World.size_alloc] at hc0
  have HC0 := Lib.hid hc0
  clear hr hc0
  go_enter Tryz.func5, Tryz.ntmps5
  go_wp2_with fail
  refine (proper_any (w.alloc (.cells #[.int .i64 0, .int .i64 0] 25)) _ (w.heap.size + 1) 0 (by omega) HC0.out).mono ?_; rintro e w2 ⟨a, b, rfl, ha, hb, hc2, hg2⟩
  have hbs := hc2.base.2.2
  have hz2 := hg2.size
  simp only [World.size_alloc] at hz2
  obtain ⟨t1, t2, t3, t4, t5⟩ := T0.out.below hbs
  have hbw : Below w.heap.size w w2 := by (repeat' (first | (with_reducible exact Below.refl _ _) | (with_reducible assumption) | (with_reducible refine Below.drew ?_) | (with_reducible refine belowDrewN ?_ _) | (with_reducible refine Below.alloc ?_ ?_ _) | (with_reducible refine Below.setCell ?_ ?_ _) | (with_reducible refine belowStep (by assumption) ?_ ?_) | (with_reducible exact Below.size (by assumption)) | go_size))
  clear hc2 hg2 hbs
  go_wp2
  refine bodyPost_ret (by simp [results, Tryz.results5, go_sem, *]; try rfl) rfl ?_
  exact ⟨a, b, rfl, ha, hb, (hbw.setCell (Nat.le_refl _) _).setCell (Nat.le_refl _) _⟩
theorem sumQ_perm {xs ys : List Int} (h : xs.Perm ys) : sumQ xs = sumQ ys := by
  induction h with
  | nil => rfl
  | cons x _ ih => show 1 / (x : Rat) + sumQ _ = 1 / (x : Rat) + sumQ _; rw [ih]
  | swap x y l => show 1 / (y : Rat) + (1 / (x : Rat) + sumQ l) = 1 / (x : Rat) + (1 / (y : Rat) + sumQ l); grind
  | trans _ _ i1 i2 => exact i1.trans i2
theorem rq_add {a b d : Int} (hd : 1 ≤ d) : rq a d + rq b d = rq (a + b) d := by
  have := ne0 hd
  unfold rq
  rw [Rat.intCast_add]
  grind
theorem hvL_sum : ∀ (k : Nat) {m c : Int} {J : Nat}, 0 ≤ m → m < 2 ^ k → m < 2 ^ J → 1 ≤ c → sumQ (hvL k m (c * 2 ^ J)) = rq m (c * 2 ^ J)
  | 0, m, c, J, h0, h1, _, _ => by
    simp at h1
    obtain rfl : m = 0 := by omega
    show (0 : Rat) = _
    unfold rq
    grind
  | k + 1, m, c, J, h0, h1, h2, hc => by
    by_cases hm : m ≤ 0
    · obtain rfl : m = 0 := by omega
      rw [hvL_end (by omega)]
      show (0 : Rat) = _
      unfold rq
      grind
    · cases J with
      | zero => simp at h2; omega
      | succ j =>
        have hp : (2 : Int) ^ (j + 1) = 2 ^ j * 2 := Int.pow_succ _ _
        have hpk : (2 : Int) ^ (k + 1) = 2 ^ k * 2 := Int.pow_succ _ _
        have hpj := pow_pos' j
        have he : c * 2 ^ (j + 1) / 2 = c * 2 ^ j := by
          rw [hp, ← Int.mul_assoc]
          exact Int.mul_ediv_cancel _ (by omega)
        have ih := hvL_sum k (m := m / 2) (c := c) (J := j) (by omega) (by omega) (by omega) hc
        have hcj := mul_pos1 hc hpj
        have hcj2 := mul_pos1 hc (pow_pos' (j + 1))
        have e1 : rq (m / 2) (c * 2 ^ j) = rq (2 * (m / 2)) (c * 2 ^ (j + 1)) := rq_eq hcj hcj2 (by rw [hp]; grind)
        by_cases ho : m % 2 = 1
        · rw [hvL_odd (by omega) ho, he]
          show 1 / ((c * 2 ^ (j + 1) : Int) : Rat) + sumQ _ = _
          rw [ih, e1]
          have e2 : (1 : Rat) / ((c * 2 ^ (j + 1) : Int) : Rat) = rq 1 (c * 2 ^ (j + 1)) := by unfold rq; simp
          rw [e2, rq_add hcj2]
          congr 1
          omega
        · rw [hvL_even (by omega) ho, he, ih, e1]
          congr 1
          omega
theorem bL_sum {n d : Int} (hp : proB n d = true) : sumQ (bL n d) = rq n d := by
  obtain ⟨J, B⟩ := binS hp
  obtain ⟨hg, hn, hd⟩ := (proB_iff n d).1 hp
  obtain ⟨_, _, d1, d2⟩ := good_bounds hg
  have hN := B.N
  have N1 := B.N1
  have s0 := B.s0
  have s1 := B.s1
  have r0 := B.r0
  have r1 := B.r1
  have dN := B.dN
  have he := B.e
  have h31 : (2 : Int) ^ J ≤ 2 ^ 31 := by
    rw [pow_split B.J31]
    have h1 := pow_pos' (31 - J)
    have h2 := pow_pos' J
    have := Int.mul_le_mul_of_nonneg_left h1 (show 0 ≤ (2 : Int) ^ J by omega)
    omega
  have a := hvL_sum 31 (m := n * p2 d / d) (c := 1) (J := J) s0 (by omega) (by omega) (by omega)
  have b := hvL_sum 31 (m := n * p2 d % d) (c := d) (J := J) r0 (by omega) (by omega) d1
  rw [Int.one_mul, ← hN] at a
  rw [← hN] at b
  have hdN := mul_pos1 d1 N1
  unfold bL
  rw [sumQ_append, a, b]
  have e1 : rq (n * p2 d / d) (p2 d) = rq (d * (n * p2 d / d)) (d * p2 d) := rq_eq N1 hdN (by grind)
  rw [e1, rq_add hdN, he]
  exact rq_eq hdN d1 (by grind)
/-- the number of digits 1 -/
def pc : Nat → Int → Int
  | 0, _ => 0
  | k + 1, m => if m ≤ 0 then 0 else m % 2 + pc k (m / 2)
theorem pc_end {k : Nat} {m : Int} (h : m ≤ 0) : pc k m = 0 := by
  cases k with
  | zero => rfl
  | succ k => exact if_pos h
theorem pc_more {k : Nat} {m : Int} (h : 0 < m) : pc (k + 1) m = m % 2 + pc k (m / 2) := if_neg (by omega)
theorem hvL_pc : ∀ (k : Nat) (m e : Int), ((hvL k m e).length : Int) = pc k m
  | 0, m, e => rfl
  | k + 1, m, e => by
    by_cases hm : m ≤ 0
    · rw [hvL_end hm, pc_end hm]; rfl
    · have ih := hvL_pc k (m / 2) (e / 2)
      rw [pc_more (by omega)]
      by_cases ho : m % 2 = 1
      · rw [hvL_odd (by omega) ho, List.length_cons]; omega
      · rw [hvL_even (by omega) ho]; omega
theorem pc_in : ∀ (k : Nat) (m : Int), 0 ≤ pc k m ∧ pc k m ≤ k
  | 0, m => by simp [pc]
  | k + 1, m => by
    have ih := pc_in k (m / 2)
    by_cases hm : m ≤ 0
    · rw [pc_end hm]; omega
    · rw [pc_more (by omega)]; omega
theorem bL_len (n d : Int) : ((bL n d).length : Int) = pc 31 (n * p2 d / d) + pc 31 (n * p2 d % d) := by
  unfold bL
  rw [List.length_append]
  have a := hvL_pc 31 (n * p2 d / d) (p2 d)
  have b := hvL_pc 31 (n * p2 d % d) (d * p2 d)
  omega
theorem bL_le {n d : Int} (hp : proB n d = true) : ∀ x ∈ bL n d, x ≤ d * p2 d := fun x hx => by
  obtain ⟨J, B⟩ := binS hp
  obtain ⟨hg, hn, hd⟩ := (proB_iff n d).1 hp
  obtain ⟨_, _, d1, d2⟩ := good_bounds hg
  have N1 := B.N1
  have hdN1 : 1 * p2 d ≤ d * p2 d := Int.mul_le_mul_of_nonneg_right d1 (by omega)
  unfold bL at hx
  rcases List.mem_append.1 hx with h | h
  · have := hvL_mem 31 (m := n * p2 d / d) (e := p2 d) (by omega) x h
    omega
  · have := hvL_mem 31 (m := n * p2 d % d) (e := d * p2 d) (by omega) x h
    omega
/-- of the expansion, if it is told -/
theorem bL_exp {n d : Int} (hp : proB n d = true) (h : expB (srt (bL n d)) = true) : eN (srt (bL n d)) = n ∧ eD (srt (bL n d)) = d := by
  have hq := sum_q h
  rw [sumQ_perm (srt_perm _), bL_sum hp] at hq
  have e1 : eN (srt (bL n d)) = sumN (srt (bL n d)) := if_pos h
  have e2 : eD (srt (bL n d)) = sumD (srt (bL n d)) := if_pos h
  have := good_same (good_sum h) ((proB_iff n d).1 hp).1 hq
  rw [e1, e2]
  exact this
end Go.Proofs.YtbjblkfibinenacGreat


/-
  Contracts of functions that tell whether two lists are the same.
-/
namespace Go.Proofs.YtbjblkfibinenacGreat
open Go.RowKit
set_option maxHeartbeats 2000000 in
theorem pSame_any (w : World) (A B : Option Addr) (c d : Nat) (xs ys : List Int) (ha : Reads w A xs) (hb : Reads w B ys) (hl : xs.length ≤ 1048576) (_ : ys.length ≤ 1048576) :
    Calls Tryz.prog 10 #[.slice A xs.length c, .slice B ys.length d] w (RetQ (.bool (decide (xs = ys))) w) := by
  have HA := Lib.hid ha
  have HB := Lib.hid hb
  clear ha hb
  by_cases hlen : xs.length = ys.length
  · have h1 : xs.length ≤ ys.length := by omega
    have h2 : ys.length ≤ xs.length := by omega
    have Hlen := Lib.hid hlen
    have hne : (((xs.length : Nat) : Int) != ((ys.length : Nat) : Int)) = false := by simp; omega
    clear hlen
    go_enter Tryz.func10, Tryz.ntmps10
    go_wp2
    go_loopw [13] (fun v13 wr => ∃ k : Nat, k ≤ xs.length ∧ v13 = .int .i64 k ∧ xs.take k = ys.take k ∧ ∃ n, wr = w.drewN n) (fun v13 _ => xs.length - (intOf v13).toNat)
    case atStart => exact ⟨0, Nat.zero_le _, rfl, by simp, 0, rfl⟩
    case round =>
      obtain ⟨k, hk, rfl, ht, n, rfl⟩ := hrel
      have HT := Lib.hid ht
      clear ht
      by_cases hlt : k < xs.length
      · obtain ⟨b, o, x, rfl, _, hx, hcell⟩ := HA.out.at_ hlt
        obtain ⟨b', o', y, rfl, _, hy, hcell'⟩ := HB.out.at_ (show k < ys.length by omega)
        have hki : (k : Int) < (xs.length : Int) := by omega
        have hki2 : (k : Int) < (ys.length : Int) := by omega
        by_cases hxy : x = y
        · subst hxy
          have HT2 : Hid (xs.take (k + 1) = ys.take (k + 1)) := Lib.hid (by
            rw [List.take_add_one, List.take_add_one, HT.out, hx, hy])
          clear hx hy
          go_wp2
          go_quiet (fail)
          go_wp2
          go_roundw
          case rel => exact ⟨k + 1, by omega, by go_num, HT2.out, _, rfl⟩
          case measure => simp [intOf]; omega
        · have E : Hid (decide (xs = ys) = false) := Lib.hid (by
            refine decide_eq_false fun e => hxy ?_
            rw [e, hy] at hx
            injection hx with hx
            exact hx.symm)
          have hnb : (x != y) = true := by simp [hxy]
          clear hx hy hxy
          go_wp2
          go_quiet (fail)
          go_wp2
          go_ret
          exact ⟨ret_bool E.out.symm, _, World.drewN_drewN _ _ _⟩
      · obtain rfl : k = xs.length := by omega
        have E : Hid (decide (xs = ys) = true) := Lib.hid (by
          refine decide_eq_true ?_
          have := HT.out
          rw [List.take_length, Hlen.out, List.take_length] at this
          exact this)
        go_wp2
        go_ret
        exact ⟨ret_bool E.out.symm, n, rfl⟩
  · have E : Hid (decide (xs = ys) = false) := Lib.hid (decide_eq_false fun e => hlen (by rw [e]))
    have hne : (((xs.length : Nat) : Int) != ((ys.length : Nat) : Int)) = true := by simp; omega
    clear hlen
    go_enter Tryz.func10, Tryz.ntmps10
    go_wp2
    go_ret
    exact ⟨ret_bool E.out.symm, 0, rfl⟩
end Go.Proofs.YtbjblkfibinenacGreat


/-
  For all bytes: a fraction is drawn; its parts by a power of 2 are the model's and make it, and the terms are those of their digits, with the fraction as their sum and with a bound. No condition.
-/
namespace Go.Proofs.YtbjblkfibinenacGreat
open Go.ChangeShapes Go.WideShapes Go.ChangeAt Go.RowKit Go.Joins Go.Deep
set_option maxRecDepth 100000 in
set_option maxHeartbeats 32000000 in
theorem FnBinaryMethod_walk (w : World) (A : Option Addr) (c n : Nat) (B : Option Addr) (d m' : Nat) (hA : ReadsB w A n ∧ n ≤ 9223372036854775807) (hB : ReadsB w B m' ∧ m' ≤ 9223372036854775807) :
    Calls Tryz.prog 3 #[.slice A n c, .slice B m' d] w (Ret (.bool true) w) := by
  obtain ⟨hA, hn⟩ := hA
  obtain ⟨hB, hm'⟩ := hB
  have HA := Lib.hid hA
  clear hA hB
  cases hbig : bigB n m' with
  | true =>
    go_enter Tryz.func3, Tryz.ntmps3
    go_wp2_with fail
    refine (big_any _ _ _ _ _ _ _ hn hm').mono ?_; rintro e w1 ⟨rfl, k1, rfl⟩
    go_wp2
    go_ret
    exact ⟨rfl, by (repeat' (first | (with_reducible exact Below.refl _ _) | (with_reducible assumption) | (with_reducible refine Below.drew ?_) | (with_reducible refine belowDrewN ?_ _) | (with_reducible refine Below.alloc ?_ ?_ _) | (with_reducible refine Below.setCell ?_ ?_ _) | (with_reducible refine belowStep (by assumption) ?_ ?_) | (with_reducible exact Below.size (by assumption)) | go_size))⟩
  | false =>
    have hn2 : n ≤ 1048576 := by
      simp only [bigB, Bool.or_eq_false_iff, decide_eq_false_iff_not] at hbig
      omega
    go_enter Tryz.func3, Tryz.ntmps3
    go_wp2_with fail
    refine (big_any _ _ _ _ _ _ _ hn hm').mono ?_; rintro e w1 ⟨rfl, k1, rfl⟩
    go_wp2_with fail
    refine (drawBinary_any _ A n c (HA.out.below (by (repeat' (first | (with_reducible exact Below.refl _ _) | (with_reducible assumption) | (with_reducible refine Below.drew ?_) | (with_reducible refine belowDrewN ?_ _) | (with_reducible refine Below.alloc ?_ ?_ _) | (with_reducible refine Below.setCell ?_ ?_ _) | (with_reducible refine belowStep (by assumption) ?_ ?_) | (with_reducible exact Below.size (by assumption)) | go_size)))) hn2).mono ?_; rintro e w2 ⟨a, b, rfl, ha, hb, hb2⟩
    have hz2 := hb2.size
    (try simp only [World.heap_drewN] at hz2)
    clear hbig
    have TG := Lib.hid (TwoAt.new w2 (a) (b) 25)
    obtain ⟨oG1, oG2, oG3, oG4, oG5⟩ := TG.out
    go_wp2_with fail
    refine (binaryParts_any a b _ ha hb).mono ?_; rintro e w3 ⟨rfl, hb3⟩; have hz3 := hb3.size; (try simp only [World.size_alloc] at hz3)
    clear oG1 oG2 oG3 oG4 oG5
    have TG := Lib.hid (TG.out.below hb3)
    obtain ⟨oG1, oG2, oG3, oG4, oG5⟩ := TG.out
    go_wp2_with fail
    refine (spec_binaryParts_any a b _).mono ?_; rintro e w4 ⟨rfl, hb4⟩; have hz4 := hb4.size; (try simp only [World.size_alloc, World.size_setCell, World.size_drew, World.heap_drewN] at hz4)
    clear oG1 oG2 oG3 oG4 oG5
    have TG := Lib.hid (TG.out.below hb4)
    obtain ⟨oG1, oG2, oG3, oG4, oG5⟩ := TG.out
    go_wp2_with fail
    refine (binaryExp_any a b _ ha hb).mono ?_; rintro e w5 ⟨v5, rfl, ho5, hb5⟩; have hz5 := hb5.size; (try simp only [World.size_alloc, World.size_setCell, World.size_drew, World.heap_drewN] at hz5)
    clear oG1 oG2 oG3 oG4 oG5
    have TG := Lib.hid (TG.out.below hb5)
    obtain ⟨A5, c5, rfl, hr5⟩ := ho5.form
    have HR5 := Lib.hid hr5
    clear ho5 hr5
    obtain ⟨oG1, oG2, oG3, oG4, oG5⟩ := TG.out
    go_wp2_with fail
    refine (spec_binaryExp_any a b _).mono ?_; rintro e w6 ⟨A6, c6, rfl, hr6, hb6⟩; have hz6 := hb6.size; (try simp only [World.size_alloc, World.size_setCell, World.size_drew, World.heap_drewN] at hz6)
    clear oG1 oG2 oG3 oG4 oG5
    have TG := Lib.hid (TG.out.below hb6)
    have HR6 := Lib.hid hr6
    have HR5 := Lib.hid (HR5.out.below hb6)
    have hxl := bxO_len a b
    clear hr6
    obtain ⟨oG1, oG2, oG3, oG4, oG5⟩ := TG.out
    go_wp2_with fail
    refine ((pSame_same _ _ _ _ _ _ HR5.out HR6.out (by omega)).mono fun _ _ h => h.ret).mono ?_; rintro e w7 ⟨rfl, hb7⟩
    have hz7 := hb7.size
    clear oG1 oG2 oG3 oG4 oG5
    have TG := Lib.hid (TG.out.below hb7)
    have HR7 := Lib.hid (HR5.out.below hb7)
    have hbw7 : Below w.heap.size w w7 := by (repeat' (first | (with_reducible exact Below.refl _ _) | (with_reducible assumption) | (with_reducible refine Below.drew ?_) | (with_reducible refine belowDrewN ?_ _) | (with_reducible refine Below.alloc ?_ ?_ _) | (with_reducible refine Below.setCell ?_ ?_ _) | (with_reducible refine belowStep (by assumption) ?_ ?_) | (with_reducible exact Below.size (by assumption)) | go_size))
    clear HR6 HR5
    obtain ⟨oG1, oG2, oG3, oG4, oG5⟩ := TG.out
    cases hp : proB a b with
    | false =>
      go_wp2
      go_ret
      exact ⟨rfl, hbw7⟩
    | true =>
      obtain ⟨a1, a2, b1, b2, hab, hgo, _, _⟩ := proB_bounds hp
      obtain ⟨J, BS⟩ := binS hp
      obtain ⟨e1, e2, e3⟩ := bpR_yes hp
      rw [e1, e2, e3]
      have HE := Lib.hid fun (h : expB (srt (bL a b)) = true) => bL_exp hp h
      have HL := Lib.hid (bL_len a b)
      have HLe := Lib.hid (bL_le hp)
      have HF := Lib.hid (bL_facts hp)
      have HX : Hid (bxO a b = if expB (srt (bL a b)) = true then some (srt (bL a b)) else none) := Lib.hid (by rw [bxO_some hp, putAll_srt (bL_facts hp).2.2.2])
      have N1 := BS.N1
      have N2 := BS.N2
      have dN := BS.dN
      have s0 := BS.s0
      have s1 := BS.s1
      have r0 := BS.r0
      have r1 := BS.r1
      have he := BS.e
      have hJ := BS.J31
      have hNJ := BS.N
      have hN31 : p2 b ≤ 2147483648 := by rw [hNJ]; exact pow_le31 hJ
      have hm1 := Int.mul_le_mul a2 (show p2 b ≤ 2000000000 by omega) (by omega) (by omega : (0 : Int) ≤ 1000000000)
      have hm2 := Int.mul_le_mul b2 (show p2 b ≤ 2000000000 by omega) (by omega) (by omega : (0 : Int) ≤ 1000000000)
      have hm3 := mul_pos1 a1 N1
      have hm4 := Int.mul_nonneg (show 0 ≤ b by omega) s0
      have hm5 := mul_pos1 (show 1 ≤ b by omega) N1
      clear e1 e2 e3 BS hNJ
      generalize a * p2 b / b = s at *
      generalize a * p2 b % b = r at *
      generalize p2 b = P at *
      have hq : (a * P != b * s + r) = false := by simp [he]
      cases hx : expB (srt (bL a b)) with
      | false =>
        have HX2 : Hid (bxO a b = none) := Lib.hid (by rw [HX.out, hx]; rfl)
        rw [HX2.out]
        go_wp2
        go_ret
        exact ⟨rfl, hbw7⟩
      | true =>
        have HX2 : Hid (bxO a b = some (srt (bL a b))) := Lib.hid (by rw [HX.out, hx]; rfl)
        rw [HX2.out] at HR7 ⊢
        obtain ⟨eN1, eD1⟩ := HE.out hx
        have hl := srt_len (bL a b)
        have hlen0 := HL.out
        rw [← hl] at hlen0
        have hle : ∀ x ∈ srt (bL a b), x ≤ b * P := fun x hx => HLe.out x (srt_mem.1 hx)
        have hpos : 1 ≤ (srt (bL a b)).length := by
          rw [hl]
          have := HF.out.1
          cases hb : bL a b with
          | nil => exact absurd hb this
          | cons _ _ => simp
        have h64 : In64 (srt (bL a b)) := In64.of_mem fun x hx => by have := expB_small (by assumption) x hx; omega
        have hl24 := expB_len hx
        have HR7' : Hid (Reads w7 A5 (srt (bL a b))) := HR7
        simp only [Option.getD_some, Option.isSome_some]
        generalize srt (bL a b) = xs at *
        have HS := Lib.hid fun (w : World) (h : Reads w A5 xs) => pSums_yes w a b A5 c5 xs h (by omega) h64 hx eN1 eD1
        have Hle := Lib.hid hle
        have pcs := pc_in 31 s
        have pcr := pc_in 31 r
        clear hle h64 eN1 eD1 hl HR7 hxl
        generalize hcs : pc 31 s = cs at *
        generalize hcr : pc 31 r = cr at *
        have HCS := Lib.hid hcs
        have HCR := Lib.hid hcr
        have Hlen := Lib.hid hlen0
        clear hcs hcr hlen0
        go_wp2
        go_loopw [18, 19] (fun v18 v19 wr => ∃ (k : Nat) (m dg : Int), v18 = .int .i64 dg ∧ v19 = .int .i64 m ∧ 0 ≤ m ∧ m < 2 ^ k ∧ k ≤ 31 ∧ 0 ≤ dg ∧ dg + k ≤ 31 ∧ dg + pc k m = cs ∧ Below w7.heap.size w7 wr) (fun _ v19 _ => (intOf v19).toNat)
        case atStart => exact ⟨31, s, 0, rfl, rfl, s0, by rw [pow_31]; omega, Nat.le_refl _, by omega, by omega, by rw [HCS.out]; omega, by (repeat' (first | (with_reducible exact Below.refl _ _) | (with_reducible assumption) | (with_reducible refine Below.drew ?_) | (with_reducible refine belowDrewN ?_ _) | (with_reducible refine Below.alloc ?_ ?_ _) | (with_reducible refine Below.setCell ?_ ?_ _) | (with_reducible refine belowStep (by assumption) ?_ ?_) | (with_reducible exact Below.size (by assumption)) | go_size))⟩
        case round =>
          obtain ⟨k, m, dg, rfl, rfl, m0, m1, k31, g0, g1, hc, hbr⟩ := hrel
          have hm31 := pow_le31 k31
          by_cases hm : 0 < m
          · obtain ⟨k, rfl⟩ : ∃ j, k = j + 1 := by
              cases k with
              | zero => simp at m1; omega
              | succ j => exact ⟨j, rfl⟩
            rw [pc_more hm] at hc
            have hp2 : (2 : Int) ^ (k + 1) = 2 ^ k * 2 := Int.pow_succ _ _
            have Hc := Lib.hid hc
            clear hc
            go_wp2
            go_roundw
            case rel => exact ⟨k, _, _, rfl, rfl, by omega, by omega, by omega, by omega, by omega, by have := Hc.out; omega, hbr⟩
            case measure => simp [intOf]; omega
          · rw [pc_end (by omega)] at hc
            have hdg : dg = cs := by omega
            subst hdg
            clear hc
            go_wp2
            go_loopw [18, 20] (fun v18 v20 wq => ∃ (k : Nat) (m dh : Int), v18 = .int .i64 dh ∧ v20 = .int .i64 m ∧ 0 ≤ m ∧ m < 2 ^ k ∧ k ≤ 31 ∧ 0 ≤ dh ∧ dh + k ≤ 62 ∧ dh + pc k m = dg + cr ∧ Below w7.heap.size w7 wq) (fun _ v20 _ => (intOf v20).toNat)
            case atStart => exact ⟨31, r, dg, rfl, rfl, r0, by rw [pow_31]; omega, Nat.le_refl _, by omega, by omega, by rw [HCR.out], hbr⟩
            case round =>
              obtain ⟨k, m, dh, rfl, rfl, m0, m1, k31, g0', g1', hc, hbq⟩ := hrel
              have hm31 := pow_le31 k31
              by_cases hm : 0 < m
              · obtain ⟨k, rfl⟩ : ∃ j, k = j + 1 := by
                  cases k with
                  | zero => simp at m1; omega
                  | succ j => exact ⟨j, rfl⟩
                rw [pc_more hm] at hc
                have hp2 : (2 : Int) ^ (k + 1) = 2 ^ k * 2 := Int.pow_succ _ _
                have Hc := Lib.hid hc
                clear hc
                go_wp2
                go_roundw
                case rel => exact ⟨k, _, _, rfl, rfl, by omega, by omega, by omega, by omega, by omega, by have := Hc.out; omega, hbq⟩
                case measure => simp [intOf]; omega
              · rw [pc_end (by omega)] at hc
                have hdh : dh = ((xs.length : Nat) : Int) := by have := Hlen.out; omega
                subst hdh
                clear hc
                have TQ := Lib.hid (TG.out.below hbq)
                have HRQ := Lib.hid (HR7'.out.below hbq)
                have hzq := hbq.size
                clear oG1 oG2 oG3 oG4 oG5
                obtain ⟨q1, q2, q3, q4, q5⟩ := TQ.out
                obtain ⟨jj, hj1, hj2⟩ : ∃ jj : Nat, jj + 1 ≤ xs.length ∧ xs.length ≤ jj + 1 := ⟨xs.length - 1, by omega, by omega⟩
                have hidx : ((xs.length : Nat) : Int) - 1 = (jj : Int) := by omega
                have hjl : (jj : Int) < ((xs.length : Nat) : Int) := by omega
                obtain ⟨bb, oo, z, rfl, hbb, hz, hcz⟩ := HRQ.out.at_ (k := jj) (by omega)
                have hzle := Hle.out z (List.mem_of_getElem? hz)
                clear hz
                have hidw : IntKind.i64.wrap (((xs.length : Nat) : Int) - 1) = (jj : Int) := by rw [hidx]; exact IntWalk.i64_in _ (by omega)
                have hjw : IntKind.i64.wrap (jj : Int) = (jj : Int) := IntWalk.i64_in _ (by omega)
                have hj0 : (0 : Int) ≤ (jj : Int) := by omega
                have hjn : jj < xs.length := by omega
                have hbp : IntKind.i64.wrap (b * P) = b * P := IntWalk.i64_in _ (by omega)
                have hlq : (((xs.length : Nat) : Int) == ((xs.length : Nat) : Int)) = true := by simp
                have hzd : decide (z ≤ b * P) = true := decide_eq_true hzle
                have HC : Hid (∀ w' : World, Below wr.heap.size wr w' → w'.cell? ⟨bb, oo + jj, none⟩ = some (.int .i64 z) ∧ w'.cell? ⟨w2.heap.size, 0, none⟩ = some (.int .i64 a) ∧ w'.cell? ⟨w2.heap.size, 1, none⟩ = some (.int .i64 b)) := Lib.hid fun w' h => ⟨(h.cell (p := ⟨bb, oo + jj, none⟩) hbb).trans hcz, (h.cell (p := ⟨w2.heap.size, 0, none⟩) q5).trans q1, (h.cell (p := ⟨w2.heap.size, 1, none⟩) q5).trans q2⟩
                have HRX := Lib.hid fun (w' : World) (h : Below wr.heap.size wr w') => HS.out w' (HRQ.out.below h)
                clear HS HRQ TQ HLe HL HF HE HX HX2 HCS HCR Hlen Hle HR7'
                go_wp2_with fail
                go_region_held3 (fun w' => w'.cell? ⟨bb, oo + jj, none⟩ = some (.int .i64 z) ∧ w'.cell? ⟨w2.heap.size, 0, none⟩ = some (.int .i64 a) ∧ w'.cell? ⟨w2.heap.size, 1, none⟩ = some (.int .i64 b)) (exact HC.out _ (by (repeat' (first | (with_reducible exact Below.refl _ _) | (with_reducible assumption) | (with_reducible refine Below.drew ?_) | (with_reducible refine belowDrewN ?_ _) | (with_reducible refine Below.alloc ?_ ?_ _) | (with_reducible refine Below.setCell ?_ ?_ _) | (with_reducible refine belowStep (by assumption) ?_ ?_) | (with_reducible exact Below.size (by assumption)) | go_size)))) (first | (go_at_call 11; refine (HRX.out _ (by (repeat' (first | (with_reducible exact Below.refl _ _) | (with_reducible assumption) | (with_reducible refine Below.drew ?_) | (with_reducible refine belowDrewN ?_ _) | (with_reducible refine Below.alloc ?_ ?_ _) | (with_reducible refine Below.setCell ?_ ?_ _) | (with_reducible refine belowStep (by assumption) ?_ ?_) | (with_reducible exact Below.size (by assumption)) | go_size)))).mono ?_; rintro e w8 ⟨rfl, hb8⟩))
                all_goals
                  go_wp2
                  go_ret
                  exact ⟨rfl, by (repeat' (first | (with_reducible exact Below.refl _ _) | (with_reducible assumption) | (with_reducible refine Below.drew ?_) | (with_reducible refine belowDrewN ?_ _) | (with_reducible refine Below.alloc ?_ ?_ _) | (with_reducible refine Below.setCell ?_ ?_ _) | (with_reducible refine belowStep (by assumption) ?_ ?_) | (with_reducible exact Below.size (by assumption)) | go_size))⟩

set_option maxRecDepth 100000 in
theorem FnBinaryMethod_lifted (os : Os) (started : os.Started) (H : Type) (enc : TypeId × Value → H) :
    ReturnsInHanded {} Tryz.checked os 3 .any (Rows.fnBinaryMethodSpec.pre6 enc Tryz.prog Tryz.f3 Rows.fnBinaryMethodRow.domain false) (Rows.fnBinaryMethodSpec.post enc Tryz.prog Tryz.f3 false true false false) := by
  refine returnsInHanded_of_change (C := Tryz.checked) own started (by kernel_rfl) Tryz.func3
    (ChangeSpec.witness6 (enc := enc) (C := Tryz.checked) false ⟨#[], #[.slice none 0 0, .slice none 0 0], []⟩ 8 (by kernel_rfl) (by kernel_rfl) (by kernel_rfl) (by kernel_rfl)) ?_
  intro W base args ds gs before hval0 hW hcnd _
  have hval : ∀ (j : Nat) t v, Tryz.f3.params[j]? = some t → args[j]? = some v → Value.okWide Tryz.prog W .any base t v := hval0
  have hW' := hW
  have hlt : ∀ p ∈ before, p.block < W.heap.size := fun p hp => hW'.lt p hp
  obtain ⟨p, q, hA0, hV, rfl, hfz, hnd⟩ := hW
  have hA : DataW.TrodAll enc Tryz.prog W 0 (fun _ => true) true Tryz.f3.params.toList args.toList ds p := hA0
  rw [Tryz.params3] at hA hval
  obtain ⟨v0, vs0, d0, ds0, p0, q0, hargs, rfl, rfl, h0, r0⟩ := trodAll_cons hA
  obtain ⟨v1, vs1, d1, ds1, p1, q1, rfl, rfl, rfl, h1, r1⟩ := trodAll_cons r0
  obtain ⟨rfl, rfl, rfl⟩ := trodAll_nil r1
  obtain rfl : args = #[v0, v1] := by cases args; simp_all
  obtain ⟨rfl, rfl⟩ := trodVars_none hV
  obtain ⟨Aa, ca, na, rfl, ha⟩ := open_bytes_reads Tryz.underlying22 Tryz.underlying5 (by kernel_rfl) (hval 0 22 v0 rfl rfl) h0 (fun y hy => hlt y (by simp [hy]))
  obtain ⟨Ab, cb, nb, rfl, hb⟩ := open_bytes_reads Tryz.underlying22 Tryz.underlying5 (by kernel_rfl) (hval 1 22 v1 rfl rfl) h1 (fun y hy => hlt y (by simp [hy]))
  refine (FnBinaryMethod_walk W Aa ca na Ab cb nb ha hb).mono fun e W' ⟨he, hg⟩ => ?_
  subst he
  exact ⟨_, rfl, law_post laidOut (by rw [Tryz.params3]; intro t ht; simp only [List.mem_cons, List.not_mem_nil, or_false] at ht; rcases ht with rfl | rfl <;> exact ⟨by kernel_rfl, of_decide_eq_true (by kernel_rfl)⟩) (by kernel_rfl) Tryz.underlying4 rfl hW' rfl hg⟩

theorem FnBinaryMethod_closed : joinedFacts Tryz.prog 3 Tryz.f3 Rows.fnBinaryMethodSpec Rows.fnBinaryMethodRow = true := by
  unfold joinedFacts
  rw [mayEnter_eq, lifts_eq, make_eq]
  kernel_rfl

theorem FnBinaryMethod_holds : Rows.FnBinaryMethodSaid :=
  OpenClaim.holds_of_wide 3 Tryz.f3 rfl rfl rfl rfl rfl rfl rfl ⟨rfl, rfl, rfl, rfl, rfl⟩ rfl rfl rfl rfl rfl (by kernel_rfl) Tryz.func3 FnBinaryMethod_closed
    (of_decide_eq_true (by kernel_rfl)) (by unfold Func.isWrapper; first | (rw [if_pos (by decide +kernel)]; kernel_rfl) | (rw [if_neg (by decide +kernel)]; exact ⟨rfl, rfl⟩))
    (fun os started H enc _ => FnBinaryMethod_lifted os started H enc)

end Go.Proofs.YtbjblkfibinenacGreat
