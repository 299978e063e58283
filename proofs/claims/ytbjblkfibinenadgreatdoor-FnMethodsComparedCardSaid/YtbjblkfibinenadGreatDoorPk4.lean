import Derived.Test.YtbjblkfibinenadGreatDoorPk3
import Derived.Test.YtbjblkfibinenadGreatDoorPk2

/-
  Contracts of the functions that test whether a pair of numbers is a fraction.
-/
namespace Go.Proofs.YtbjblkfibinenadGreatDoor
open Go.RowKit

set_option maxHeartbeats 400000 in
theorem isFraction_any (n d : Int) (w : World) (hn1 : -9223372036854775808 ≤ n) (hn2 : n ≤ 9223372036854775807) (hd1 : -9223372036854775808 ≤ d) (hd2 : d ≤ 9223372036854775807) :
    Calls Tryz.prog 27 #[.agg #[.int .i64 n, .int .i64 d]] w (Ret (.bool (goodB n d)) w) := by
  by_cases h0 : n < 0
  · have HB := Lib.hid (goodB_not (n := n) (d := d) (by omega))
    go_enter Tryz.func27, Tryz.ntmps27
    go_wp2
    go_ret
    exact ⟨ret_bool HB.out.symm, by (repeat' (first | (with_reducible exact Below.refl _ _) | (with_reducible assumption) | (with_reducible refine Below.drew ?_) | (with_reducible refine belowDrewN ?_ _) | (with_reducible refine Below.alloc ?_ ?_ _) | (with_reducible refine Below.setCell ?_ ?_ _) | (with_reducible refine belowStep (by assumption) ?_ ?_) | (with_reducible exact Below.size (by assumption)) | go_size))⟩
  · by_cases h1 : d < 1
    · have HB := Lib.hid (goodB_not (n := n) (d := d) (by omega))
      go_enter Tryz.func27, Tryz.ntmps27
      go_wp2
      go_ret
      exact ⟨ret_bool HB.out.symm, by (repeat' (first | (with_reducible exact Below.refl _ _) | (with_reducible assumption) | (with_reducible refine Below.drew ?_) | (with_reducible refine belowDrewN ?_ _) | (with_reducible refine Below.alloc ?_ ?_ _) | (with_reducible refine Below.setCell ?_ ?_ _) | (with_reducible refine belowStep (by assumption) ?_ ?_) | (with_reducible exact Below.size (by assumption)) | go_size))⟩
    · cases hr : redB n d with
      | false =>
        have HB := Lib.hid (goodB_not (n := n) (d := d) (fun h => by
          have := red_one h.2.2.2.2
          rw [redB_yes (by omega) (by omega)] at hr; cases hr))
        have Hr := Lib.hid hr
        clear hr
        go_enter Tryz.func27, Tryz.ntmps27
        go_wp2_with (go_at_call 48; refine (reduce_no _ _ _ (by omega) (by omega) hn2 hd2 Hr.out).mono ?_; rintro e w1 ⟨rfl, hb1⟩; obtain ⟨hc1, hf1⟩ := bcellB hb1; have hz1 := hb1.size; (try simp only [World.size_alloc] at hc1 hf1 hz1); (try have hy1_r_0 : wr.heap.size < w1.heap.size := by omega); (try have hn1_r_0 : wr.heap.size ≠ w1.heap.size := by omega); (try have hm1_r_0 : w1.heap.size ≠ wr.heap.size := by omega); (try have hy1_r_1 : wr.heap.size + 1 < w1.heap.size := by omega); (try have hn1_r_1 : wr.heap.size + 1 ≠ w1.heap.size := by omega); (try have hm1_r_1 : w1.heap.size ≠ wr.heap.size + 1 := by omega); (try have hy1_r_2 : wr.heap.size + 1 + 1 < w1.heap.size := by omega); (try have hp1_r_1 : wr.heap.size < w1.heap.size + 1 := by omega); (try have hp1_r_2 : wr.heap.size < w1.heap.size + 1 + 1 := by omega); (try have hy1_0_0 : w.heap.size < w1.heap.size := by omega); (try have hn1_0_0 : w.heap.size ≠ w1.heap.size := by omega); (try have hm1_0_0 : w1.heap.size ≠ w.heap.size := by omega); (try have hy1_0_1 : w.heap.size + 1 < w1.heap.size := by omega); (try have hn1_0_1 : w.heap.size + 1 ≠ w1.heap.size := by omega); (try have hm1_0_1 : w1.heap.size ≠ w.heap.size + 1 := by omega); (try have hy1_0_2 : w.heap.size + 1 + 1 < w1.heap.size := by omega); (try have hp1_0_1 : w.heap.size < w1.heap.size + 1 := by omega); (try have hp1_0_2 : w.heap.size < w1.heap.size + 1 + 1 := by omega); (try have hg1_g1 : g1 < w1.heap.size := by omega); (try have hi1_g1 : g1 ≠ w1.heap.size := by omega); (try have hj1_g1 : w1.heap.size ≠ g1 := by omega); (try have hk1_g1 : g1 < w1.heap.size + 1 := by omega); (try have hg1_g2 : g2 < w1.heap.size := by omega); (try have hi1_g2 : g2 ≠ w1.heap.size := by omega); (try have hj1_g2 : w1.heap.size ≠ g2 := by omega); (try have hk1_g2 : g2 < w1.heap.size + 1 := by omega))
        go_ret
        exact ⟨ret_bool HB.out.symm, by (repeat' (first | (with_reducible exact Below.refl _ _) | (with_reducible assumption) | (with_reducible refine Below.drew ?_) | (with_reducible refine belowDrewN ?_ _) | (with_reducible refine Below.alloc ?_ ?_ _) | (with_reducible refine Below.setCell ?_ ?_ _) | (with_reducible refine belowStep (by assumption) ?_ ?_) | (with_reducible exact Below.size (by assumption)) | go_size))⟩
      | true =>
        have Hr := Lib.hid hr
        clear hr
        go_enter Tryz.func27, Tryz.ntmps27
        go_wp2_with (go_at_call 48; refine (reduce_yes _ _ _ (by omega) (by omega) hn2 hd2 Hr.out).mono ?_; rintro e w1 ⟨rfl, hb1⟩; obtain ⟨hc1, hf1⟩ := bcellB hb1; have hz1 := hb1.size; (try simp only [World.size_alloc] at hc1 hf1 hz1); (try have hy1_r_0 : wr.heap.size < w1.heap.size := by omega); (try have hn1_r_0 : wr.heap.size ≠ w1.heap.size := by omega); (try have hm1_r_0 : w1.heap.size ≠ wr.heap.size := by omega); (try have hy1_r_1 : wr.heap.size + 1 < w1.heap.size := by omega); (try have hn1_r_1 : wr.heap.size + 1 ≠ w1.heap.size := by omega); (try have hm1_r_1 : w1.heap.size ≠ wr.heap.size + 1 := by omega); (try have hy1_r_2 : wr.heap.size + 1 + 1 < w1.heap.size := by omega); (try have hp1_r_1 : wr.heap.size < w1.heap.size + 1 := by omega); (try have hp1_r_2 : wr.heap.size < w1.heap.size + 1 + 1 := by omega); (try have hy1_0_0 : w.heap.size < w1.heap.size := by omega); (try have hn1_0_0 : w.heap.size ≠ w1.heap.size := by omega); (try have hm1_0_0 : w1.heap.size ≠ w.heap.size := by omega); (try have hy1_0_1 : w.heap.size + 1 < w1.heap.size := by omega); (try have hn1_0_1 : w.heap.size + 1 ≠ w1.heap.size := by omega); (try have hm1_0_1 : w1.heap.size ≠ w.heap.size + 1 := by omega); (try have hy1_0_2 : w.heap.size + 1 + 1 < w1.heap.size := by omega); (try have hp1_0_1 : w.heap.size < w1.heap.size + 1 := by omega); (try have hp1_0_2 : w.heap.size < w1.heap.size + 1 + 1 := by omega); (try have hg1_g1 : g1 < w1.heap.size := by omega); (try have hi1_g1 : g1 ≠ w1.heap.size := by omega); (try have hj1_g1 : w1.heap.size ≠ g1 := by omega); (try have hk1_g1 : g1 < w1.heap.size + 1 := by omega); (try have hg1_g2 : g2 < w1.heap.size := by omega); (try have hi1_g2 : g2 ≠ w1.heap.size := by omega); (try have hj1_g2 : w1.heap.size ≠ g2 := by omega); (try have hk1_g2 : g2 < w1.heap.size + 1 := by omega))
        all_goals
          go_ret
          exact ⟨ret_bool (by rw [good_of_red (by omega) (by omega) Hr.out]; simp [*]), by (repeat' (first | (with_reducible exact Below.refl _ _) | (with_reducible assumption) | (with_reducible refine Below.drew ?_) | (with_reducible refine belowDrewN ?_ _) | (with_reducible refine Below.alloc ?_ ?_ _) | (with_reducible refine Below.setCell ?_ ?_ _) | (with_reducible refine belowStep (by assumption) ?_ ?_) | (with_reducible exact Below.size (by assumption)) | go_size))⟩

theorem l1In_yes (n lo hi : Int) (w : World) (h1 : lo ≤ n) (h2 : n ≤ hi) :
    Calls Tryz.prog 56 #[.int .i64 n, .int .i64 lo, .int .i64 hi] w (RetQ (.bool true) w) := by
  go_enter Tryz.func56, Tryz.ntmps56
  go_wp2
  go_ret
  exact ⟨rfl, 0, rfl⟩
theorem l1In_no (n lo hi : Int) (w : World) (h1 : ¬ (lo ≤ n ∧ n ≤ hi)) :
    Calls Tryz.prog 56 #[.int .i64 n, .int .i64 lo, .int .i64 hi] w (RetQ (.bool false) w) := by
  by_cases h : lo ≤ n
  · have h2 : hi < n := by omega
    clear h1
    go_enter Tryz.func56, Tryz.ntmps56
    go_wp2
    go_ret
    exact ⟨ret_bool (by simp; omega), 0, rfl⟩
  · clear h1
    go_enter Tryz.func56, Tryz.ntmps56
    go_wp2
    go_ret
    exact ⟨rfl, 0, rfl⟩

set_option maxHeartbeats 400000 in
theorem unGood_any (n d : Int) (w : World) :
    Calls Tryz.prog 33 #[.agg #[.int .i64 n, .int .i64 d]] w (Ret (.bool (goodB n d)) w) := by
  by_cases h1 : 0 ≤ n ∧ n ≤ 1000000000
  · by_cases h2 : 1 ≤ d ∧ d ≤ 1000000000
    · obtain ⟨h1, h1'⟩ := h1
      obtain ⟨h2, h2'⟩ := h2
      by_cases hg : gcdI n d = 1
      · have HB := Lib.hid ((goodB_iff n d).2 ⟨h1, h1', h2, h2', hg⟩)
        have hgb : (gcdI n d == 1) = true := by simp [hg]
        clear hg
        go_enter Tryz.func33, Tryz.ntmps33
        go_wp2_with (first | (go_at_call 56; refine (l1In_yes _ _ _ _ (by omega) (by omega)).mono ?_; rintro e w1 ⟨rfl, k1, rfl⟩) | (go_at_call 57; refine (unGcd_any _ _ _ (by omega) (by omega) (by omega) (by omega)).mono ?_; rintro e w1 ⟨rfl, k3, rfl⟩))
        go_ret
        exact ⟨ret_bool HB.out.symm, by (repeat' (first | (with_reducible exact Below.refl _ _) | (with_reducible assumption) | (with_reducible refine Below.drew ?_) | (with_reducible refine belowDrewN ?_ _) | (with_reducible refine Below.alloc ?_ ?_ _) | (with_reducible refine Below.setCell ?_ ?_ _) | (with_reducible refine belowStep (by assumption) ?_ ?_) | (with_reducible exact Below.size (by assumption)) | go_size))⟩
      · have HB := Lib.hid (goodB_not (n := n) (d := d) (fun h => hg h.2.2.2.2))
        have hgb : (gcdI n d == 1) = false := by simp [hg]
        clear hg
        go_enter Tryz.func33, Tryz.ntmps33
        go_wp2_with (first | (go_at_call 56; refine (l1In_yes _ _ _ _ (by omega) (by omega)).mono ?_; rintro e w1 ⟨rfl, k1, rfl⟩) | (go_at_call 57; refine (unGcd_any _ _ _ (by omega) (by omega) (by omega) (by omega)).mono ?_; rintro e w1 ⟨rfl, k3, rfl⟩))
        go_ret
        exact ⟨ret_bool HB.out.symm, by (repeat' (first | (with_reducible exact Below.refl _ _) | (with_reducible assumption) | (with_reducible refine Below.drew ?_) | (with_reducible refine belowDrewN ?_ _) | (with_reducible refine Below.alloc ?_ ?_ _) | (with_reducible refine Below.setCell ?_ ?_ _) | (with_reducible refine belowStep (by assumption) ?_ ?_) | (with_reducible exact Below.size (by assumption)) | go_size))⟩
    · have HB := Lib.hid (goodB_not (n := n) (d := d) (by omega))
      go_enter Tryz.func33, Tryz.ntmps33
      go_wp2_with (first | (go_at_call 56; refine (l1In_yes _ _ _ _ (by omega) (by omega)).mono ?_; rintro e w1 ⟨rfl, k1, rfl⟩) | (go_at_call 56; refine (l1In_no _ _ _ _ (by omega)).mono ?_; rintro e w1 ⟨rfl, k1, rfl⟩))
      go_ret
      exact ⟨ret_bool HB.out.symm, by (repeat' (first | (with_reducible exact Below.refl _ _) | (with_reducible assumption) | (with_reducible refine Below.drew ?_) | (with_reducible refine belowDrewN ?_ _) | (with_reducible refine Below.alloc ?_ ?_ _) | (with_reducible refine Below.setCell ?_ ?_ _) | (with_reducible refine belowStep (by assumption) ?_ ?_) | (with_reducible exact Below.size (by assumption)) | go_size))⟩
  · have HB := Lib.hid (goodB_not (n := n) (d := d) (by omega))
    go_enter Tryz.func33, Tryz.ntmps33
    go_wp2_with (go_at_call 56; refine (l1In_no _ _ _ _ (by omega)).mono ?_; rintro e w1 ⟨rfl, k1, rfl⟩)
    go_ret
    exact ⟨ret_bool HB.out.symm, by (repeat' (first | (with_reducible exact Below.refl _ _) | (with_reducible assumption) | (with_reducible refine Below.drew ?_) | (with_reducible refine belowDrewN ?_ _) | (with_reducible refine Below.alloc ?_ ?_ _) | (with_reducible refine Below.setCell ?_ ?_ _) | (with_reducible refine belowStep (by assumption) ?_ ?_) | (with_reducible exact Below.size (by assumption)) | go_size))⟩
end Go.Proofs.YtbjblkfibinenadGreatDoor


/-
  Contracts of the arithmetic of fractions.
-/
namespace Go.Proofs.YtbjblkfibinenadGreatDoor
open Go.RowKit
theorem toFraction_any (n d : Int) (w : World) : Calls Tryz.prog 7 #[.agg #[.int .i64 n, .int .i64 d]] w (Ret (.agg #[.int .i64 n, .int .i64 d]) w) := by
  go_enter Tryz.func7, Tryz.ntmps7
  go_wp2
  go_returns
  exact ⟨rfl, by (repeat' (first | (with_reducible exact Below.refl _ _) | (with_reducible assumption) | (with_reducible refine Below.drew ?_) | (with_reducible refine belowDrewN ?_ _) | (with_reducible refine Below.alloc ?_ ?_ _) | (with_reducible refine Below.setCell ?_ ?_ _) | (with_reducible refine belowStep (by assumption) ?_ ?_) | (with_reducible exact Below.size (by assumption)) | go_size))⟩
theorem unMake_any (n d : Int) (w : World) (hn : 0 ≤ n) (hd : 1 ≤ d) (hn2 : n ≤ 9223372036854775807) (hd2 : d ≤ 9223372036854775807) :
    Calls Tryz.prog 47 #[.int .i64 n, .int .i64 d] w (Ret (.agg #[.int .i64 (n / gcdI n d), .int .i64 (d / gcdI n d)]) w) := by
  have hg1 : 1 ≤ gcdI n d := by have := gcdI_pos n d (by omega); omega
  have hg2 : gcdI n d ≤ 9223372036854775807 := by have := gcdI_leR n d (by omega); omega
  have hq1 : 0 ≤ n / gcdI n d := Int.ediv_nonneg hn (by omega)
  have hq2 : 0 ≤ d / gcdI n d := Int.ediv_nonneg (by omega) (by omega)
  go_enter Tryz.func47, Tryz.ntmps47
  go_wp2_with (go_at_call 57; refine (unGcd_any _ _ _ hn (by omega) hn2 hd2).mono ?_; rintro e w1 ⟨rfl, k1, rfl⟩)
  go_region
  all_goals
    go_wp2
    go_returns
    exact ⟨rfl, by (repeat' (first | (with_reducible exact Below.refl _ _) | (with_reducible assumption) | (with_reducible refine Below.drew ?_) | (with_reducible refine belowDrewN ?_ _) | (with_reducible refine Below.alloc ?_ ?_ _) | (with_reducible refine Below.setCell ?_ ?_ _) | (with_reducible refine belowStep (by assumption) ?_ ?_) | (with_reducible exact Below.size (by assumption)) | go_size))⟩
end Go.Proofs.YtbjblkfibinenadGreatDoor


/-
  Contracts of what draws lists and fractions: whatever the bytes are, a list of numbers that fit is handed out, and only the cursor has changed.
-/
namespace Go.Proofs.YtbjblkfibinenadGreatDoor
open Go.RowKit
theorem Reads.grown {w w' : World} {A : Option Addr} {xs : List Int} {g : Nat} (h : Reads w A xs) (hg : w.grownBy w' (some g)) (hne : ∀ a, A = some a → a.block ≠ g) : Reads w' A xs := fun h0 => by
  obtain ⟨b, o, rfl, hb, hc⟩ := h h0
  exact ⟨b, o, rfl, Nat.lt_of_lt_of_le hb hg.size, fun i x hx => hg.cell (hc i x hx) (fun e => hne _ rfl (by injection e))⟩
theorem OwnI.grown {w w' : World} {base g : Nat} {v : Value} {xs : List Int} (h : OwnI w base v xs) (hg : w.grownBy w' (some g)) (hlt : g < base) : OwnI w' base v xs := by
  refine World.ownsRow.kept h hg ?_
  cases hv : v.ownBlock with
  | none => exact .inl rfl
  | some k =>
    refine .inr fun e => ?_
    have h1 := (h.block k hv).1
    injection e with e
    omega
theorem Cur.below {w0 w w' : World} {g n : Nat} (h : Cur w0 w g n) (hb : Below w.heap.size w w') : Cur w0 w' g n := by
  obtain ⟨hg0, hg, hb0, A, len, c, k, s, h0, hl, hr, h1, k0, k1, h2, f1, f2⟩ := h
  have hs0 := hb0.size
  exact ⟨hg0, Nat.lt_of_lt_of_le hg hb.size, hb0.trans (hb.mono hs0), A, len, c, k, s, (hb.cell (p := ⟨g, 0, none⟩) hg).trans h0, hl, hr, (hb.cell (p := ⟨g, 1, none⟩) hg).trans h1, k0, k1, (hb.cell (p := ⟨g, 2, none⟩) hg).trans h2, (hb.frozen (p := ⟨g, 1, none⟩) hg).trans f1, (hb.frozen (p := ⟨g, 2, none⟩) hg).trans f2⟩
theorem Cur.belowB {w0 w w' : World} {g n B : Nat} (h : Cur w0 w g n) (hb : Below B w w') (hB : g < B) : Cur w0 w' g n := by
  obtain ⟨hg0, hg, hb0, A, len, c, k, s, h0, hl, hr, h1, k0, k1, h2, f1, f2⟩ := h
  have hs0 := hb0.size
  exact ⟨hg0, Nat.lt_of_lt_of_le hg hb.size, hb0.trans (hb.mono (by omega)), A, len, c, k, s, (hb.cell (p := ⟨g, 0, none⟩) hB).trans h0, hl, hr, (hb.cell (p := ⟨g, 1, none⟩) hB).trans h1, k0, k1, (hb.cell (p := ⟨g, 2, none⟩) hB).trans h2, (hb.frozen (p := ⟨g, 1, none⟩) hB).trans f1, (hb.frozen (p := ⟨g, 2, none⟩) hB).trans f2⟩
theorem grownBelowB {a w w' : World} {row : Option Nat} {B : Nat} (h : a.grownBy w row) (ha : a.heap.size ≤ B) (hb : Below B w w') : a.grownBy w' row :=
  ⟨hb.os.trans h.os, hb.tape.trans h.tape, hb.output.trans h.output, Nat.le_trans h.size hb.size, fun k hk hne => (hb.block k (by omega)).trans (h.block k hk hne)⟩
theorem Cur.base {w0 w : World} {g n : Nat} (h : Cur w0 w g n) : w0.heap.size ≤ g ∧ g < w.heap.size ∧ Below w0.heap.size w0 w := ⟨h.1, h.2.1, h.2.2.1⟩
set_option maxHeartbeats 1000000 in
theorem among_any (w0 w : World) (g n : Nat) (hn : n ≤ 1000000) (lo hi : Int) (Axs : Option Addr) (cxs : Nat) (xs : List Int) (hxs : Reads w Axs xs) (lxs : xs.length ≤ 1048576) (hx : 0 < xs.length) (hl : xs.length ≤ 1000) (hne : ∀ a, Axs = some a → a.block ≠ g) (hin : ∀ x ∈ xs, lo ≤ x ∧ x ≤ hi) (h : Cur w0 w g n) :
    Calls Tryz.prog 72 #[.pointer (some ⟨g, 0, none⟩), .slice Axs xs.length cxs] w (DrawN w0 w g (n + 2) lo hi) := by
  have HC := Lib.hid h
  have Hxs := Lib.hid hxs
  have Hin := Lib.hid hin
  have Hne := Lib.hid hne
  clear h hxs hin hne
  go_enter Tryz.func72, Tryz.ntmps72
  go_wp2_with fail
  refine (pick_any w0 _ _ n hn _ (by omega) HC.out).mono ?_; rintro e w1 ⟨x, rfl, x0, x1, hc1, hg1⟩
  obtain ⟨j, rfl⟩ := Int.eq_ofNat_of_zero_le x0
  obtain ⟨b, o, y, rfl, hb, hy, hcell⟩ := (Hxs.out.grown hg1 Hne.out).at_ (k := j) (by omega)
  have HC1 := Lib.hid hc1
  have Hg1 := Lib.hid hg1
  have Hy := Lib.hid (Hin.out y (List.mem_of_getElem? hy))
  have hjl : (j : Int) < (xs.length : Int) := by omega
  clear hc1 hg1 hy
  go_wp2
  go_ret
  exact ⟨y, rfl, Hy.out.1, Hy.out.2, HC1.out, Hg1.out⟩
/-- a list has been drawn -/
def DrawL (w0 w : World) (g n : Nat) (e : Ending) (w' : World) : Prop := ∃ v zs, e = .returned v ∧ OwnI w' w.heap.size v zs ∧ zs.length ≤ 40 ∧ (∀ z ∈ zs, -9223372036854775808 ≤ z ∧ z ≤ 9223372036854775807) ∧ Cur w0 w' g n ∧ w.grownBy w' (some g)
theorem put_in {xs : List Int} {v : Int} (h : ∀ z ∈ xs, -9223372036854775808 ≤ z ∧ z ≤ 9223372036854775807) (hv : -9223372036854775808 ≤ v ∧ v ≤ 9223372036854775807) : ∀ z ∈ putL xs v, -9223372036854775808 ≤ z ∧ z ≤ 9223372036854775807 := by
  unfold putL
  split
  · exact h
  · intro z hz
    rcases ins_mem.1 hz with rfl | hz
    · exact hv
    · exact h z hz
theorem put_le (xs : List Int) (v : Int) : (putL xs v).length ≤ xs.length + 1 := by
  unfold putL
  split
  · omega
  · rw [ins_len _ _ _ (pos_le xs v)]; omega
theorem Reads.lit (w : World) (xs : List Int) (n : Nat) (_ : xs.length = n) : Reads (w.alloc (.cells (xs.map (Value.int .i64)).toArray 3)) (some ⟨w.heap.size, 0, none⟩) xs := fun _ =>
  ⟨w.heap.size, 0, rfl, by simp, fun i x hx => by
    rw [Nat.zero_add]
    have : (xs.map (Value.int .i64)).toArray[i]? = some (.int .i64 x) := by simp [hx]
    simp [this]⟩
theorem grownBelow {a w w' : World} {row : Option Nat} (h : a.grownBy w row) (ha : a.heap.size ≤ w.heap.size) (hb : Below w.heap.size w w') : a.grownBy w' row :=
  ⟨hb.os.trans h.os, hb.tape.trans h.tape, hb.output.trans h.output, Nat.le_trans h.size hb.size, fun k hk hne => (hb.block k (by omega)).trans (h.block k hk hne)⟩
theorem grownAlloc {a w : World} {row : Option Nat} (h : a.grownBy w row) (ha : a.heap.size ≤ w.heap.size) (o : Obj) : a.grownBy (w.alloc o) row := grownBelow h ha ((Below.refl _ _).alloc (Nat.le_refl _) _)
theorem wrap64_in (x : Int) : -9223372036854775808 ≤ wrap64 x ∧ wrap64 x ≤ 9223372036854775807 := by unfold wrap64; omega
/-- a fraction has been drawn: two numbers that fit -/
def DrawF (w0 w : World) (g n : Nat) (e : Ending) (w' : World) : Prop := ∃ a b : Int, e = .returned (.agg #[.int .i64 a, .int .i64 b]) ∧ (-9223372036854775808 ≤ a ∧ a ≤ 9223372036854775807) ∧ (-9223372036854775808 ≤ b ∧ b ≤ 9223372036854775807) ∧ Cur w0 w' g n ∧ w.grownBy w' (some g)
theorem TwoAt.grown {w w' : World} {b g : Nat} {x y : Int} (h : TwoAt w b x y) (hg : w.grownBy w' (some g)) (hne : b ≠ g) : TwoAt w' b x y := by
  obtain ⟨h1, h2, h3, h4, h5⟩ := h
  exact ⟨hg.cell h1 (fun e => hne (by injection e)), hg.cell h2 (fun e => hne (by injection e)), (hg.frozen_far ⟨b, 0, none⟩ h5 (fun e => hne (by injection e))).trans h3, (hg.frozen_far ⟨b, 1, none⟩ h5 (fun e => hne (by injection e))).trans h4, Nat.lt_of_lt_of_le h5 hg.size⟩
theorem red_small {x y : Int} (hx : 0 ≤ x) (hx2 : x ≤ 1000001) (hy : 1 ≤ y) (hy2 : y ≤ 1000001) : (-9223372036854775808 ≤ x / gcdI x y ∧ x / gcdI x y ≤ 9223372036854775807) ∧ (-9223372036854775808 ≤ y / gcdI x y ∧ y / gcdI x y ≤ 9223372036854775807) := by
  have := Int.ediv_le_self (gcdI x y) hx
  have := Int.ediv_le_self (gcdI x y) (by omega : 0 ≤ y)
  have := gcdI_nonneg x y
  have := Int.ediv_nonneg hx this
  have := Int.ediv_nonneg (by omega : 0 ≤ y) (gcdI_nonneg x y)
  omega
theorem Cur.set {w0 w : World} {g n b : Nat} (h : Cur w0 w g n) (hb : b ≠ g) (hb0 : w0.heap.size ≤ b) (i : Nat) (v : Value) : Cur w0 (w.setCell ⟨b, i, none⟩ v) g n := by
  obtain ⟨hg0, hg, hbw, A, len, c, k, s, h0, hl, hr, h1, k0, k1, h2, f1, f2⟩ := h
  exact ⟨hg0, by simpa using hg, hbw.setCell hb0 _, A, len, c, k, s, (World.cell?_setCell_far w ⟨b, i, none⟩ ⟨g, 0, none⟩ v hb).trans h0, hl, hr, (World.cell?_setCell_far w ⟨b, i, none⟩ ⟨g, 1, none⟩ v hb).trans h1, k0, k1, (World.cell?_setCell_far w ⟨b, i, none⟩ ⟨g, 2, none⟩ v hb).trans h2, by simpa using f1, by simpa using f2⟩
theorem grownSetNew {a w : World} {row : Option Nat} {b : Nat} (h : a.grownBy w row) (hb : a.heap.size ≤ b) (i : Nat) (v : Value) : a.grownBy (w.setCell ⟨b, i, none⟩ v) row :=
  ⟨h.os, h.tape, h.output, by simpa [World.setCell] using h.size, fun k hk hne => (Below.heap_setCell w ⟨b, i, none⟩ v k (fun e => by simp at e; omega)).trans (h.block k hk hne)⟩
set_option maxHeartbeats 8000000 in
theorem fraction_any (w0 w : World) (g n : Nat) (hn : n ≤ 100000) (h : Cur w0 w g n) : Calls Tryz.prog 45 #[.pointer (some ⟨g, 0, none⟩)] w (DrawF w0 w g (n + 20)) := by
  have HC := Lib.hid (h.below ((Below.refl _ _).alloc (Nat.le_refl _) (.cells #[.int .i64 0, .int .i64 0] 27)))
  obtain ⟨b1, b2, b3⟩ := h.base
  clear h
  have T0 := Lib.hid (TwoAt.new w 0 0 27)
  go_enter Tryz.func45, Tryz.ntmps45
  go_wp2_with fail
  refine (pick_any w0 _ _ n (by omega) _ (by omega) HC.out).mono ?_; rintro e w1 ⟨x, rfl, x0, x1, hc1, hg1⟩
  have HC1 := Lib.hid hc1
  have T1 := Lib.hid (T0.out.grown hg1 (by omega))
  have Hg1 := Lib.hid ((grownAlloc (World.grownBy.refl w (some g)) (Nat.le_refl _) _).trans hg1)
  have hz1 := hg1.size
  simp only [World.size_alloc] at hz1
  clear hc1 hg1
  go_wp2_with fail
  refine (pick_any w0 _ _ (n + 2) (by omega) _ (by omega) HC1.out).mono ?_; rintro e w2 ⟨y, rfl, y0, y1, hc2, hg2⟩
  have HC2 := Lib.hid hc2
  have T2 := Lib.hid (T1.out.grown hg2 (by omega))
  have Hg2 := Lib.hid (Hg1.out.trans hg2)
  have hz2 := hg2.size
  clear hc2 hg2
  go_wp2_with fail
  refine (unMake_any _ _ _ (by omega) (by omega) (by omega) (by omega)).mono ?_; rintro e w3 ⟨rfl, hb3⟩
  have hsm := red_small (x := x) (y := 1 + y) (by omega) (by omega) (by omega) (by omega)
  generalize x / gcdI x (1 + y) = a at *
  generalize (1 + y) / gcdI x (1 + y) = b at *
  have Hsm := Lib.hid hsm
  have HC3 := Lib.hid ((HC2.out.below hb3).below ((Below.refl _ _).alloc (Nat.le_refl _) (.cells #[.int .i64 a, .int .i64 b] 27)))
  have T3 := Lib.hid ((T2.out.below hb3).below ((Below.refl _ _).alloc (Nat.le_refl _) (.cells #[.int .i64 a, .int .i64 b] 27)))
  have U3 := Lib.hid (TwoAt.new w3 a b 27)
  have hz3 := hb3.size
  have Hg3 := Lib.hid (grownAlloc (grownBelow Hg2.out (by omega) hb3) (by omega) (.cells #[.int .i64 a, .int .i64 b] 27))
  clear hsm hb3
  go_wp2_with fail
  refine (pick_any w0 _ _ (n + 4) (by omega) _ (by omega) HC3.out).mono ?_; rintro e w4 ⟨z, rfl, z0, z1, hc4, hg4⟩
  have HC4 := Lib.hid hc4
  have T4 := Lib.hid (T3.out.grown hg4 (by omega))
  have U4 := Lib.hid (U3.out.grown hg4 (by omega))
  have Hg4 := Lib.hid (Hg3.out.trans hg4)
  have hz4 := hg4.size
  (try simp only [World.size_alloc] at hz4)
  clear hc4 hg4
  by_cases e0 : z = 0
  · subst e0
    go_wp2_with fail
    refine (among_any w0 _ _ (n + 6) (by omega) (-1) 1000000001 _ 5 [-1, 0, 2, 1000000000, 1000000001] (Reads.lit w4 _ 5 rfl) (by simp) (by simp) (by simp) (fun a ha => by injection ha with ha; subst ha; show w4.heap.size ≠ g; omega) (fun z hz => by simp only [List.mem_cons, List.not_mem_nil, or_false] at hz; omega) (HC4.out.below ((Below.refl _ _).alloc (Nat.le_refl _) _))).mono ?_; rintro e w5 ⟨p, rfl, p0, p1, hc5, hg5⟩
    have HC5 := Lib.hid hc5
    have T5 := Lib.hid ((T4.out.below ((Below.refl _ _).alloc (Nat.le_refl _) _)).grown hg5 (by omega))
    have Hg5 := Lib.hid (Hg4.out.trans ((grownAlloc (World.grownBy.refl w4 (some g)) (Nat.le_refl _) _).trans hg5))
    have hz5 := hg5.size
    (try simp only [World.size_alloc] at hz5)
    clear hc5 hg5
    go_wp2_with fail
    refine (among_any w0 _ _ (n + 8) (by omega) (-1) 1000000001 _ 7 [-1, 0, 1, 4, 999999999, 1000000000, 1000000001] (Reads.lit w5 _ 7 rfl) (by simp) (by simp) (by simp) (fun a ha => by injection ha with ha; subst ha; show w5.heap.size ≠ g; omega) (fun z hz => by simp only [List.mem_cons, List.not_mem_nil, or_false] at hz; omega) (HC5.out.below ((Below.refl _ _).alloc (Nat.le_refl _) _))).mono ?_; rintro e w6 ⟨q, rfl, q0, q1, hc6, hg6⟩
    have HC6 := Lib.hid hc6
    have T6 := (T5.out.below ((Below.refl _ _).alloc (Nat.le_refl _) _)).grown hg6 (by omega)
    have Hg6 := (Hg5.out.trans ((grownAlloc (World.grownBy.refl w5 (some g)) (Nat.le_refl _) _).trans hg6))
    have hz6 := hg6.size
    (try simp only [World.size_alloc] at hz6)
    obtain ⟨t1, t2, t3, t4, t5⟩ := T6
    clear hc6 hg6
    go_wp2
    refine bodyPost_ret (by simp [results, Tryz.results45, go_sem, *]; try rfl) rfl ?_
    exact ⟨p, q, rfl, by omega, by omega, ((HC6.out.more (by omega)).set (by omega) (by omega) _ _).set (by omega) (by omega) _ _, grownSetNew (grownSetNew Hg6 (Nat.le_refl _) _ _) (Nat.le_refl _) _ _⟩
  · by_cases e1 : z = 1
    · subst e1
      go_wp2_with fail
      refine (pick_any w0 _ _ (n + 6) (by omega) _ (by omega) HC4.out).mono ?_; rintro e w5 ⟨p, rfl, p0, p1, hc5, hg5⟩
      have HC5 := Lib.hid hc5
      have T5 := Lib.hid (T4.out.grown hg5 (by omega))
      have Hg5 := Lib.hid (Hg4.out.trans hg5)
      have hz5 := hg5.size
      clear hc5 hg5
      go_wp2_with fail
      refine (pick_any w0 _ _ (n + 8) (by omega) _ (by omega) HC5.out).mono ?_; rintro e w6 ⟨q, rfl, q0, q1, hc6, hg6⟩
      have HC6 := Lib.hid hc6
      have T6 := Lib.hid (T5.out.grown hg6 (by omega))
      have Hg6 := Lib.hid (Hg5.out.trans hg6)
      have hz6 := hg6.size
      clear hc6 hg6
      go_wp2_with fail
      refine (unMake_any _ _ _ (by omega) (by omega) (by omega) (by omega)).mono ?_; rintro e w7 ⟨rfl, hb7⟩
      have hsm7 := red_small (x := 1 + p) (y := 1 + q) (by omega) (by omega) (by omega) (by omega)
      generalize (1 + p) / gcdI (1 + p) (1 + q) = a7 at *
      generalize (1 + q) / gcdI (1 + p) (1 + q) = b7 at *
      have Hsm7 := Lib.hid hsm7
      have HC7 := Lib.hid (HC6.out.below hb7)
      have Hg7 := Lib.hid (grownBelow Hg6.out (by omega) hb7)
      obtain ⟨t1, t2, t3, t4, t5⟩ := T6.out.below hb7
      have hz7 := hb7.size
      clear hsm7 hb7
      go_wp2
      refine bodyPost_ret (by simp [results, Tryz.results45, go_sem, *]; try rfl) rfl ?_
      exact ⟨a7, b7, rfl, Hsm7.out.1, Hsm7.out.2, ((HC7.out.more (by omega)).set (by omega) (by omega) _ _).set (by omega) (by omega) _ _, grownSetNew (grownSetNew Hg7.out (Nat.le_refl _) _ _) (Nat.le_refl _) _ _⟩
    · have f0 : (z == 0) = false := by simp [e0]
      have f1 : (z == 1) = false := by simp [e1]
      obtain ⟨t1, t2, t3, t4, t5⟩ := T4.out
      obtain ⟨u1, u2, u3, u4, u5⟩ := U4.out
      clear e0 e1
      go_wp2
      refine bodyPost_ret (by simp [results, Tryz.results45, go_sem, *]; try rfl) rfl ?_
      exact ⟨a, b, rfl, Hsm.out.1, Hsm.out.2, ((HC4.out.more (by omega)).set (by omega) (by omega) _ _).set (by omega) (by omega) _ _, grownSetNew (grownSetNew Hg4.out (Nat.le_refl _) _ _) (Nat.le_refl _) _ _⟩
end Go.Proofs.YtbjblkfibinenadGreatDoor
