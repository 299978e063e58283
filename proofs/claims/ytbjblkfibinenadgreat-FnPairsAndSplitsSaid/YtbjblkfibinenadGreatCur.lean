
/-
  Contracts of the cursor that draws inputs from bytes: what it hands out lies in its range, whatever the bytes are.
-/
import Derived.Test.YtbjblkfibinenadGreatLists
import Derived.Laws.Bits64b
namespace Go.Proofs.YtbjblkfibinenadGreat
open Go.RowKit
/-- bytes that may be read -/
def ReadsB (w : World) (A : Option Addr) (len : Nat) : Prop := 0 < len → ∃ b o, A = some ⟨b, o, none⟩ ∧ b < w.heap.size ∧ ∀ i, i < len → ∃ v : Int, w.cell? ⟨b, o + i, none⟩ = some (.int .u8 v) ∧ 0 ≤ v ∧ v ≤ 255
theorem ReadsB.below {w w' : World} {A : Option Addr} {len : Nat} (h : ReadsB w A len) (hb : Below w.heap.size w w') : ReadsB w' A len := fun h0 => by
  obtain ⟨b, o, e, hlt, hc⟩ := h h0
  refine ⟨b, o, e, Nat.lt_of_lt_of_le hlt hb.size, fun i hi => ?_⟩
  obtain ⟨v, h1, h2⟩ := hc i hi
  exact ⟨v, (hb.cell (p := ⟨b, o + i, none⟩) hlt).trans h1, h2⟩
/-- the cursor's three cells, and that its count has gone at most to n; its bytes are older than it -/
def Cur (w0 w : World) (g n : Nat) : Prop := w0.heap.size ≤ g ∧ g < w.heap.size ∧ Below w0.heap.size w0 w ∧ ∃ (A : Option Addr) (len c : Nat) (k s : Int),
  w.cell? ⟨g, 0, none⟩ = some (.slice A len c) ∧ len ≤ 1048576 ∧ ReadsB w0 A len ∧ w.cell? ⟨g, 1, none⟩ = some (.int .i64 k) ∧ 0 ≤ k ∧ k ≤ n ∧ w.cell? ⟨g, 2, none⟩ = some (.int .u64 s) ∧ w.frozen? ⟨g, 1, none⟩ = false ∧ w.frozen? ⟨g, 2, none⟩ = false
def DrawN (w0 w : World) (g n : Nat) (lo hi : Int) (e : Ending) (w' : World) : Prop := ∃ x : Int, e = .returned (.int .i64 x) ∧ lo ≤ x ∧ x ≤ hi ∧ Cur w0 w' g n ∧ w.grownBy w' (some g)
theorem grownDrewN {a w : World} {row : Option Nat} (h : a.grownBy w row) (k : Nat) : a.grownBy (w.drewN k) row := ⟨h.os, h.tape, h.output, h.size, h.block⟩
theorem Cur.step {w0 w : World} {g n : Nat} {k : Int} (h : Cur w0 w g n) (hk : w.cell? ⟨g, 1, none⟩ = some (.int .i64 k)) (hkn : k ≤ n) (k0 : 0 ≤ k) (a b : Nat) (s : Int) :
    Cur w0 ((((w.drewN a).setCell ⟨g, 1, none⟩ (.int .i64 (k + 1))).setCell ⟨g, 2, none⟩ (.int .u64 s)).drewN b) g (n + 1) ∧ w.grownBy ((((w.drewN a).setCell ⟨g, 1, none⟩ (.int .i64 (k + 1))).setCell ⟨g, 2, none⟩ (.int .u64 s)).drewN b) (some g) := by
  obtain ⟨hg0, hg, hb0, A, len, c, k', s', h0, hl, hr, h1, k0, k1, h2, f1, f2⟩ := h
  have G : w.grownBy ((((w.drewN a).setCell ⟨g, 1, none⟩ (.int .i64 (k + 1))).setCell ⟨g, 2, none⟩ (.int .u64 s)).drewN b) (some g) :=
    grownDrewN (grownSet (grownSet (grownDrewN (World.grownBy.refl w (some g)) a) rfl 1 _) rfl 2 _) b
  refine ⟨⟨hg0, by simpa using hg, hb0.grown G (by have := hb0.size; omega) (fun j hj => by injection hj with hj; omega), A, len, c, k + 1, s, ?_, hl, hr, ?_, by omega, by omega, ?_, ?_, ?_⟩, G⟩
  all_goals simp [go_sem, *]
theorem and255 (x : Int) (h0 : 0 ≤ x) (h1 : x < 18446744073709551616) : 0 ≤ wrap64 (bits BinOp.and IntKind.u64 x 255) ∧ wrap64 (bits BinOp.and IntKind.u64 x 255) ≤ 255 := by
  obtain ⟨a, rfl⟩ := Int.eq_ofNat_of_zero_le h0
  have h := bits_and_u64_nat a 255 (by omega) (by omega)
  have h2 : a &&& 255 ≤ 255 := Nat.and_le_right
  rw [show ((255 : Nat) : Int) = 255 from rfl] at h
  rw [h]
  unfold wrap64
  omega
theorem shr40 (x : Int) : 0 ≤ IntKind.u64.wrap x / 1099511627776 ∧ IntKind.u64.wrap x / 1099511627776 < 18446744073709551616 := by
  have h : 0 ≤ IntKind.u64.wrap x ∧ IntKind.u64.wrap x < 18446744073709551616 := by
    rw [IntKind.wrap_u64]; omega
  omega
set_option maxHeartbeats 2000000 in
theorem next_any (w0 w : World) (g n : Nat) (hn : n ≤ 1000000000) (h : Cur w0 w g n) : Calls Tryz.prog 54 #[.pointer (some ⟨g, 0, none⟩)] w (DrawN w0 w g (n + 1) 0 255) := by
  have HC := Lib.hid h
  obtain ⟨hg0, hg, hb0, A, len, c, k, s, h0, hl, hr, h1, k0, k1, h2, f1, f2⟩ := h
  by_cases hlt : k < len
  · obtain ⟨j, rfl⟩ := Int.eq_ofNat_of_zero_le k0
    obtain ⟨b, o, rfl, hb, hc⟩ := (hr.below hb0) (by omega)
    obtain ⟨v, hv, v0, v1⟩ := hc j (by omega)
    have Hr := Lib.hid hr
    have Hc := Lib.hid hc
    clear hr hc
    have hj : (j : Int) < (len : Int) := hlt
    have hj1 : (j : Int) + 1 ≤ (len : Int) := by omega
    go_enter Tryz.func54, Tryz.ntmps54
    go_wp2
    go_quiet (fail)
    go_wp2
    go_quiet (fail)
    go_wp2
    go_quiet (fail)
    go_wp2
    go_ret
    have HS := HC.out.step h1 k1 k0
    exact ⟨_, rfl, v0, v1, (HS _ _ _).1, (HS _ _ _).2⟩
  · have hj : (len : Int) ≤ k := by omega
    have hj1 : ¬ k + 1 ≤ (len : Int) := by omega
    go_enter Tryz.func54, Tryz.ntmps54
    go_wp2
    go_quiet (fail)
    go_wp2
    go_quiet (fail)
    go_wp2
    go_ret
    have HS := HC.out.step h1 k1 k0
    exact ⟨_, rfl, (and255 _ (shr40 _).1 (shr40 _).2).1, (and255 _ (shr40 _).1 (shr40 _).2).2, (HS _ _ _).1, (HS _ _ _).2⟩
theorem mod_in {x n : Int} (h : 1 ≤ n) : 0 ≤ x % n ∧ x % n ≤ n - 1 := by
  have := Int.emod_nonneg x (by omega : n ≠ 0)
  have := Int.emod_lt_of_pos x (by omega : 0 < n)
  omega
theorem Cur.more {w0 w : World} {g n m : Nat} (h : Cur w0 w g n) (hm : n ≤ m) : Cur w0 w g m := by
  obtain ⟨hg0, hg, hb0, A, len, c, k, s, h0, hl, hr, h1, k0, k1, r⟩ := h
  exact ⟨hg0, hg, hb0, A, len, c, k, s, h0, hl, hr, h1, k0, by omega, r⟩
set_option maxHeartbeats 2000000 in
theorem pick_any (w0 w : World) (g n : Nat) (hn : n ≤ 1000000) (m : Int) (hm : m ≤ 1000000000) (h : Cur w0 w g n) : Calls Tryz.prog 33 #[.pointer (some ⟨g, 0, none⟩), .int .i64 m] w (DrawN w0 w g (n + 2) 0 (max 0 (m - 1))) := by
  have HC := Lib.hid h
  clear h
  by_cases h1 : m ≤ 1
  · go_enter Tryz.func33, Tryz.ntmps33
    go_wp2
    go_ret
    exact ⟨0, rfl, by omega, by omega, HC.out.more (by omega), World.grownBy.refl w _⟩
  · have h1' : 1 < m := by omega
    clear h1
    by_cases h2 : 200 < m
    · go_enter Tryz.func33, Tryz.ntmps33
      go_wp2_with fail
      refine (next_any w0 _ _ n (by omega) HC.out).mono ?_; rintro e w1 ⟨x, rfl, x0, x1, hc1, hg1⟩
      have HC1 := Lib.hid hc1
      have Hg1 := Lib.hid hg1
      clear hc1 hg1
      go_wp2_with fail
      refine (next_any w0 _ _ (n + 1) (by omega) HC1.out).mono ?_; rintro e w2 ⟨y, rfl, y0, y1, hc2, hg2⟩
      have HC2 := Lib.hid hc2
      have Hg2 := Lib.hid hg2
      have hmd := mod_in (x := x * 256 + y) (n := m) (by omega)
      clear hc2 hg2
      go_wp2
      go_ret
      exact ⟨_, rfl, hmd.1, by omega, HC2.out, Hg1.out.trans Hg2.out⟩
    · go_enter Tryz.func33, Tryz.ntmps33
      go_wp2_with fail
      refine (next_any w0 _ _ n (by omega) HC.out).mono ?_; rintro e w1 ⟨x, rfl, x0, x1, hc1, hg1⟩
      have HC1 := Lib.hid hc1
      have Hg1 := Lib.hid hg1
      have hmd := mod_in (x := x) (n := m) (by omega)
      clear hc1 hg1
      go_wp2
      go_ret
      exact ⟨_, rfl, hmd.1, by omega, HC1.out.more (by omega), Hg1.out⟩
end Go.Proofs.YtbjblkfibinenadGreat
