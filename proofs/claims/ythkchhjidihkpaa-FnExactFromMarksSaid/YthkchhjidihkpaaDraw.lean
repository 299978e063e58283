
/-
  Contracts of what draws lists and fractions: whatever the bytes are, a list of numbers that fit is handed out, and only the cursor has changed.
-/
import Derived.Test.YthkchhjidihkpaaCur
import Derived.Test.YthkchhjidihkpaaOwn
import Derived.Test.YthkchhjidihkpaaConcat
import Derived.Test.YthkchhjidihkpaaOps
namespace Go.Proofs.Ythkchhjidihkpaa
open Go.RowKit
theorem Reads.grown {w w' : World} {A : Option Addr} {xs : List Int} {g : Nat} (h : Reads w A xs) (hg : w.grownBy w' (some g)) (hne : ∀ a, A = some a → a.block ≠ g) : Reads w' A xs := fun h0 => by
  obtain ⟨b, o, rfl, hb, hc⟩ := h h0
  exact ⟨b, o, rfl, Nat.lt_of_lt_of_le hb hg.size, fun i x hx => hg.cell (hc i x hx) (fun e => hne _ rfl (by injection e))⟩
theorem OwnI.grown {w w' : World} {base g : Nat} {v : Value} {xs : List Int} (h : OwnI w base v xs) (hg : w.grownBy w' (some g)) (hlt : g < base) : OwnI w' base v xs := by
  refine World.ownsRow.kept h hg ?_
  cases hv : v.ownBlock with
  | none => exact .inl rfl
  | some k =>
    refine .inr fun e => ?_
    have h1 := (h.block k hv).1
    injection e with e
    omega
theorem Cur.below {w0 w w' : World} {g n : Nat} (h : Cur w0 w g n) (hb : Below w.heap.size w w') : Cur w0 w' g n := by
  obtain ⟨hg0, hg, hb0, A, len, c, k, s, h0, hl, hr, h1, k0, k1, h2, f1, f2⟩ := h
  have hs0 := hb0.size
  exact ⟨hg0, Nat.lt_of_lt_of_le hg hb.size, hb0.trans (hb.mono hs0), A, len, c, k, s, (hb.cell (p := ⟨g, 0, none⟩) hg).trans h0, hl, hr, (hb.cell (p := ⟨g, 1, none⟩) hg).trans h1, k0, k1, (hb.cell (p := ⟨g, 2, none⟩) hg).trans h2, (hb.frozen (p := ⟨g, 1, none⟩) hg).trans f1, (hb.frozen (p := ⟨g, 2, none⟩) hg).trans f2⟩
theorem Cur.belowB {w0 w w' : World} {g n B : Nat} (h : Cur w0 w g n) (hb : Below B w w') (hB : g < B) : Cur w0 w' g n := by
  obtain ⟨hg0, hg, hb0, A, len, c, k, s, h0, hl, hr, h1, k0, k1, h2, f1, f2⟩ := h
  have hs0 := hb0.size
  exact ⟨hg0, Nat.lt_of_lt_of_le hg hb.size, hb0.trans (hb.mono (by omega)), A, len, c, k, s, (hb.cell (p := ⟨g, 0, none⟩) hB).trans h0, hl, hr, (hb.cell (p := ⟨g, 1, none⟩) hB).trans h1, k0, k1, (hb.cell (p := ⟨g, 2, none⟩) hB).trans h2, (hb.frozen (p := ⟨g, 1, none⟩) hB).trans f1, (hb.frozen (p := ⟨g, 2, none⟩) hB).trans f2⟩
theorem grownBelowB {a w w' : World} {row : Option Nat} {B : Nat} (h : a.grownBy w row) (ha : a.heap.size ≤ B) (hb : Below B w w') : a.grownBy w' row :=
  ⟨hb.os.trans h.os, hb.tape.trans h.tape, hb.output.trans h.output, Nat.le_trans h.size hb.size, fun k hk hne => (hb.block k (by omega)).trans (h.block k hk hne)⟩
theorem Cur.base {w0 w : World} {g n : Nat} (h : Cur w0 w g n) : w0.heap.size ≤ g ∧ g < w.heap.size ∧ Below w0.heap.size w0 w := ⟨h.1, h.2.1, h.2.2.1⟩
set_option maxHeartbeats 1000000 in
theorem among_any (w0 w : World) (g n : Nat) (hn : n ≤ 1000000) (lo hi : Int) (Axs : Option Addr) (cxs : Nat) (xs : List Int) (hxs : Reads w Axs xs) (lxs : xs.length ≤ 1048576) (hx : 0 < xs.length) (hl : xs.length ≤ 1000) (hne : ∀ a, Axs = some a → a.block ≠ g) (hin : ∀ x ∈ xs, lo ≤ x ∧ x ≤ hi) (h : Cur w0 w g n) :
    Calls Try.prog 64 #[.pointer (some ⟨g, 0, none⟩), .slice Axs xs.length cxs] w (DrawN w0 w g (n + 2) lo hi) := by
  have HC := Lib.hid h
  have Hxs := Lib.hid hxs
  have Hin := Lib.hid hin
  have Hne := Lib.hid hne
  clear h hxs hin hne
  go_enter Try.func64, Try.ntmps64
  go_wp2_with fail
  refine (pick_any w0 _ _ n hn _ (by omega) HC.out).mono ?_; rintro e w1 ⟨x, rfl, x0, x1, hc1, hg1⟩
  obtain ⟨j, rfl⟩ := Int.eq_ofNat_of_zero_le x0
  obtain ⟨b, o, y, rfl, hb, hy, hcell⟩ := (Hxs.out.grown hg1 Hne.out).at_ (k := j) (by omega)
  have HC1 := Lib.hid hc1
  have Hg1 := Lib.hid hg1
  have Hy := Lib.hid (Hin.out y (List.mem_of_getElem? hy))
  have hjl : (j : Int) < (xs.length : Int) := by omega
  clear hc1 hg1 hy
  go_wp2
  go_ret
  exact ⟨y, rfl, Hy.out.1, Hy.out.2, HC1.out, Hg1.out⟩
/-- a list has been drawn -/
def DrawL (w0 w : World) (g n : Nat) (e : Ending) (w' : World) : Prop := ∃ v zs, e = .returned v ∧ OwnI w' w.heap.size v zs ∧ zs.length ≤ 40 ∧ (∀ z ∈ zs, -9223372036854775808 ≤ z ∧ z ≤ 9223372036854775807) ∧ Cur w0 w' g n ∧ w.grownBy w' (some g)
theorem put_in {xs : List Int} {v : Int} (h : ∀ z ∈ xs, -9223372036854775808 ≤ z ∧ z ≤ 9223372036854775807) (hv : -9223372036854775808 ≤ v ∧ v ≤ 9223372036854775807) : ∀ z ∈ putL xs v, -9223372036854775808 ≤ z ∧ z ≤ 9223372036854775807 := by
  unfold putL
  split
  · exact h
  · intro z hz
    rcases ins_mem.1 hz with rfl | hz
    · exact hv
    · exact h z hz
theorem put_le (xs : List Int) (v : Int) : (putL xs v).length ≤ xs.length + 1 := by
  unfold putL
  split
  · omega
  · rw [ins_len _ _ _ (pos_le xs v)]; omega
theorem Reads.lit (w : World) (xs : List Int) (n : Nat) (_ : xs.length = n) : Reads (w.alloc (.cells (xs.map (Value.int .i64)).toArray 3)) (some ⟨w.heap.size, 0, none⟩) xs := fun _ =>
  ⟨w.heap.size, 0, rfl, by simp, fun i x hx => by
    rw [Nat.zero_add]
    have : (xs.map (Value.int .i64)).toArray[i]? = some (.int .i64 x) := by simp [hx]
    simp [this]⟩
theorem grownBelow {a w w' : World} {row : Option Nat} (h : a.grownBy w row) (ha : a.heap.size ≤ w.heap.size) (hb : Below w.heap.size w w') : a.grownBy w' row :=
  ⟨hb.os.trans h.os, hb.tape.trans h.tape, hb.output.trans h.output, Nat.le_trans h.size hb.size, fun k hk hne => (hb.block k (by omega)).trans (h.block k hk hne)⟩
theorem grownAlloc {a w : World} {row : Option Nat} (h : a.grownBy w row) (ha : a.heap.size ≤ w.heap.size) (o : Obj) : a.grownBy (w.alloc o) row := grownBelow h ha ((Below.refl _ _).alloc (Nat.le_refl _) _)
theorem wrap64_in (x : Int) : -9223372036854775808 ≤ wrap64 x ∧ wrap64 x ≤ 9223372036854775807 := by unfold wrap64; omega
/-- a fraction has been drawn: two numbers that fit -/
def DrawF (w0 w : World) (g n : Nat) (e : Ending) (w' : World) : Prop := ∃ a b : Int, e = .returned (.agg #[.int .i64 a, .int .i64 b]) ∧ (-9223372036854775808 ≤ a ∧ a ≤ 9223372036854775807) ∧ (-9223372036854775808 ≤ b ∧ b ≤ 9223372036854775807) ∧ Cur w0 w' g n ∧ w.grownBy w' (some g)
theorem TwoAt.grown {w w' : World} {b g : Nat} {x y : Int} (h : TwoAt w b x y) (hg : w.grownBy w' (some g)) (hne : b ≠ g) : TwoAt w' b x y := by
  obtain ⟨h1, h2, h3, h4, h5⟩ := h
  exact ⟨hg.cell h1 (fun e => hne (by injection e)), hg.cell h2 (fun e => hne (by injection e)), (hg.frozen_far ⟨b, 0, none⟩ h5 (fun e => hne (by injection e))).trans h3, (hg.frozen_far ⟨b, 1, none⟩ h5 (fun e => hne (by injection e))).trans h4, Nat.lt_of_lt_of_le h5 hg.size⟩
theorem red_small {x y : Int} (hx : 0 ≤ x) (hx2 : x ≤ 1000001) (hy : 1 ≤ y) (hy2 : y ≤ 1000001) : (-9223372036854775808 ≤ x / gcdI x y ∧ x / gcdI x y ≤ 9223372036854775807) ∧ (-9223372036854775808 ≤ y / gcdI x y ∧ y / gcdI x y ≤ 9223372036854775807) := by
  have := Int.ediv_le_self (gcdI x y) hx
  have := Int.ediv_le_self (gcdI x y) (by omega : 0 ≤ y)
  have := gcdI_nonneg x y
  have := Int.ediv_nonneg hx this
  have := Int.ediv_nonneg (by omega : 0 ≤ y) (gcdI_nonneg x y)
  omega
theorem Cur.set {w0 w : World} {g n b : Nat} (h : Cur w0 w g n) (hb : b ≠ g) (hb0 : w0.heap.size ≤ b) (i : Nat) (v : Value) : Cur w0 (w.setCell ⟨b, i, none⟩ v) g n := by
  obtain ⟨hg0, hg, hbw, A, len, c, k, s, h0, hl, hr, h1, k0, k1, h2, f1, f2⟩ := h
  exact ⟨hg0, by simpa using hg, hbw.setCell hb0 _, A, len, c, k, s, (World.cell?_setCell_far w ⟨b, i, none⟩ ⟨g, 0, none⟩ v hb).trans h0, hl, hr, (World.cell?_setCell_far w ⟨b, i, none⟩ ⟨g, 1, none⟩ v hb).trans h1, k0, k1, (World.cell?_setCell_far w ⟨b, i, none⟩ ⟨g, 2, none⟩ v hb).trans h2, by simpa using f1, by simpa using f2⟩
theorem grownSetNew {a w : World} {row : Option Nat} {b : Nat} (h : a.grownBy w row) (hb : a.heap.size ≤ b) (i : Nat) (v : Value) : a.grownBy (w.setCell ⟨b, i, none⟩ v) row :=
  ⟨h.os, h.tape, h.output, by simpa [World.setCell] using h.size, fun k hk hne => (Below.heap_setCell w ⟨b, i, none⟩ v k (fun e => by simp at e; omega)).trans (h.block k hk hne)⟩
end Go.Proofs.Ythkchhjidihkpaa
