import Derived.Test.YtbjblkfibinenadGreatDoorPk1
import Derived.Laws.Bits64b

/-
  What functions leave that return a list and whether it is told.
-/
namespace Go.Proofs.YtbjblkfibinenadGreatDoor
open Go.RowKit
/-- of the program: a new slice of the call's own -/
def RetLB (ys : List Int) (b : Bool) (w : World) (e : Ending) (w' : World) : Prop := ∃ v, e = .returned (.tuple #[v, .bool b]) ∧ OwnI w' w.heap.size v ys ∧ Below w.heap.size w w'
/-- of the model: a slice that reads so -/
def RetRB (ys : List Int) (b : Bool) (w : World) (e : Ending) (w' : World) : Prop := ∃ A c, e = .returned (.tuple #[.slice A ys.length c, .bool b]) ∧ Reads w' A ys ∧ Below w.heap.size w w'
def RetR (ys : List Int) (w : World) (e : Ending) (w' : World) : Prop := ∃ A c, e = .returned (.slice A ys.length c) ∧ ys.length ≤ c ∧ Reads w' A ys ∧ Below w.heap.size w w'
section
variable {w w' : World} {base : Nat} {v : Value} {xs ys : List Int}
theorem OwnI.reads {A : Option Addr} {n c : Nat} (h : OwnI w base (.slice A n c) xs) : Reads w A xs ∧ n = xs.length := by
  obtain ⟨A', c', e, hr⟩ := h.form
  injection e with e1 e2 e3
  subst e1
  exact ⟨hr, e2⟩
theorem OwnI.cap_ {A : Option Addr} {n c : Nat} (h : OwnI w base (.slice A n c) xs) : n ≤ c := by
  rcases h.2 with ⟨hv, h0⟩ | ⟨g, cap, cur, hv, _, _, hnc, _⟩
  · injection hv with _ h1 h2; omega
  · injection hv with _ h1 h2; omega
theorem Reads.cutTo {A : Option Addr} (k : Nat) (h : Reads w A xs) : Reads w A (xs.take k) := fun h0 => by
  rw [List.length_take] at h0
  obtain ⟨b, o, rfl, hb, hx⟩ := h (by omega)
  refine ⟨b, o, rfl, hb, fun i x hi => hx i x ?_⟩
  rw [List.getElem?_take] at hi
  split at hi
  · exact hi
  · cases hi
theorem Reads.cutFrom {A : Option Addr} {k c : Nat} (h : Reads w A xs) (hk : k ≤ xs.length) (hc : xs.length ≤ c) : Reads w (if c = k then A else A.map (·.add k)) (xs.drop k) := fun h0 => by
  rw [List.length_drop] at h0
  obtain ⟨b, o, rfl, hb, hx⟩ := h (by omega)
  refine ⟨b, o + k, by rw [if_neg (by omega), Option.map_some, Go.WideShapes.add_plain], hb, fun i x hi => ?_⟩
  rw [List.getElem?_drop] at hi
  rw [Nat.add_assoc]
  exact hx (k + i) x hi
/-- other spellings of the address of a cut -/
theorem Reads.cutA {A : Option Addr} {k c : Nat} (h : Reads w A xs) (hk : k ≤ xs.length) (hc : xs.length ≤ c) (hne : ¬ c = k) : Reads w (A.map (·.add k)) (xs.drop k) := by
  have := h.cutFrom hk hc
  rwa [if_neg hne] at this
theorem Reads.cutS {b o k : Nat} (h : Reads w (some ⟨b, o, none⟩) xs) : Reads w (some ⟨b, o + k, none⟩) (xs.drop k) := fun h0 => by
  rw [List.length_drop] at h0
  obtain ⟨b', o', e, hb, hx⟩ := h (by omega)
  injection e with e
  injection e with e1 e2 _
  subst e1 e2
  refine ⟨b, o + k, rfl, hb, fun i x hi => ?_⟩
  rw [List.getElem?_drop] at hi
  rw [Nat.add_assoc]
  exact hx (k + i) x hi
theorem OwnI.drewN (h : OwnI w base v xs) (k : Nat) : OwnI (w.drewN k) base v xs := h
theorem OwnI.kept_ {v' : Value} (h : OwnI w base v xs) (hg : w.grownBy w' v'.ownBlock) (hlt : ∀ k, v'.ownBlock = some k → k < base) : OwnI w' base v xs := by
  refine World.ownsRow.kept h hg ?_
  cases hv : v.ownBlock with
  | none => exact .inl rfl
  | some k =>
    refine .inr fun e => ?_
    have h1 := (h.block k hv).1
    have h2 := hlt k e.symm
    omega
theorem belowMark {v' : Value} {B : Nat} (hg : w.grownBy w' v'.ownBlock) (hB : B ≤ w.heap.size) (hlt : ∀ k, v'.ownBlock = some k → B ≤ k) : Below B w w' :=
  (Below.refl B w).grown hg hB hlt
theorem OwnI.slice_ {A : Option Addr} {n c : Nat} (h : OwnI w base (.slice A n c) xs) : OwnI w base (.slice A xs.length c) xs := by
  have := h.reads.2
  subst this
  exact h
end
end Go.Proofs.YtbjblkfibinenadGreatDoor


/-
  Contracts of the cursor that draws inputs from bytes: what it hands out lies in its range, whatever the bytes are.
-/
namespace Go.Proofs.YtbjblkfibinenadGreatDoor
open Go.RowKit
/-- bytes that may be read -/
def ReadsB (w : World) (A : Option Addr) (len : Nat) : Prop := 0 < len → ∃ b o, A = some ⟨b, o, none⟩ ∧ b < w.heap.size ∧ ∀ i, i < len → ∃ v : Int, w.cell? ⟨b, o + i, none⟩ = some (.int .u8 v) ∧ 0 ≤ v ∧ v ≤ 255
theorem ReadsB.below {w w' : World} {A : Option Addr} {len : Nat} (h : ReadsB w A len) (hb : Below w.heap.size w w') : ReadsB w' A len := fun h0 => by
  obtain ⟨b, o, e, hlt, hc⟩ := h h0
  refine ⟨b, o, e, Nat.lt_of_lt_of_le hlt hb.size, fun i hi => ?_⟩
  obtain ⟨v, h1, h2⟩ := hc i hi
  exact ⟨v, (hb.cell (p := ⟨b, o + i, none⟩) hlt).trans h1, h2⟩
/-- the cursor's three cells, and that its count has gone at most to n; its bytes are older than it -/
def Cur (w0 w : World) (g n : Nat) : Prop := w0.heap.size ≤ g ∧ g < w.heap.size ∧ Below w0.heap.size w0 w ∧ ∃ (A : Option Addr) (len c : Nat) (k s : Int),
  w.cell? ⟨g, 0, none⟩ = some (.slice A len c) ∧ len ≤ 1048576 ∧ ReadsB w0 A len ∧ w.cell? ⟨g, 1, none⟩ = some (.int .i64 k) ∧ 0 ≤ k ∧ k ≤ n ∧ w.cell? ⟨g, 2, none⟩ = some (.int .u64 s) ∧ w.frozen? ⟨g, 1, none⟩ = false ∧ w.frozen? ⟨g, 2, none⟩ = false
def DrawN (w0 w : World) (g n : Nat) (lo hi : Int) (e : Ending) (w' : World) : Prop := ∃ x : Int, e = .returned (.int .i64 x) ∧ lo ≤ x ∧ x ≤ hi ∧ Cur w0 w' g n ∧ w.grownBy w' (some g)
theorem grownDrewN {a w : World} {row : Option Nat} (h : a.grownBy w row) (k : Nat) : a.grownBy (w.drewN k) row := ⟨h.os, h.tape, h.output, h.size, h.block⟩
theorem Cur.step {w0 w : World} {g n : Nat} {k : Int} (h : Cur w0 w g n) (hk : w.cell? ⟨g, 1, none⟩ = some (.int .i64 k)) (hkn : k ≤ n) (k0 : 0 ≤ k) (a b : Nat) (s : Int) :
    Cur w0 ((((w.drewN a).setCell ⟨g, 1, none⟩ (.int .i64 (k + 1))).setCell ⟨g, 2, none⟩ (.int .u64 s)).drewN b) g (n + 1) ∧ w.grownBy ((((w.drewN a).setCell ⟨g, 1, none⟩ (.int .i64 (k + 1))).setCell ⟨g, 2, none⟩ (.int .u64 s)).drewN b) (some g) := by
  obtain ⟨hg0, hg, hb0, A, len, c, k', s', h0, hl, hr, h1, k0, k1, h2, f1, f2⟩ := h
  have G : w.grownBy ((((w.drewN a).setCell ⟨g, 1, none⟩ (.int .i64 (k + 1))).setCell ⟨g, 2, none⟩ (.int .u64 s)).drewN b) (some g) :=
    grownDrewN (grownSet (grownSet (grownDrewN (World.grownBy.refl w (some g)) a) rfl 1 _) rfl 2 _) b
  refine ⟨⟨hg0, by simpa using hg, hb0.grown G (by have := hb0.size; omega) (fun j hj => by injection hj with hj; omega), A, len, c, k + 1, s, ?_, hl, hr, ?_, by omega, by omega, ?_, ?_, ?_⟩, G⟩
  all_goals simp [go_sem, *]
theorem and255 (x : Int) (h0 : 0 ≤ x) (h1 : x < 18446744073709551616) : 0 ≤ wrap64 (bits BinOp.and IntKind.u64 x 255) ∧ wrap64 (bits BinOp.and IntKind.u64 x 255) ≤ 255 := by
  obtain ⟨a, rfl⟩ := Int.eq_ofNat_of_zero_le h0
  have h := bits_and_u64_nat a 255 (by omega) (by omega)
  have h2 : a &&& 255 ≤ 255 := Nat.and_le_right
  rw [show ((255 : Nat) : Int) = 255 from rfl] at h
  rw [h]
  unfold wrap64
  omega
theorem shr40 (x : Int) : 0 ≤ IntKind.u64.wrap x / 1099511627776 ∧ IntKind.u64.wrap x / 1099511627776 < 18446744073709551616 := by
  have h : 0 ≤ IntKind.u64.wrap x ∧ IntKind.u64.wrap x < 18446744073709551616 := by
    rw [IntKind.wrap_u64]; omega
  omega
set_option maxHeartbeats 2000000 in
theorem next_any (w0 w : World) (g n : Nat) (hn : n ≤ 1000000000) (h : Cur w0 w g n) : Calls Tryz.prog 73 #[.pointer (some ⟨g, 0, none⟩)] w (DrawN w0 w g (n + 1) 0 255) := by
  have HC := Lib.hid h
  obtain ⟨hg0, hg, hb0, A, len, c, k, s, h0, hl, hr, h1, k0, k1, h2, f1, f2⟩ := h
  by_cases hlt : k < len
  · obtain ⟨j, rfl⟩ := Int.eq_ofNat_of_zero_le k0
    obtain ⟨b, o, rfl, hb, hc⟩ := (hr.below hb0) (by omega)
    obtain ⟨v, hv, v0, v1⟩ := hc j (by omega)
    have Hr := Lib.hid hr
    have Hc := Lib.hid hc
    clear hr hc
    have hj : (j : Int) < (len : Int) := hlt
    have hj1 : (j : Int) + 1 ≤ (len : Int) := by omega
    go_enter Tryz.func73, Tryz.ntmps73
    go_wp2
    go_quiet (fail)
    go_wp2
    go_quiet (fail)
    go_wp2
    go_quiet (fail)
    go_wp2
    go_ret
    have HS := HC.out.step h1 k1 k0
    exact ⟨_, rfl, v0, v1, (HS _ _ _).1, (HS _ _ _).2⟩
  · have hj : (len : Int) ≤ k := by omega
    have hj1 : ¬ k + 1 ≤ (len : Int) := by omega
    go_enter Tryz.func73, Tryz.ntmps73
    go_wp2
    go_quiet (fail)
    go_wp2
    go_quiet (fail)
    go_wp2
    go_ret
    have HS := HC.out.step h1 k1 k0
    exact ⟨_, rfl, (and255 _ (shr40 _).1 (shr40 _).2).1, (and255 _ (shr40 _).1 (shr40 _).2).2, (HS _ _ _).1, (HS _ _ _).2⟩
theorem mod_in {x n : Int} (h : 1 ≤ n) : 0 ≤ x % n ∧ x % n ≤ n - 1 := by
  have := Int.emod_nonneg x (by omega : n ≠ 0)
  have := Int.emod_lt_of_pos x (by omega : 0 < n)
  omega
theorem Cur.more {w0 w : World} {g n m : Nat} (h : Cur w0 w g n) (hm : n ≤ m) : Cur w0 w g m := by
  obtain ⟨hg0, hg, hb0, A, len, c, k, s, h0, hl, hr, h1, k0, k1, r⟩ := h
  exact ⟨hg0, hg, hb0, A, len, c, k, s, h0, hl, hr, h1, k0, by omega, r⟩
set_option maxHeartbeats 2000000 in
theorem pick_any (w0 w : World) (g n : Nat) (hn : n ≤ 1000000) (m : Int) (hm : m ≤ 1000000000) (h : Cur w0 w g n) : Calls Tryz.prog 46 #[.pointer (some ⟨g, 0, none⟩), .int .i64 m] w (DrawN w0 w g (n + 2) 0 (max 0 (m - 1))) := by
  have HC := Lib.hid h
  clear h
  by_cases h1 : m ≤ 1
  · go_enter Tryz.func46, Tryz.ntmps46
    go_wp2
    go_ret
    exact ⟨0, rfl, by omega, by omega, HC.out.more (by omega), World.grownBy.refl w _⟩
  · have h1' : 1 < m := by omega
    clear h1
    by_cases h2 : 200 < m
    · go_enter Tryz.func46, Tryz.ntmps46
      go_wp2_with fail
      refine (next_any w0 _ _ n (by omega) HC.out).mono ?_; rintro e w1 ⟨x, rfl, x0, x1, hc1, hg1⟩
      have HC1 := Lib.hid hc1
      have Hg1 := Lib.hid hg1
      clear hc1 hg1
      go_wp2_with fail
      refine (next_any w0 _ _ (n + 1) (by omega) HC1.out).mono ?_; rintro e w2 ⟨y, rfl, y0, y1, hc2, hg2⟩
      have HC2 := Lib.hid hc2
      have Hg2 := Lib.hid hg2
      have hmd := mod_in (x := x * 256 + y) (n := m) (by omega)
      clear hc2 hg2
      go_wp2
      go_ret
      exact ⟨_, rfl, hmd.1, by omega, HC2.out, Hg1.out.trans Hg2.out⟩
    · go_enter Tryz.func46, Tryz.ntmps46
      go_wp2_with fail
      refine (next_any w0 _ _ n (by omega) HC.out).mono ?_; rintro e w1 ⟨x, rfl, x0, x1, hc1, hg1⟩
      have HC1 := Lib.hid hc1
      have Hg1 := Lib.hid hg1
      have hmd := mod_in (x := x) (n := m) (by omega)
      clear hc1 hg1
      go_wp2
      go_ret
      exact ⟨_, rfl, hmd.1, by omega, HC1.out.more (by omega), Hg1.out⟩
end Go.Proofs.YtbjblkfibinenadGreatDoor


/-
  Plain facts on rising lists and on sums of unit fractions.
-/
namespace Go.Proofs.YtbjblkfibinenadGreatDoor
open Go.RowKit
/-- strictly increasing within bounds, behind a number that may be there -/
def rise (lo hi : Int) : Option Int → List Int → Bool
  | _, [] => true
  | p, t :: ts => decide (lo ≤ t) && decide (t ≤ hi) && (match p with | none => true | some q => decide (q < t)) && rise lo hi (some t) ts
/-- the number ahead of place k -/
def ahead (xs : List Int) (k : Nat) : Option Int := match k with | 0 => none | j + 1 => xs[j]?
/-- the sum from n / d on, if all sums on the way are small enough -/
def sumL : Int → Int → List Int → Option (Int × Int)
  | n, d, [] => some (n, d)
  | n, d, t :: ts => if redB (n * t + d) (d * t) = true then sumL (redN (n * t + d) (d * t)) (redD (n * t + d) (d * t)) ts else none
def expB (xs : List Int) : Bool := decide (xs.length ≤ 24) && rise 1 1000000000 none xs && (sumL 0 1 xs).isSome
def sumN (xs : List Int) : Int := ((sumL 0 1 xs).getD (0, 0)).1
def sumD (xs : List Int) : Int := ((sumL 0 1 xs).getD (0, 0)).2

theorem drop_at {xs : List Int} {k : Nat} {x : Int} (h : xs[k]? = some x) : xs.drop k = x :: xs.drop (k + 1) := by
  have hk : k < xs.length := (List.getElem?_eq_some_iff.1 h).1
  have hx : xs[k] = x := (List.getElem?_eq_some_iff.1 h).2
  rw [List.drop_eq_getElem_cons hk, hx]
theorem drop_all (xs : List Int) : xs.drop xs.length = [] := List.drop_of_length_le (Nat.le_refl _)
theorem rise_nil (lo hi : Int) (p : Option Int) : rise lo hi p [] = true := by cases p <;> rfl
theorem rise_out {lo hi t : Int} {p : Option Int} {ts : List Int} (h : ¬ (lo ≤ t ∧ t ≤ hi)) : rise lo hi p (t :: ts) = false := by
  unfold rise
  by_cases h1 : lo ≤ t
  · have h2 : ¬ t ≤ hi := fun h2 => h ⟨h1, h2⟩
    simp [h2]
  · simp [h1]
theorem rise_low {lo hi t q : Int} {ts : List Int} (h : ¬ q < t) : rise lo hi (some q) (t :: ts) = false := by unfold rise; simp [h]
theorem rise_first {lo hi t : Int} {ts : List Int} (h1 : lo ≤ t) (h2 : t ≤ hi) : rise lo hi none (t :: ts) = rise lo hi (some t) ts := by
  show (decide (lo ≤ t) && decide (t ≤ hi) && true && rise lo hi (some t) ts) = _
  simp [h1, h2]
theorem rise_next {lo hi t q : Int} {ts : List Int} (h1 : lo ≤ t) (h2 : t ≤ hi) (h3 : q < t) : rise lo hi (some q) (t :: ts) = rise lo hi (some t) ts := by
  show (decide (lo ≤ t) && decide (t ≤ hi) && decide (q < t) && rise lo hi (some t) ts) = _
  simp [h1, h2, h3]
/-- a number below all lets the first one by -/
theorem rise_zero {lo hi q : Int} {ts : List Int} (h : q < lo) : rise lo hi (some q) ts = rise lo hi none ts := by
  cases ts with
  | nil => rfl
  | cons t ts =>
    by_cases h1 : lo ≤ t ∧ t ≤ hi
    · rw [rise_first h1.1 h1.2, rise_next h1.1 h1.2 (by omega)]
    · rw [rise_out h1, rise_out h1]
theorem sumL_yes {n d t : Int} {ts : List Int} (h : redB (n * t + d) (d * t) = true) : sumL n d (t :: ts) = sumL (redN (n * t + d) (d * t)) (redD (n * t + d) (d * t)) ts := by
  show (if _ then _ else _) = _
  rw [if_pos h]
theorem sumL_no {n d t : Int} {ts : List Int} (h : redB (n * t + d) (d * t) = false) : sumL n d (t :: ts) = none := by
  show (if _ then _ else _) = _
  rw [h]; rfl
theorem expB_long {xs : List Int} (h : ¬ xs.length ≤ 24) : expB xs = false := by simp [expB, h]
theorem expB_rise {xs : List Int} (h : rise 1 1000000000 none xs = false) : expB xs = false := by simp [expB, h]
theorem expB_sum {xs : List Int} (h : sumL 0 1 xs = none) : expB xs = false := by simp [expB, h]
theorem expB_yes {xs : List Int} {n d : Int} (h1 : xs.length ≤ 24) (h2 : rise 1 1000000000 none xs = true) (h3 : sumL 0 1 xs = some (n, d)) : expB xs = true := by simp [expB, h1, h2, h3]
theorem sumN_of {xs : List Int} {n d : Int} (h : sumL 0 1 xs = some (n, d)) : sumN xs = n := by simp [sumN, h]
theorem sumD_of {xs : List Int} {n d : Int} (h : sumL 0 1 xs = some (n, d)) : sumD xs = d := by simp [sumD, h]
theorem expB_parts {xs : List Int} (h : expB xs = true) : xs.length ≤ 24 ∧ rise 1 1000000000 none xs = true ∧ sumL 0 1 xs = some (sumN xs, sumD xs) := by
  simp only [expB, Bool.and_eq_true, decide_eq_true_eq] at h
  refine ⟨h.1.1, h.1.2, ?_⟩
  cases hs : sumL 0 1 xs with
  | none => rw [hs] at h; cases h.2
  | some p => simp [sumN, sumD, hs]
/-- numbers in lowest terms that are small enough are a fraction -/
theorem good_of_redB {n d : Int} (hn : 0 ≤ n) (hd : 1 ≤ d) (h : redB n d = true) : goodB (redN n d) (redD n d) = true := by
  rw [redN, redD, if_pos h, if_pos h, good_red hn hd, h]
theorem good_unit {t : Int} (h1 : 1 ≤ t) (h2 : t ≤ 1000000000) : goodB 1 t = true := by
  rw [goodB_iff]
  refine ⟨by omega, by omega, h1, h2, ?_⟩
  unfold gcdI
  rw [Int.gcd_one_left]; rfl
theorem good_unit_no {t : Int} (h : ¬ (1 ≤ t ∧ t ≤ 1000000000)) : goodB 1 t = false := goodB_not (fun h2 => h ⟨h2.2.2.1, h2.2.2.2.1⟩)
theorem good_zero : goodB 0 1 = true := by decide +kernel
end Go.Proofs.YtbjblkfibinenadGreatDoor


/-
  Contracts of the search for a number in a list.
-/
namespace Go.Proofs.YtbjblkfibinenadGreatDoor
open Go.RowKit
def hasB : List Int → Int → Bool
  | [], _ => false
  | y :: ys, x => decide (y = x) || hasB ys x
def idxFrom : Nat → List Int → Int → Int
  | _, [], _ => -1
  | k, y :: ys, x => if y = x then (k : Int) else idxFrom (k + 1) ys x
theorem hasB_iff (xs : List Int) (x : Int) : hasB xs x = true ↔ x ∈ xs := by
  induction xs with
  | nil => simp [hasB]
  | cons y ys ih =>
    simp only [hasB, Bool.or_eq_true, decide_eq_true_eq, ih, List.mem_cons]
    exact ⟨fun h => h.imp Eq.symm id, fun h => h.imp Eq.symm id⟩
theorem idx_hit {k : Nat} {ys : List Int} {x y : Int} (h : y = x) : idxFrom k (y :: ys) x = k := by simp [idxFrom, h]
theorem idx_miss {k : Nat} {ys : List Int} {x y : Int} (h : y ≠ x) : idxFrom k (y :: ys) x = idxFrom (k + 1) ys x := by simp [idxFrom, h]
theorem idx_has (xs : List Int) (x : Int) : ∀ k : Nat, decide (0 ≤ idxFrom k xs x) = hasB xs x := by
  induction xs with
  | nil => intro k; rfl
  | cons y ys ih =>
    intro k
    by_cases h : y = x
    · rw [idx_hit h]; simp [hasB, h]
    · rw [idx_miss h, ih]; simp [hasB, h]
theorem has_hit {ys : List Int} {x y : Int} (h : y = x) : hasB (y :: ys) x = true := by simp [hasB, h]
theorem has_miss {ys : List Int} {x y : Int} (h : y ≠ x) : hasB (y :: ys) x = hasB ys x := by simp [hasB, h]

end Go.Proofs.YtbjblkfibinenadGreatDoor


/-
  Plain facts on putting a number into a rising list.
-/
namespace Go.Proofs.YtbjblkfibinenadGreatDoor
open Go.RowKit
/-- how many numbers at the list's beginning are less -/
def pos : List Int → Int → Nat
  | [], _ => 0
  | y :: ys, v => if y < v then pos ys v + 1 else 0
def insAt (xs : List Int) (p : Nat) (v : Int) : List Int := xs.take p ++ v :: xs.drop p
/-- what a rising list becomes that gets a number, unless it is there -/
def putL (xs : List Int) (v : Int) : List Int := if xs[pos xs v]? = some v then xs else insAt xs (pos xs v) v
def Rising (xs : List Int) : Prop := xs.Pairwise (· < ·)
theorem pos_le (xs : List Int) (v : Int) : pos xs v ≤ xs.length := by
  induction xs with
  | nil => simp [pos]
  | cons y ys ih => unfold pos; split <;> simp; omega
theorem pos_below (xs : List Int) (v : Int) : ∀ (i : Nat) (x : Int), i < pos xs v → xs[i]? = some x → x < v := by
  induction xs with
  | nil => intro i x h; simp [pos] at h
  | cons y ys ih =>
    intro i x h hx
    unfold pos at h
    split at h
    · cases i with
      | zero => simp at hx; omega
      | succ i => exact ih i x (by omega) (by simpa using hx)
    · omega
theorem pos_at (xs : List Int) (v : Int) : ∀ (x : Int), xs[pos xs v]? = some x → v ≤ x := by
  induction xs with
  | nil => intro x h; simp at h
  | cons y ys ih =>
    intro x h
    unfold pos at h
    split at h
    · exact ih x (by simpa using h)
    · simp at h; omega
/-- the place is told by what lies before and behind -/
theorem pos_of {xs : List Int} {v : Int} {p : Nat} (hp : p ≤ xs.length) (h1 : ∀ (i : Nat) (x : Int), i < p → xs[i]? = some x → x < v) (h2 : ∀ (x : Int), xs[p]? = some x → v ≤ x) : pos xs v = p := by
  rcases Nat.lt_trichotomy (pos xs v) p with h | h | h
  · have hl : pos xs v < xs.length := by omega
    have a := h1 _ xs[pos xs v] h (List.getElem?_eq_getElem hl)
    have b := pos_at xs v xs[pos xs v] (List.getElem?_eq_getElem hl)
    omega
  · exact h
  · have hl : p < xs.length := by have := pos_le xs v; omega
    have a := pos_below xs v p xs[p] h (List.getElem?_eq_getElem hl)
    have b := h2 xs[p] (List.getElem?_eq_getElem hl)
    omega
theorem Rising.lt {xs : List Int} (h : Rising xs) {i j : Nat} {x y : Int} (hij : i < j) (hx : xs[i]? = some x) (hy : xs[j]? = some y) : x < y := by
  obtain ⟨hi, rfl⟩ := List.getElem?_eq_some_iff.1 hx
  obtain ⟨hj, rfl⟩ := List.getElem?_eq_some_iff.1 hy
  exact List.pairwise_iff_getElem.1 h i j hi hj hij
theorem Rising.le {xs : List Int} (h : Rising xs) {i j : Nat} {x y : Int} (hij : i ≤ j) (hx : xs[i]? = some x) (hy : xs[j]? = some y) : x ≤ y := by
  rcases Nat.lt_or_eq_of_le hij with h1 | h1
  · have := h.lt h1 hx hy; omega
  · subst h1; rw [hx] at hy; injection hy; omega
theorem found_iff {xs : List Int} (h : Rising xs) (v : Int) : xs[pos xs v]? = some v ↔ hasB xs v = true := by
  rw [hasB_iff]
  constructor
  · exact fun h => List.mem_of_getElem? h
  · intro hm
    obtain ⟨i, hi⟩ := List.getElem?_of_mem hm
    have hle : pos xs v ≤ i := by
      rcases Nat.lt_or_ge i (pos xs v) with h1 | h1
      · have := pos_below xs v i v h1 hi; omega
      · exact h1
    have hl : pos xs v < xs.length := by have := (List.getElem?_eq_some_iff.1 hi).1; omega
    have a := pos_at xs v xs[pos xs v] (List.getElem?_eq_getElem hl)
    have b := h.le hle (List.getElem?_eq_getElem hl) hi
    rw [List.getElem?_eq_getElem hl]
    congr 1
    omega
theorem ins_mem {xs : List Int} {p : Nat} {v x : Int} : x ∈ insAt xs p v ↔ x = v ∨ x ∈ xs := by
  unfold insAt
  rw [List.mem_append, List.mem_cons]
  constructor
  · rintro (h | h | h)
    · exact .inr (List.mem_of_mem_take h)
    · exact .inl h
    · exact .inr (List.mem_of_mem_drop h)
  · rintro (h | h)
    · exact .inr (.inl h)
    · rw [← List.take_append_drop p xs, List.mem_append] at h
      rcases h with h | h
      · exact .inl h
      · exact .inr (.inr h)
theorem ins_len (xs : List Int) (p : Nat) (v : Int) (hp : p ≤ xs.length) : (insAt xs p v).length = xs.length + 1 := by simp [insAt]; omega
theorem Rising.ins {xs : List Int} (h : Rising xs) {v : Int} (hv : ¬ hasB xs v = true) : Rising (insAt xs (pos xs v) v) := by
  unfold insAt Rising
  have hs := h
  unfold Rising at hs
  rw [← List.take_append_drop (pos xs v) xs, List.pairwise_append] at hs
  obtain ⟨h1, h2, h3⟩ := hs
  rw [List.pairwise_append, List.pairwise_cons]
  have hlow : ∀ x ∈ xs.take (pos xs v), x < v := fun x hx => by
    obtain ⟨i, hi⟩ := List.getElem?_of_mem hx
    rw [List.getElem?_take] at hi
    split at hi
    · rename_i hlt
      exact pos_below xs v i x hlt hi
    · cases hi
  have hhigh : ∀ x ∈ xs.drop (pos xs v), v < x := fun x hx => by
    obtain ⟨i, hi⟩ := List.getElem?_of_mem hx
    rw [List.getElem?_drop] at hi
    have hl : pos xs v < xs.length := by have := (List.getElem?_eq_some_iff.1 hi).1; omega
    have a := pos_at xs v xs[pos xs v] (List.getElem?_eq_getElem hl)
    have b := h.le (Nat.le_add_right (pos xs v) i) (List.getElem?_eq_getElem hl) hi
    have c : x ≠ v := fun e => hv ((hasB_iff xs v).2 (by rw [← e]; exact List.mem_of_getElem? hi))
    omega
  refine ⟨h1, ⟨hhigh, h2⟩, fun a ha b hb => ?_⟩
  rcases List.mem_cons.1 hb with rfl | hb
  · exact hlow a ha
  · exact h3 a ha b hb
theorem put_no {xs : List Int} (h : Rising xs) {v : Int} (hv : ¬ hasB xs v = true) : putL xs v = insAt xs (pos xs v) v := by
  rw [putL, if_neg (fun e => hv ((found_iff h v).1 e))]
theorem put_yes {xs : List Int} (h : Rising xs) {v : Int} (hv : hasB xs v = true) : putL xs v = xs := by
  rw [putL, if_pos ((found_iff h v).2 hv)]
theorem rise_rising {lo hi : Int} : ∀ {xs : List Int} {p : Option Int}, rise lo hi p xs = true → Rising xs ∧ ∀ q, p = some q → ∀ x ∈ xs, q < x
  | [], p, _ => ⟨List.Pairwise.nil, fun q _ x hx => by simp at hx⟩
  | t :: ts, p, hr => by
    unfold rise at hr
    simp only [Bool.and_eq_true, decide_eq_true_eq] at hr
    obtain ⟨ih1, ih2⟩ := rise_rising hr.2
    refine ⟨List.pairwise_cons.2 ⟨fun x hx => ih2 t rfl x hx, ih1⟩, fun q hq x hx => ?_⟩
    subst hq
    have h1 : q < t := by simpa using hr.1.2
    rcases List.mem_cons.1 hx with rfl | hx
    · exact h1
    · have := ih2 t rfl x hx; omega
theorem expB_rising {xs : List Int} (h : expB xs = true) : Rising xs := (rise_rising (expB_parts h).2.1).1
end Go.Proofs.YtbjblkfibinenadGreatDoor
