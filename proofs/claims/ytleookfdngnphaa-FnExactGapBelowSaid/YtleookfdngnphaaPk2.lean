import Derived.Test.YtleookfdngnphaaPk1

/-
  What functions leave that return a list and whether it is told.
-/
namespace Go.Proofs.Ytleookfdngnphaa
open Go.RowKit
/-- of the program: a new slice of the call's own -/
def RetLB (ys : List Int) (b : Bool) (w : World) (e : Ending) (w' : World) : Prop := ∃ v, e = .returned (.tuple #[v, .bool b]) ∧ OwnI w' w.heap.size v ys ∧ Below w.heap.size w w'
/-- of the model: a slice that reads so -/
def RetRB (ys : List Int) (b : Bool) (w : World) (e : Ending) (w' : World) : Prop := ∃ A c, e = .returned (.tuple #[.slice A ys.length c, .bool b]) ∧ Reads w' A ys ∧ Below w.heap.size w w'
def RetR (ys : List Int) (w : World) (e : Ending) (w' : World) : Prop := ∃ A c, e = .returned (.slice A ys.length c) ∧ ys.length ≤ c ∧ Reads w' A ys ∧ Below w.heap.size w w'
section
variable {w w' : World} {base : Nat} {v : Value} {xs ys : List Int}
theorem OwnI.reads {A : Option Addr} {n c : Nat} (h : OwnI w base (.slice A n c) xs) : Reads w A xs ∧ n = xs.length := by
  obtain ⟨A', c', e, hr⟩ := h.form
  injection e with e1 e2 e3
  subst e1
  exact ⟨hr, e2⟩
theorem OwnI.cap_ {A : Option Addr} {n c : Nat} (h : OwnI w base (.slice A n c) xs) : n ≤ c := by
  rcases h.2 with ⟨hv, h0⟩ | ⟨g, cap, cur, hv, _, _, hnc, _⟩
  · injection hv with _ h1 h2; omega
  · injection hv with _ h1 h2; omega
theorem Reads.cutTo {A : Option Addr} (k : Nat) (h : Reads w A xs) : Reads w A (xs.take k) := fun h0 => by
  rw [List.length_take] at h0
  obtain ⟨b, o, rfl, hb, hx⟩ := h (by omega)
  refine ⟨b, o, rfl, hb, fun i x hi => hx i x ?_⟩
  rw [List.getElem?_take] at hi
  split at hi
  · exact hi
  · cases hi
theorem Reads.cutFrom {A : Option Addr} {k c : Nat} (h : Reads w A xs) (hk : k ≤ xs.length) (hc : xs.length ≤ c) : Reads w (if c = k then A else A.map (·.add k)) (xs.drop k) := fun h0 => by
  rw [List.length_drop] at h0
  obtain ⟨b, o, rfl, hb, hx⟩ := h (by omega)
  refine ⟨b, o + k, by rw [if_neg (by omega), Option.map_some, Go.WideShapes.add_plain], hb, fun i x hi => ?_⟩
  rw [List.getElem?_drop] at hi
  rw [Nat.add_assoc]
  exact hx (k + i) x hi
/-- other spellings of the address of a cut -/
theorem Reads.cutA {A : Option Addr} {k c : Nat} (h : Reads w A xs) (hk : k ≤ xs.length) (hc : xs.length ≤ c) (hne : ¬ c = k) : Reads w (A.map (·.add k)) (xs.drop k) := by
  have := h.cutFrom hk hc
  rwa [if_neg hne] at this
theorem Reads.cutS {b o k : Nat} (h : Reads w (some ⟨b, o, none⟩) xs) : Reads w (some ⟨b, o + k, none⟩) (xs.drop k) := fun h0 => by
  rw [List.length_drop] at h0
  obtain ⟨b', o', e, hb, hx⟩ := h (by omega)
  injection e with e
  injection e with e1 e2 _
  subst e1 e2
  refine ⟨b, o + k, rfl, hb, fun i x hi => ?_⟩
  rw [List.getElem?_drop] at hi
  rw [Nat.add_assoc]
  exact hx (k + i) x hi
theorem OwnI.drewN (h : OwnI w base v xs) (k : Nat) : OwnI (w.drewN k) base v xs := h
theorem OwnI.kept_ {v' : Value} (h : OwnI w base v xs) (hg : w.grownBy w' v'.ownBlock) (hlt : ∀ k, v'.ownBlock = some k → k < base) : OwnI w' base v xs := by
  refine World.ownsRow.kept h hg ?_
  cases hv : v.ownBlock with
  | none => exact .inl rfl
  | some k =>
    refine .inr fun e => ?_
    have h1 := (h.block k hv).1
    have h2 := hlt k e.symm
    omega
theorem belowMark {v' : Value} {B : Nat} (hg : w.grownBy w' v'.ownBlock) (hB : B ≤ w.heap.size) (hlt : ∀ k, v'.ownBlock = some k → B ≤ k) : Below B w w' :=
  (Below.refl B w).grown hg hB hlt
theorem OwnI.slice_ {A : Option Addr} {n c : Nat} (h : OwnI w base (.slice A n c) xs) : OwnI w base (.slice A xs.length c) xs := by
  have := h.reads.2
  subst this
  exact h
end
end Go.Proofs.Ytleookfdngnphaa


/-
  Plain facts on rising lists and on sums of unit fractions.
-/
namespace Go.Proofs.Ytleookfdngnphaa
open Go.RowKit
/-- strictly increasing within bounds, behind a number that may be there -/
def rise (lo hi : Int) : Option Int → List Int → Bool
  | _, [] => true
  | p, t :: ts => decide (lo ≤ t) && decide (t ≤ hi) && (match p with | none => true | some q => decide (q < t)) && rise lo hi (some t) ts
/-- the number ahead of place k -/
def ahead (xs : List Int) (k : Nat) : Option Int := match k with | 0 => none | j + 1 => xs[j]?
/-- the sum from n / d on, if all sums on the way are small enough -/
def sumL : Int → Int → List Int → Option (Int × Int)
  | n, d, [] => some (n, d)
  | n, d, t :: ts => if redB (n * t + d) (d * t) = true then sumL (redN (n * t + d) (d * t)) (redD (n * t + d) (d * t)) ts else none
def expB (xs : List Int) : Bool := decide (xs.length ≤ 24) && rise 1 1000000000 none xs && (sumL 0 1 xs).isSome
def sumN (xs : List Int) : Int := ((sumL 0 1 xs).getD (0, 0)).1
def sumD (xs : List Int) : Int := ((sumL 0 1 xs).getD (0, 0)).2

theorem drop_at {xs : List Int} {k : Nat} {x : Int} (h : xs[k]? = some x) : xs.drop k = x :: xs.drop (k + 1) := by
  have hk : k < xs.length := (List.getElem?_eq_some_iff.1 h).1
  have hx : xs[k] = x := (List.getElem?_eq_some_iff.1 h).2
  rw [List.drop_eq_getElem_cons hk, hx]
theorem drop_all (xs : List Int) : xs.drop xs.length = [] := List.drop_of_length_le (Nat.le_refl _)
theorem rise_nil (lo hi : Int) (p : Option Int) : rise lo hi p [] = true := by cases p <;> rfl
theorem rise_out {lo hi t : Int} {p : Option Int} {ts : List Int} (h : ¬ (lo ≤ t ∧ t ≤ hi)) : rise lo hi p (t :: ts) = false := by
  unfold rise
  by_cases h1 : lo ≤ t
  · have h2 : ¬ t ≤ hi := fun h2 => h ⟨h1, h2⟩
    simp [h2]
  · simp [h1]
theorem rise_low {lo hi t q : Int} {ts : List Int} (h : ¬ q < t) : rise lo hi (some q) (t :: ts) = false := by unfold rise; simp [h]
theorem rise_first {lo hi t : Int} {ts : List Int} (h1 : lo ≤ t) (h2 : t ≤ hi) : rise lo hi none (t :: ts) = rise lo hi (some t) ts := by
  show (decide (lo ≤ t) && decide (t ≤ hi) && true && rise lo hi (some t) ts) = _
  simp [h1, h2]
theorem rise_next {lo hi t q : Int} {ts : List Int} (h1 : lo ≤ t) (h2 : t ≤ hi) (h3 : q < t) : rise lo hi (some q) (t :: ts) = rise lo hi (some t) ts := by
  show (decide (lo ≤ t) && decide (t ≤ hi) && decide (q < t) && rise lo hi (some t) ts) = _
  simp [h1, h2, h3]
/-- a number below all lets the first one by -/
theorem rise_zero {lo hi q : Int} {ts : List Int} (h : q < lo) : rise lo hi (some q) ts = rise lo hi none ts := by
  cases ts with
  | nil => rfl
  | cons t ts =>
    by_cases h1 : lo ≤ t ∧ t ≤ hi
    · rw [rise_first h1.1 h1.2, rise_next h1.1 h1.2 (by omega)]
    · rw [rise_out h1, rise_out h1]
theorem sumL_yes {n d t : Int} {ts : List Int} (h : redB (n * t + d) (d * t) = true) : sumL n d (t :: ts) = sumL (redN (n * t + d) (d * t)) (redD (n * t + d) (d * t)) ts := by
  show (if _ then _ else _) = _
  rw [if_pos h]
theorem sumL_no {n d t : Int} {ts : List Int} (h : redB (n * t + d) (d * t) = false) : sumL n d (t :: ts) = none := by
  show (if _ then _ else _) = _
  rw [h]; rfl
theorem expB_long {xs : List Int} (h : ¬ xs.length ≤ 24) : expB xs = false := by simp [expB, h]
theorem expB_rise {xs : List Int} (h : rise 1 1000000000 none xs = false) : expB xs = false := by simp [expB, h]
theorem expB_sum {xs : List Int} (h : sumL 0 1 xs = none) : expB xs = false := by simp [expB, h]
theorem expB_yes {xs : List Int} {n d : Int} (h1 : xs.length ≤ 24) (h2 : rise 1 1000000000 none xs = true) (h3 : sumL 0 1 xs = some (n, d)) : expB xs = true := by simp [expB, h1, h2, h3]
theorem sumN_of {xs : List Int} {n d : Int} (h : sumL 0 1 xs = some (n, d)) : sumN xs = n := by simp [sumN, h]
theorem sumD_of {xs : List Int} {n d : Int} (h : sumL 0 1 xs = some (n, d)) : sumD xs = d := by simp [sumD, h]
theorem expB_parts {xs : List Int} (h : expB xs = true) : xs.length ≤ 24 ∧ rise 1 1000000000 none xs = true ∧ sumL 0 1 xs = some (sumN xs, sumD xs) := by
  simp only [expB, Bool.and_eq_true, decide_eq_true_eq] at h
  refine ⟨h.1.1, h.1.2, ?_⟩
  cases hs : sumL 0 1 xs with
  | none => rw [hs] at h; cases h.2
  | some p => simp [sumN, sumD, hs]
/-- numbers in lowest terms that are small enough are a fraction -/
theorem good_of_redB {n d : Int} (hn : 0 ≤ n) (hd : 1 ≤ d) (h : redB n d = true) : goodB (redN n d) (redD n d) = true := by
  rw [redN, redD, if_pos h, if_pos h, good_red hn hd, h]
theorem good_unit {t : Int} (h1 : 1 ≤ t) (h2 : t ≤ 1000000000) : goodB 1 t = true := by
  rw [goodB_iff]
  refine ⟨by omega, by omega, h1, h2, ?_⟩
  unfold gcdI
  rw [Int.gcd_one_left]; rfl
theorem good_unit_no {t : Int} (h : ¬ (1 ≤ t ∧ t ≤ 1000000000)) : goodB 1 t = false := goodB_not (fun h2 => h ⟨h2.2.2.1, h2.2.2.2.1⟩)
theorem good_zero : goodB 0 1 = true := by decide +kernel
end Go.Proofs.Ytleookfdngnphaa


/-
  Contracts of the two functions that compute greatest common divisors.
-/
namespace Go.Proofs.Ytleookfdngnphaa
open Go.RowKit

set_option maxHeartbeats 400000 in
theorem commonDivisor_any (a b : Int) (w : World) (ha : 0 ≤ a) (hb : 0 ≤ b) (ha2 : a ≤ 9223372036854775807) (hb2 : b ≤ 9223372036854775807) :
    Calls Try.prog 172 #[.int .i64 a, .int .i64 b] w (RetQ (.int .i64 (gcdI a b)) w) := by
  go_enter Try.func172, Try.ntmps172
  go_wp2
  go_loopw [0, 1] (fun v0 v1 wr => ∃ x y : Int, 0 ≤ x ∧ 0 ≤ y ∧ x ≤ 9223372036854775807 ∧ y ≤ 9223372036854775807 ∧ v0 = .int .i64 x ∧ v1 = .int .i64 y ∧ gcdI x y = gcdI a b ∧ ∃ n, wr = w.drewN n) (fun _ v1 _ => (intOf v1).toNat)
  case atStart => exact ⟨a, b, ha, hb, ha2, hb2, rfl, rfl, rfl, 0, rfl⟩
  case round =>
    obtain ⟨x, y, hx, hy, hx2, hy2, rfl, rfl, hg, k, rfl⟩ := hrel
    have Hg := Lib.hid hg
    clear hg
    by_cases h0 : y = 0
    · subst h0
      go_wp2
      go_ret
      exact ⟨ret_int (by rw [← Hg.out, gcdI_zero x hx]), k, rfl⟩
    · have hne : ((y : Int) != 0) = true := by rw [bne_iff_ne]; omega
      have hy1 : 1 ≤ y := by omega
      have hr1 := Int.emod_nonneg x h0
      have hr2 := Int.emod_lt_of_pos x (b := y) (by omega)
      go_wp2
      go_region
      all_goals
        go_wp2
        go_roundw
        case rel => exact ⟨y, x % y, by omega, by omega, by omega, by omega, rfl, rfl, by rw [gcdI_step x y hx hy]; exact Hg.out, k + 1, rfl⟩
        case measure => simp [intOf]; omega

set_option maxHeartbeats 400000 in
theorem unGcd_any (a b : Int) (w : World) (ha : 0 ≤ a) (hb : 0 ≤ b) (ha2 : a ≤ 9223372036854775807) (hb2 : b ≤ 9223372036854775807) :
    Calls Try.prog 171 #[.int .i64 a, .int .i64 b] w (RetQ (.int .i64 (gcdI a b)) w) := by
  go_enter Try.func171, Try.ntmps171
  go_wp2
  go_loopw [0, 1] (fun v0 v1 wr => ∃ x y : Int, 0 ≤ x ∧ 0 ≤ y ∧ x ≤ 9223372036854775807 ∧ y ≤ 9223372036854775807 ∧ v0 = .int .i64 x ∧ v1 = .int .i64 y ∧ gcdI x y = gcdI a b ∧ ∃ n, wr = w.drewN n) (fun _ v1 _ => (intOf v1).toNat)
  case atStart => exact ⟨a, b, ha, hb, ha2, hb2, rfl, rfl, rfl, 0, rfl⟩
  case round =>
    obtain ⟨x, y, hx, hy, hx2, hy2, rfl, rfl, hg, k, rfl⟩ := hrel
    have Hg := Lib.hid hg
    clear hg
    by_cases h0 : y = 0
    · subst h0
      go_wp2
      go_ret
      exact ⟨ret_int (by rw [← Hg.out, gcdI_zero x hx]), k, rfl⟩
    · have hy1 : 1 ≤ y := by omega
      have hr1 := Int.emod_nonneg x h0
      have hr2 := Int.emod_lt_of_pos x (b := y) (by omega)
      go_wp2
      go_region
      all_goals
        go_wp2
        go_roundw
        case rel => exact ⟨y, x % y, by omega, by omega, by omega, by omega, rfl, rfl, by rw [gcdI_step x y hx hy]; exact Hg.out, k + 1, rfl⟩
        case measure => simp [intOf]; omega
end Go.Proofs.Ytleookfdngnphaa


/-
  The contract of the function that brings a quotient into lowest terms.
-/
namespace Go.Proofs.Ytleookfdngnphaa
open Go.RowKit

set_option maxHeartbeats 400000 in
theorem reduce_any (n d : Int) (w : World) (hn : 0 ≤ n) (hd : 1 ≤ d) (hn2 : n ≤ 9223372036854775807) (hd2 : d ≤ 9223372036854775807) :
    Calls Try.prog 109 #[.int .i64 n, .int .i64 d] w (Ret (.tuple #[.agg #[.int .i64 (redN n d), .int .i64 (redD n d)], .bool (redB n d)]) w) := by
  have hg1 : 1 ≤ gcdI n d := by have := gcdI_pos n d (by omega); omega
  have hg2 : gcdI n d ≤ 9223372036854775807 := by have := gcdI_leR n d (by omega); omega
  have hq1 : 0 ≤ n / gcdI n d := Int.ediv_nonneg hn (by omega)
  have hq2 : 0 ≤ d / gcdI n d := Int.ediv_nonneg (by omega) (by omega)
  by_cases h1 : n / gcdI n d ≤ 1000000000
  · by_cases h2 : d / gcdI n d ≤ 1000000000
    · have HB := Lib.hid (redB_yes h1 h2)
      go_enter Try.func109, Try.ntmps109
      go_wp2_with (go_at_call 172; refine (commonDivisor_any _ _ _ hn (by omega) hn2 hd2).mono ?_; rintro e w1 ⟨rfl, k1, rfl⟩)
      go_region
      all_goals
        go_wp2
        go_returns
        exact ⟨ret_fr (by rw [redN, if_pos HB.out]) (by rw [redD, if_pos HB.out]) HB.out.symm, by (repeat' (first | (with_reducible exact Below.refl _ _) | (with_reducible assumption) | (with_reducible refine Below.drew ?_) | (with_reducible refine belowDrewN ?_ _) | (with_reducible refine Below.alloc ?_ ?_ _) | (with_reducible refine Below.setCell ?_ ?_ _) | (with_reducible refine belowStep (by assumption) ?_ ?_) | (with_reducible exact Below.size (by assumption)) | go_size))⟩
    · have HB := Lib.hid (redB_no2 (n := n) h2)
      go_enter Try.func109, Try.ntmps109
      go_wp2_with (go_at_call 172; refine (commonDivisor_any _ _ _ hn (by omega) hn2 hd2).mono ?_; rintro e w1 ⟨rfl, k1, rfl⟩)
      go_region
      all_goals
        go_wp2
        go_returns
        exact ⟨ret_fr (by rw [redN, HB.out]; rfl) (by rw [redD, HB.out]; rfl) HB.out.symm, by (repeat' (first | (with_reducible exact Below.refl _ _) | (with_reducible assumption) | (with_reducible refine Below.drew ?_) | (with_reducible refine belowDrewN ?_ _) | (with_reducible refine Below.alloc ?_ ?_ _) | (with_reducible refine Below.setCell ?_ ?_ _) | (with_reducible refine belowStep (by assumption) ?_ ?_) | (with_reducible exact Below.size (by assumption)) | go_size))⟩
  · have HB := Lib.hid (redB_no1 (d := d) h1)
    go_enter Try.func109, Try.ntmps109
    go_wp2_with (go_at_call 172; refine (commonDivisor_any _ _ _ hn (by omega) hn2 hd2).mono ?_; rintro e w1 ⟨rfl, k1, rfl⟩)
    go_region
    all_goals
      go_wp2
      go_returns
      exact ⟨ret_fr (by rw [redN, HB.out]; rfl) (by rw [redD, HB.out]; rfl) HB.out.symm, by (repeat' (first | (with_reducible exact Below.refl _ _) | (with_reducible assumption) | (with_reducible refine Below.drew ?_) | (with_reducible refine belowDrewN ?_ _) | (with_reducible refine Below.alloc ?_ ?_ _) | (with_reducible refine Below.setCell ?_ ?_ _) | (with_reducible refine belowStep (by assumption) ?_ ?_) | (with_reducible exact Below.size (by assumption)) | go_size))⟩

theorem reduce_yes (n d : Int) (w : World) (hn : 0 ≤ n) (hd : 1 ≤ d) (hn2 : n ≤ 9223372036854775807) (hd2 : d ≤ 9223372036854775807) (hb : redB n d = true) :
    Calls Try.prog 109 #[.int .i64 n, .int .i64 d] w (Ret (.tuple #[.agg #[.int .i64 (n / gcdI n d), .int .i64 (d / gcdI n d)], .bool true]) w) := by
  have h := reduce_any n d w hn hd hn2 hd2
  rw [redN, redD, hb] at h
  exact h

theorem reduce_no (n d : Int) (w : World) (hn : 0 ≤ n) (hd : 1 ≤ d) (hn2 : n ≤ 9223372036854775807) (hd2 : d ≤ 9223372036854775807) (hb : redB n d = false) :
    Calls Try.prog 109 #[.int .i64 n, .int .i64 d] w (Ret (.tuple #[.agg #[.int .i64 0, .int .i64 0], .bool false]) w) := by
  have h := reduce_any n d w hn hd hn2 hd2
  rw [redN, redD, hb] at h
  exact h
end Go.Proofs.Ytleookfdngnphaa


/-
  Contracts of the functions that test whether a pair of numbers is a fraction.
-/
namespace Go.Proofs.Ytleookfdngnphaa
open Go.RowKit

set_option maxHeartbeats 400000 in
theorem isFraction_any (n d : Int) (w : World) (hn1 : -9223372036854775808 ≤ n) (hn2 : n ≤ 9223372036854775807) (hd1 : -9223372036854775808 ≤ d) (hd2 : d ≤ 9223372036854775807) :
    Calls Try.prog 137 #[.agg #[.int .i64 n, .int .i64 d]] w (Ret (.bool (goodB n d)) w) := by
  by_cases h0 : n < 0
  · have HB := Lib.hid (goodB_not (n := n) (d := d) (by omega))
    go_enter Try.func137, Try.ntmps137
    go_wp2
    go_ret
    exact ⟨ret_bool HB.out.symm, by (repeat' (first | (with_reducible exact Below.refl _ _) | (with_reducible assumption) | (with_reducible refine Below.drew ?_) | (with_reducible refine belowDrewN ?_ _) | (with_reducible refine Below.alloc ?_ ?_ _) | (with_reducible refine Below.setCell ?_ ?_ _) | (with_reducible refine belowStep (by assumption) ?_ ?_) | (with_reducible exact Below.size (by assumption)) | go_size))⟩
  · by_cases h1 : d < 1
    · have HB := Lib.hid (goodB_not (n := n) (d := d) (by omega))
      go_enter Try.func137, Try.ntmps137
      go_wp2
      go_ret
      exact ⟨ret_bool HB.out.symm, by (repeat' (first | (with_reducible exact Below.refl _ _) | (with_reducible assumption) | (with_reducible refine Below.drew ?_) | (with_reducible refine belowDrewN ?_ _) | (with_reducible refine Below.alloc ?_ ?_ _) | (with_reducible refine Below.setCell ?_ ?_ _) | (with_reducible refine belowStep (by assumption) ?_ ?_) | (with_reducible exact Below.size (by assumption)) | go_size))⟩
    · cases hr : redB n d with
      | false =>
        have HB := Lib.hid (goodB_not (n := n) (d := d) (fun h => by
          have := red_one h.2.2.2.2
          rw [redB_yes (by omega) (by omega)] at hr; cases hr))
        have Hr := Lib.hid hr
        clear hr
        go_enter Try.func137, Try.ntmps137
        go_wp2_with (go_at_call 109; refine (reduce_no _ _ _ (by omega) (by omega) hn2 hd2 Hr.out).mono ?_; rintro e w1 ⟨rfl, hb1⟩; obtain ⟨hc1, hf1⟩ := bcellB hb1; have hz1 := hb1.size; (try simp only [World.size_alloc] at hc1 hf1 hz1); (try have hy1_r_0 : wr.heap.size < w1.heap.size := by omega); (try have hn1_r_0 : wr.heap.size ≠ w1.heap.size := by omega); (try have hm1_r_0 : w1.heap.size ≠ wr.heap.size := by omega); (try have hy1_r_1 : wr.heap.size + 1 < w1.heap.size := by omega); (try have hn1_r_1 : wr.heap.size + 1 ≠ w1.heap.size := by omega); (try have hm1_r_1 : w1.heap.size ≠ wr.heap.size + 1 := by omega); (try have hy1_r_2 : wr.heap.size + 1 + 1 < w1.heap.size := by omega); (try have hp1_r_1 : wr.heap.size < w1.heap.size + 1 := by omega); (try have hp1_r_2 : wr.heap.size < w1.heap.size + 1 + 1 := by omega); (try have hy1_0_0 : w.heap.size < w1.heap.size := by omega); (try have hn1_0_0 : w.heap.size ≠ w1.heap.size := by omega); (try have hm1_0_0 : w1.heap.size ≠ w.heap.size := by omega); (try have hy1_0_1 : w.heap.size + 1 < w1.heap.size := by omega); (try have hn1_0_1 : w.heap.size + 1 ≠ w1.heap.size := by omega); (try have hm1_0_1 : w1.heap.size ≠ w.heap.size + 1 := by omega); (try have hy1_0_2 : w.heap.size + 1 + 1 < w1.heap.size := by omega); (try have hp1_0_1 : w.heap.size < w1.heap.size + 1 := by omega); (try have hp1_0_2 : w.heap.size < w1.heap.size + 1 + 1 := by omega); (try have hg1_g1 : g1 < w1.heap.size := by omega); (try have hi1_g1 : g1 ≠ w1.heap.size := by omega); (try have hj1_g1 : w1.heap.size ≠ g1 := by omega); (try have hk1_g1 : g1 < w1.heap.size + 1 := by omega); (try have hg1_g2 : g2 < w1.heap.size := by omega); (try have hi1_g2 : g2 ≠ w1.heap.size := by omega); (try have hj1_g2 : w1.heap.size ≠ g2 := by omega); (try have hk1_g2 : g2 < w1.heap.size + 1 := by omega))
        go_ret
        exact ⟨ret_bool HB.out.symm, by (repeat' (first | (with_reducible exact Below.refl _ _) | (with_reducible assumption) | (with_reducible refine Below.drew ?_) | (with_reducible refine belowDrewN ?_ _) | (with_reducible refine Below.alloc ?_ ?_ _) | (with_reducible refine Below.setCell ?_ ?_ _) | (with_reducible refine belowStep (by assumption) ?_ ?_) | (with_reducible exact Below.size (by assumption)) | go_size))⟩
      | true =>
        have Hr := Lib.hid hr
        clear hr
        go_enter Try.func137, Try.ntmps137
        go_wp2_with (go_at_call 109; refine (reduce_yes _ _ _ (by omega) (by omega) hn2 hd2 Hr.out).mono ?_; rintro e w1 ⟨rfl, hb1⟩; obtain ⟨hc1, hf1⟩ := bcellB hb1; have hz1 := hb1.size; (try simp only [World.size_alloc] at hc1 hf1 hz1); (try have hy1_r_0 : wr.heap.size < w1.heap.size := by omega); (try have hn1_r_0 : wr.heap.size ≠ w1.heap.size := by omega); (try have hm1_r_0 : w1.heap.size ≠ wr.heap.size := by omega); (try have hy1_r_1 : wr.heap.size + 1 < w1.heap.size := by omega); (try have hn1_r_1 : wr.heap.size + 1 ≠ w1.heap.size := by omega); (try have hm1_r_1 : w1.heap.size ≠ wr.heap.size + 1 := by omega); (try have hy1_r_2 : wr.heap.size + 1 + 1 < w1.heap.size := by omega); (try have hp1_r_1 : wr.heap.size < w1.heap.size + 1 := by omega); (try have hp1_r_2 : wr.heap.size < w1.heap.size + 1 + 1 := by omega); (try have hy1_0_0 : w.heap.size < w1.heap.size := by omega); (try have hn1_0_0 : w.heap.size ≠ w1.heap.size := by omega); (try have hm1_0_0 : w1.heap.size ≠ w.heap.size := by omega); (try have hy1_0_1 : w.heap.size + 1 < w1.heap.size := by omega); (try have hn1_0_1 : w.heap.size + 1 ≠ w1.heap.size := by omega); (try have hm1_0_1 : w1.heap.size ≠ w.heap.size + 1 := by omega); (try have hy1_0_2 : w.heap.size + 1 + 1 < w1.heap.size := by omega); (try have hp1_0_1 : w.heap.size < w1.heap.size + 1 := by omega); (try have hp1_0_2 : w.heap.size < w1.heap.size + 1 + 1 := by omega); (try have hg1_g1 : g1 < w1.heap.size := by omega); (try have hi1_g1 : g1 ≠ w1.heap.size := by omega); (try have hj1_g1 : w1.heap.size ≠ g1 := by omega); (try have hk1_g1 : g1 < w1.heap.size + 1 := by omega); (try have hg1_g2 : g2 < w1.heap.size := by omega); (try have hi1_g2 : g2 ≠ w1.heap.size := by omega); (try have hj1_g2 : w1.heap.size ≠ g2 := by omega); (try have hk1_g2 : g2 < w1.heap.size + 1 := by omega))
        all_goals
          go_ret
          exact ⟨ret_bool (by rw [good_of_red (by omega) (by omega) Hr.out]; simp [*]), by (repeat' (first | (with_reducible exact Below.refl _ _) | (with_reducible assumption) | (with_reducible refine Below.drew ?_) | (with_reducible refine belowDrewN ?_ _) | (with_reducible refine Below.alloc ?_ ?_ _) | (with_reducible refine Below.setCell ?_ ?_ _) | (with_reducible refine belowStep (by assumption) ?_ ?_) | (with_reducible exact Below.size (by assumption)) | go_size))⟩

theorem l1In_yes (n lo hi : Int) (w : World) (h1 : lo ≤ n) (h2 : n ≤ hi) :
    Calls Try.prog 103 #[.int .i64 n, .int .i64 lo, .int .i64 hi] w (RetQ (.bool true) w) := by
  go_enter Try.func103, Try.ntmps103
  go_wp2
  go_ret
  exact ⟨rfl, 0, rfl⟩
theorem l1In_no (n lo hi : Int) (w : World) (h1 : ¬ (lo ≤ n ∧ n ≤ hi)) :
    Calls Try.prog 103 #[.int .i64 n, .int .i64 lo, .int .i64 hi] w (RetQ (.bool false) w) := by
  by_cases h : lo ≤ n
  · have h2 : hi < n := by omega
    clear h1
    go_enter Try.func103, Try.ntmps103
    go_wp2
    go_ret
    exact ⟨ret_bool (by simp; omega), 0, rfl⟩
  · clear h1
    go_enter Try.func103, Try.ntmps103
    go_wp2
    go_ret
    exact ⟨rfl, 0, rfl⟩

set_option maxHeartbeats 400000 in
theorem unGood_any (n d : Int) (w : World) :
    Calls Try.prog 129 #[.agg #[.int .i64 n, .int .i64 d]] w (Ret (.bool (goodB n d)) w) := by
  by_cases h1 : 0 ≤ n ∧ n ≤ 1000000000
  · by_cases h2 : 1 ≤ d ∧ d ≤ 1000000000
    · obtain ⟨h1, h1'⟩ := h1
      obtain ⟨h2, h2'⟩ := h2
      by_cases hg : gcdI n d = 1
      · have HB := Lib.hid ((goodB_iff n d).2 ⟨h1, h1', h2, h2', hg⟩)
        have hgb : (gcdI n d == 1) = true := by simp [hg]
        clear hg
        go_enter Try.func129, Try.ntmps129
        go_wp2_with (first | (go_at_call 103; refine (l1In_yes _ _ _ _ (by omega) (by omega)).mono ?_; rintro e w1 ⟨rfl, k1, rfl⟩) | (go_at_call 171; refine (unGcd_any _ _ _ (by omega) (by omega) (by omega) (by omega)).mono ?_; rintro e w1 ⟨rfl, k3, rfl⟩))
        go_ret
        exact ⟨ret_bool HB.out.symm, by (repeat' (first | (with_reducible exact Below.refl _ _) | (with_reducible assumption) | (with_reducible refine Below.drew ?_) | (with_reducible refine belowDrewN ?_ _) | (with_reducible refine Below.alloc ?_ ?_ _) | (with_reducible refine Below.setCell ?_ ?_ _) | (with_reducible refine belowStep (by assumption) ?_ ?_) | (with_reducible exact Below.size (by assumption)) | go_size))⟩
      · have HB := Lib.hid (goodB_not (n := n) (d := d) (fun h => hg h.2.2.2.2))
        have hgb : (gcdI n d == 1) = false := by simp [hg]
        clear hg
        go_enter Try.func129, Try.ntmps129
        go_wp2_with (first | (go_at_call 103; refine (l1In_yes _ _ _ _ (by omega) (by omega)).mono ?_; rintro e w1 ⟨rfl, k1, rfl⟩) | (go_at_call 171; refine (unGcd_any _ _ _ (by omega) (by omega) (by omega) (by omega)).mono ?_; rintro e w1 ⟨rfl, k3, rfl⟩))
        go_ret
        exact ⟨ret_bool HB.out.symm, by (repeat' (first | (with_reducible exact Below.refl _ _) | (with_reducible assumption) | (with_reducible refine Below.drew ?_) | (with_reducible refine belowDrewN ?_ _) | (with_reducible refine Below.alloc ?_ ?_ _) | (with_reducible refine Below.setCell ?_ ?_ _) | (with_reducible refine belowStep (by assumption) ?_ ?_) | (with_reducible exact Below.size (by assumption)) | go_size))⟩
    · have HB := Lib.hid (goodB_not (n := n) (d := d) (by omega))
      go_enter Try.func129, Try.ntmps129
      go_wp2_with (first | (go_at_call 103; refine (l1In_yes _ _ _ _ (by omega) (by omega)).mono ?_; rintro e w1 ⟨rfl, k1, rfl⟩) | (go_at_call 103; refine (l1In_no _ _ _ _ (by omega)).mono ?_; rintro e w1 ⟨rfl, k1, rfl⟩))
      go_ret
      exact ⟨ret_bool HB.out.symm, by (repeat' (first | (with_reducible exact Below.refl _ _) | (with_reducible assumption) | (with_reducible refine Below.drew ?_) | (with_reducible refine belowDrewN ?_ _) | (with_reducible refine Below.alloc ?_ ?_ _) | (with_reducible refine Below.setCell ?_ ?_ _) | (with_reducible refine belowStep (by assumption) ?_ ?_) | (with_reducible exact Below.size (by assumption)) | go_size))⟩
  · have HB := Lib.hid (goodB_not (n := n) (d := d) (by omega))
    go_enter Try.func129, Try.ntmps129
    go_wp2_with (go_at_call 103; refine (l1In_no _ _ _ _ (by omega)).mono ?_; rintro e w1 ⟨rfl, k1, rfl⟩)
    go_ret
    exact ⟨ret_bool HB.out.symm, by (repeat' (first | (with_reducible exact Below.refl _ _) | (with_reducible assumption) | (with_reducible refine Below.drew ?_) | (with_reducible refine belowDrewN ?_ _) | (with_reducible refine Below.alloc ?_ ?_ _) | (with_reducible refine Below.setCell ?_ ?_ _) | (with_reducible refine belowStep (by assumption) ?_ ?_) | (with_reducible exact Below.size (by assumption)) | go_size))⟩
end Go.Proofs.Ytleookfdngnphaa


/-
  The contract of the model's test of a rising list.
-/
namespace Go.Proofs.Ytleookfdngnphaa
open Go.RowKit
set_option maxHeartbeats 2000000 in
theorem l1Rising_any (w : World) (lo hi : Int) (Axs : Option Addr) (cxs : Nat) (xs : List Int) (hxs : Reads w Axs xs) (lxs : xs.length ≤ 1048576) : Calls Try.prog 111 #[.slice Axs xs.length cxs, .int .i64 lo, .int .i64 hi] w (RetQ (.bool (rise lo hi none xs)) w) := by
  go_enter Try.func111, Try.ntmps111
  go_wp2
  go_loopw [11] (fun v11 wr => ∃ k : Nat, k ≤ xs.length ∧ v11 = .int .i64 k ∧ rise lo hi none xs = rise lo hi (ahead xs k) (xs.drop k) ∧ ∃ n, wr = w.drewN n) (fun v11 _ => xs.length - (intOf v11).toNat)
  case atStart => exact ⟨0, Nat.zero_le _, rfl, rfl, 0, rfl⟩
  case round =>
    obtain ⟨k, hk, rfl, hr, n, rfl⟩ := hrel
    have Hr := Lib.hid hr
    clear hr
    by_cases hlt : k < xs.length
    · rcases k with _ | j
      · obtain ⟨b, o, x, rfl, hb, hx, hcell⟩ := hxs.at_ hlt
        rw [Nat.add_zero] at hcell
        rw [show ((0 : Nat) : Int) = 0 from rfl]
        have Hx := Lib.hid hx
        clear hx
        by_cases hin : lo ≤ x ∧ x ≤ hi
        · go_wp2_with (go_at_call 103; refine (l1In_yes _ _ _ _ hin.1 hin.2).mono ?_; rintro e w1 ⟨rfl, k1, rfl⟩)
          go_roundw
          case rel => exact ⟨1, by omega, by go_num, by rw [Hr.out, drop_at Hx.out, show ahead xs 0 = none from rfl, rise_first hin.1 hin.2, show ahead xs 1 = xs[0]? from rfl, Hx.out], _, rfl⟩
          case measure => simp [intOf]; omega
        · go_wp2_with (go_at_call 103; refine (l1In_no _ _ _ _ hin).mono ?_; rintro e w1 ⟨rfl, k1, rfl⟩)
          go_ret
          exact ⟨ret_bool (by rw [Hr.out, drop_at Hx.out, rise_out hin]), _, rfl⟩
      · obtain ⟨b, o, x, y, rfl, hb, hx, hy, hcell, hcell2⟩ := hxs.at2 hlt (show j < xs.length by omega)
        have Hx := Lib.hid hx
        have Hy := Lib.hid hy
        clear hx hy
        by_cases hin : lo ≤ x ∧ x ≤ hi
        · by_cases hlt2 : y < x
          · go_wp2_with (go_at_call 103; refine (l1In_yes _ _ _ _ hin.1 hin.2).mono ?_; rintro e w1 ⟨rfl, k1, rfl⟩)
            go_roundw
            case rel => exact ⟨j + 1 + 1, by omega, by go_num, by rw [Hr.out, drop_at Hx.out, show ahead xs (j + 1) = xs[j]? from rfl, Hy.out, rise_next hin.1 hin.2 hlt2, show ahead xs (j + 1 + 1) = xs[j + 1]? from rfl, Hx.out], _, rfl⟩
            case measure => simp [intOf]; omega
          · go_wp2_with (go_at_call 103; refine (l1In_yes _ _ _ _ hin.1 hin.2).mono ?_; rintro e w1 ⟨rfl, k1, rfl⟩)
            go_ret
            exact ⟨ret_bool (by rw [Hr.out, drop_at Hx.out, show ahead xs (j + 1) = xs[j]? from rfl, Hy.out, rise_low (by omega)]), _, rfl⟩
        · go_wp2_with (go_at_call 103; refine (l1In_no _ _ _ _ hin).mono ?_; rintro e w1 ⟨rfl, k1, rfl⟩)
          go_ret
          exact ⟨ret_bool (by rw [Hr.out, drop_at Hx.out, rise_out hin]), _, rfl⟩
    · obtain rfl : k = xs.length := by omega
      go_wp2
      go_ret
      exact ⟨ret_bool (by rw [Hr.out, drop_all, rise_nil]), _, rfl⟩
end Go.Proofs.Ytleookfdngnphaa
