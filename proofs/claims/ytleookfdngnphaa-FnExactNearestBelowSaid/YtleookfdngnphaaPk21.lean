import Derived.Test.YtleookfdngnphaaPk20
import Derived.Test.YtleookfdngnphaaPk18
import Derived.Test.YtleookfdngnphaaPk6
import Derived.Test.YtleookfdngnphaaPk7
import Derived.Test.YtleookfdngnphaaPk15
import Derived.Shelf.Small.Bits
import Derived.Shelf.Small.Wraps
import Derived.Shelf.Strconv.Itoa0
import Derived.Shelf.Sort.Plain
import Derived.Shelf.Slices.Turned
import Derived.Shelf.Slices.Reverse
import Derived.Ground.Names2Prog
import Derived.Shelf.Slices.Clone
import Derived.Shelf.Slices.SearchI
import Derived.Shelf.Slices.Cells
import Derived.Shelf.Slices.In.SortNone
import Derived.Shelf.Slices.Empties
import Derived.Test.YtleookfdngnphaaProg
import Derived.Test.YtleookfdngnphaaPk2

/-
  Plain facts on the numerators of greedy walks.
-/
namespace Go.Proofs.Ytleookfdngnphaa
open Go.RowKit
theorem walkR_at {st : Stp} : ∀ {k m : Nat} {l n d : Int} {es : List (Int × Int × Int)}, walkR st k l n d = some es → es.length ≤ m → walkR st m l n d = some es
  | 0, m, l, n, d, es, h, hm => by
    by_cases h0 : n ≤ 0
    · rw [walkR_end h0] at h ⊢; exact h
    · rw [walkR_out (by omega)] at h; cases h
  | k + 1, m, l, n, d, es, h, hm => by
    by_cases h0 : n ≤ 0
    · rw [walkR_end h0] at h ⊢; exact h
    · have hn : 0 < n := by omega
      cases hs : st l n d with
      | none => rw [walkR_none hn hs] at h; cases h
      | some p =>
        obtain ⟨t, n', d'⟩ := p
        rw [walkR_some hn hs] at h
        cases hr : walkR st k (t + 1) n' d' with
        | none => rw [hr] at h; cases h
        | some es' =>
          rw [hr] at h
          injection h with h
          subst h
          cases m with
          | zero => simp at hm
          | succ m =>
            rw [walkR_some hn hs, walkR_at hr (by simpa using hm)]
            rfl
/-- the numerators of a greedy walk fall -/
theorem greedy_len : ∀ {k : Nat} {l n d : Int} {es : List (Int × Int × Int)}, goodB n d = true → walkR (stG pick0) k l n d = some es → (es.length : Int) ≤ n
  | 0, l, n, d, es, hg, h => by
    by_cases h0 : n ≤ 0
    · rw [walkR_end h0] at h
      injection h with h
      subst h
      have := (good_bounds hg).1
      simpa using this
    · rw [walkR_out (by omega)] at h; cases h
  | k + 1, l, n, d, es, hg, h => by
    by_cases h0 : n ≤ 0
    · rw [walkR_end h0] at h
      injection h with h
      subst h
      have := (good_bounds hg).1
      simpa using this
    · have hn : 0 < n := by omega
      obtain ⟨_, _, d1, _⟩ := good_bounds hg
      obtain ⟨u1, _⟩ := ucd_facts (by omega : 1 ≤ n) d1
      cases hb : tB n d (ucd n d) with
      | false => rw [walkR_none hn (stG_no (p := pick0) hb)] at h; cases h
      | true =>
        have s1 := stG_yes (p := pick0) (l := l) (n := n) (d := d) hb
        have hp0 : pick0 l n d = ucd n d := rfl
        rw [hp0] at s1
        rw [walkR_some hn s1] at h
        cases hr : walkR (stG pick0) k (ucd n d + 1) (tN n d (ucd n d)) (tD n d (ucd n d)) with
        | none => rw [hr] at h; cases h
        | some es' =>
          rw [hr] at h
          injection h with h
          subst h
          have := greedy_len (tB_good d1 u1 hb) hr
          have := tN_less hg (by omega) hb
          simp only [List.length_cons]
          omega
/-- below 1 the walk has few steps -/
theorem greedy_six {k : Nat} {l n d : Int} {es : List (Int × Int × Int)} (hg : goodB n d = true) (hnd : n < d) (h : walkR (stG pick0) k l n d = some es) : es.length ≤ 6 := by
  obtain ⟨_, b⟩ := greedy_walk k hg hnd h
  have := Gr.len 0 (by omega) (b.mono (show syl 0 ≤ _ by simp only [syl]; omega))
  rw [takenOf_len] at this
  omega
/-- whether so many steps are allowed as the numerator tells, or 24 -/
theorem greedy_24 {l n d : Int} (hg : goodB n d = true) (hnd : n < d) : walkR (stG pick0) n.toNat l n d = walkR (stG pick0) 24 l n d := by
  cases h : walkR (stG pick0) 24 l n d with
  | some es => exact walkR_at h (by have := greedy_len hg h; omega)
  | none =>
    cases h2 : walkR (stG pick0) n.toNat l n d with
    | none => rfl
    | some es => rw [walkR_at h2 (by have := greedy_six hg hnd h2; omega)] at h; cases h
theorem ucd_two {n d : Int} (hn : 1 ≤ n) (hnd : n < d) : 2 ≤ ucd n d := by
  obtain ⟨u1, u2, _, _⟩ := ucd_facts hn (by omega : 1 ≤ d)
  rcases (by omega : ucd n d = 1 ∨ 2 ≤ ucd n d) with h | h
  · rw [h] at u2; omega
  · exact h
theorem syl_grow {k : Nat} {u v : Int} (h : syl k ≤ u) (hv : u * (u - 1) < v) : syl (k + 1) ≤ v := by
  have h2 := syl_two k
  have := sq_mono (by omega : 1 ≤ syl k) h
  simp only [syl]
  omega
theorem syl_five {k : Nat} (hk : k ≤ 6) {u : Int} (h : syl k ≤ u) (hu : u ≤ 1000000000) : k ≤ 5 := by
  have h6 := syl6
  rcases Nat.lt_or_ge k 6 with h1 | h1
  · omega
  · obtain rfl : k = 6 := by omega
    omega
end Go.Proofs.Ytleookfdngnphaa


/-
  Contracts of the numerators of greedy steps, in the program and in the model.
-/
namespace Go.Proofs.Ytleookfdngnphaa
open Go.RowKit
def numsOf (n : Int) (es : List (Int × Int × Int)) : List Int := n :: es.map (·.2.1)
def nmO (n d : Int) : Option (List Int) := if belowB n d = true then (walkR (stG pick0) 24 0 n d).map (numsOf n) else none
theorem nmO_len (n d : Int) : ((nmO n d).getD []).length ≤ 25 := by
  unfold nmO
  split
  · cases h : walkR (stG pick0) 24 0 n d with
    | none => simp
    | some es =>
      have := (walkR_more h).2
      simp [numsOf]
      omega
  · simp
theorem OwnI.oneLit (w : World) (base : Nat) (x : Int) (hb : base ≤ w.heap.size) : OwnI (w.alloc (.cells #[.int .i64 x] 3)) base (.slice (some ⟨w.heap.size, 0, none⟩) 1 1) [x] :=
  World.ownsRow_lit w #[.int .i64 x] 1 hb (by unfold maxLen; omega) rfl
def numAt (g : Nat) (w : World) : Nat := match w.cell? ⟨g, 0, none⟩ with | some (.int _ n) => n.toNat | _ => 0
end Go.Proofs.Ytleookfdngnphaa


/-
  The contract of the program's numerators of greedy steps.
-/
namespace Go.Proofs.Ytleookfdngnphaa
open Go.RowKit
theorem OwnF.at_ {w : World} {base : Nat} {A : Option Addr} {n c : Nat} {fs : List (Int × Int)} (h : OwnF w base (.slice A n c) fs) {k : Nat} {p : Int × Int} (hk : fs[k]? = some p) :
    ∃ b, A = some ⟨b, 0, none⟩ ∧ b < w.heap.size ∧ w.cell? ⟨b, k * 2, none⟩ = some (.int .i64 p.1) ∧ w.cell? ⟨b, k * 2 + 1, none⟩ = some (.int .i64 p.2) := by
  have hlt : k < fs.length := (List.getElem?_eq_some_iff.1 hk).1
  have hl := fcells_len fs
  rcases h.2 with ⟨hv, h0⟩ | ⟨g, cap, cur, hv, hb, hg, r⟩
  · rw [h0] at hlt; omega
  · injection hv with e1 e2 e3
    subst e1 e2 e3
    refine ⟨g, rfl, (h.block g rfl).2, ?_, ?_⟩
    · rw [World.ownsRow.cellAt (h : w.ownsRow _ _ _ _ _ _) (k * 2) (by omega)]; exact (fcells_at hk).1
    · rw [World.ownsRow.cellAt (h : w.ownsRow _ _ _ _ _ _) (k * 2 + 1) (by omega)]; exact (fcells_at hk).2
end Go.Proofs.Ytleookfdngnphaa


/-
  Plain facts on the sums of the unit fractions of numbers that follow one another.
-/
namespace Go.Proofs.Ytleookfdngnphaa
open Go.RowKit
/-- k numbers from f on -/
def nums (f : Int) : Nat → List Int
  | 0 => []
  | k + 1 => nums f k ++ [f + (k : Int)]
theorem nums_len (f : Int) : ∀ k, (nums f k).length = k
  | 0 => rfl
  | k + 1 => by simp [nums, nums_len f k]
theorem nums_mem {f : Int} : ∀ {k : Nat} {x : Int}, x ∈ nums f k → f ≤ x ∧ x < f + (k : Int)
  | 0, x, h => by cases h
  | k + 1, x, h => by
    simp only [nums, List.mem_append, List.mem_singleton] at h
    rcases h with h | h
    · have := nums_mem h; omega
    · omega
theorem up_append {s : Int} : ∀ {xs : List Int} {lo x : Int}, up s lo xs = true → lo ≤ x → x ≤ 1000000000 → (∀ y ∈ xs, y + s ≤ x) → up s lo (xs ++ [x]) = true
  | [], lo, x, _, h1, h2, _ => by simp [up, h1, h2]
  | y :: ys, lo, x, h, h1, h2, h3 => by
    by_cases hy : lo ≤ y ∧ y ≤ 1000000000
    · rw [up_yes hy.1 hy.2] at h
      rw [List.cons_append, up_yes hy.1 hy.2]
      exact up_append h (h3 y (by simp)) h2 (fun z hz => h3 z (by simp [hz]))
    · rw [up_no hy] at h; cases h
theorem nums_up {f : Int} (hf : 1 ≤ f) : ∀ {k : Nat}, f + (k : Int) ≤ 1000000000 → up 1 1 (nums f k) = true
  | 0, _ => rfl
  | k + 1, h => up_append (nums_up hf (by omega)) (by omega) (by omega) (fun y hy => by have := nums_mem hy; omega)
theorem sumL_append : ∀ {xs ys : List Int} {n d : Int}, sumL n d (xs ++ ys) = (sumL n d xs).bind fun p => sumL p.1 p.2 ys
  | [], ys, n, d => rfl
  | x :: xs, ys, n, d => by
    cases h : redB (n * x + d) (d * x) with
    | true => rw [List.cons_append, sumL_yes h, sumL_yes h]; exact sumL_append
    | false => rw [List.cons_append, sumL_no h, sumL_no h]; rfl
/-- the sum from 0 on, in lowest terms, without bounds -/
def rs (f : Int) : Nat → Int × Int
  | 0 => (0, 1)
  | k + 1 => (((rs f k).1 * (f + (k : Int)) + (rs f k).2) / gcdI ((rs f k).1 * (f + (k : Int)) + (rs f k).2) ((rs f k).2 * (f + (k : Int))), ((rs f k).2 * (f + (k : Int))) / gcdI ((rs f k).1 * (f + (k : Int)) + (rs f k).2) ((rs f k).2 * (f + (k : Int))))
def rsB (f : Int) (k : Nat) : Bool := goodB (rs f k).1 (rs f k).2
theorem rs_step {f : Int} {k : Nat} (hf : 1 ≤ f) (h : rsB f k = true) : redB ((rs f k).1 * (f + (k : Int)) + (rs f k).2) ((rs f k).2 * (f + (k : Int))) = rsB f (k + 1) := by
  obtain ⟨n1, n2, d1, d2⟩ := good_bounds h
  have p1 := Int.mul_nonneg n1 (show 0 ≤ f + (k : Int) by omega)
  have p2 := mul_pos1 d1 (show 1 ≤ f + (k : Int) by omega)
  exact (good_red (by omega) p2).symm
theorem rs_sum {f : Int} (hf : 1 ≤ f) : ∀ {k : Nat}, (∀ j, j ≤ k → rsB f j = true) → sumL 0 1 (nums f k) = some (rs f k)
  | 0, _ => rfl
  | k + 1, h => by
    have ih := rs_sum hf (k := k) (fun j hj => h j (by omega))
    have hr := (rs_step hf (h k (by omega))).trans (h (k + 1) (by omega))
    rw [nums, sumL_append, ih, Option.bind_some, sumL_yes hr, redN, redD, if_pos hr, if_pos hr]
    rfl
theorem rs_none {f : Int} (hf : 1 ≤ f) {k : Nat} (h : ∀ j, j ≤ k → rsB f j = true) (hn : rsB f (k + 1) = false) : sumL 0 1 (nums f (k + 1)) = none := by
  rw [nums, sumL_append, rs_sum hf h, Option.bind_some, sumL_no ((rs_step hf (h k (Nat.le_refl k))).trans hn)]
/-- the sum of so many numbers is an expansion's if it is a fraction -/
theorem rs_exp {f : Int} (hf : 1 ≤ f) {k : Nat} (hk : k ≤ 23) (hb : f + (k : Int) + 1 ≤ 1000000000) (h : ∀ j, j ≤ k → rsB f j = true) :
    expB (nums f (k + 1)) = rsB f (k + 1) ∧ (rsB f (k + 1) = true → sumN (nums f (k + 1)) = (rs f (k + 1)).1 ∧ sumD (nums f (k + 1)) = (rs f (k + 1)).2) := by
  have hl : (nums f (k + 1)).length ≤ 24 := by rw [nums_len]; omega
  have hu : up 1 1 (nums f (k + 1)) = true := nums_up hf (by omega)
  rw [expB_eq hl hu]
  cases hb : rsB f (k + 1) with
  | true =>
    have hs := rs_sum hf (k := k + 1) (fun j hj => by
      rcases Nat.lt_or_ge j (k + 1) with h2 | h2
      · exact h j (by omega)
      · obtain rfl : j = k + 1 := by omega
        exact hb)
    exact ⟨by rw [hs]; rfl, fun _ => ⟨sumN_of hs, sumD_of hs⟩⟩
  | false => exact ⟨by rw [rs_none hf h hb]; rfl, fun h => by cases h⟩
theorem har_good : ∀ {k : Nat}, k ≤ 20 → rsB 1 k = true := fun {k} hk =>
  List.all_eq_true.1 (show (List.range 21).all (fun k => rsB 1 k) = true by decide +kernel) k (List.mem_range.2 (by omega))
theorem range_good {f : Nat} (hf : f ≤ 60) (h1 : 1 ≤ f) {k : Nat} (hk : k ≤ 5) : rsB (f : Int) k = true := by
  have h := List.all_eq_true.1 (show (List.range 61).all (fun f => (List.range 6).all fun k => f == 0 || rsB (f : Int) k) = true by decide +kernel) f (List.mem_range.2 (by omega))
  have h := List.all_eq_true.1 h k (List.mem_range.2 (by omega))
  have h0 : (f == 0) = false := by simp; omega
  rw [h0] at h
  simpa using h
/-- what the sum of numbers that follow one another is told as -/
def rsO (f : Int) (k : Nat) : Int × Int := if rsB f k = true then rs f k else (0, 0)
theorem rsO_eN {f : Int} (hf : 1 ≤ f) {k : Nat} (hk : k ≤ 23) (hb : f + (k : Int) + 1 ≤ 1000000000) (h : ∀ j, j ≤ k → rsB f j = true) :
    eN (nums f (k + 1)) = (rsO f (k + 1)).1 ∧ eD (nums f (k + 1)) = (rsO f (k + 1)).2 ∧ expB (nums f (k + 1)) = rsB f (k + 1) := by
  obtain ⟨h1, h2⟩ := rs_exp hf hk hb h
  refine ⟨?_, ?_, h1⟩
  · rw [eN, h1, rsO]
    cases hx : rsB f (k + 1) with
    | true => simp [(h2 hx).1]
    | false => rfl
  · rw [eD, h1, rsO]
    cases hx : rsB f (k + 1) with
    | true => simp [(h2 hx).2]
    | false => rfl
/-- harmonic sums that are greater -/
def hpB (n d : Int) (k : Nat) : Bool := decide (n * (rs 1 k).2 < (rs 1 k).1 * d)
def hpO (n d : Int) : Option Nat := if goodB n d = true then (List.range 21).find? (hpB n d) else none
theorem hp_found {n d : Int} (hg : goodB n d = true) {k : Nat} (hk : k ≤ 20) (h : hpB n d k = true) (hl : ∀ j, j < k → hpB n d j = false) : hpO n d = some k := by
  rw [hpO, if_pos hg, List.find?_range_eq_some]
  exact ⟨h, List.mem_range.2 (by omega), fun j hj => by rw [hl j hj]; rfl⟩
theorem hp_none {n d : Int} (hg : goodB n d = true) (hl : ∀ j, j < 21 → hpB n d j = false) : hpO n d = none := by
  rw [hpO, if_pos hg, List.find?_range_eq_none]
  intro j hj
  rw [hl j hj]; rfl
theorem hp_bad {n d : Int} (hg : goodB n d = false) : hpO n d = none := by rw [hpO, hg]; rfl
theorem hp_zero {n d : Int} (hg : goodB n d = true) : hpB n d 0 = false := by
  have := good_bounds hg
  simp [hpB, rs]
  omega
end Go.Proofs.Ytleookfdngnphaa


/-
  Facts on the memory of a search: a list that is cut and goes on, the sums of its first numbers, what a search is made of.
-/
namespace Go.Proofs.Ytleookfdngnphaa
open Go.RowKit
theorem pre_snoc {xs : List Int} {d : Int} (h : (sumL 0 1 (xs ++ [d])).isSome = true) : (sumL 0 1 xs).isSome = true ∧ redB ((preS xs).1 * d + (preS xs).2) ((preS xs).2 * d) = true ∧ preS (xs ++ [d]) = (redN ((preS xs).1 * d + (preS xs).2) ((preS xs).2 * d), redD ((preS xs).1 * d + (preS xs).2) ((preS xs).2 * d)) := by
  rw [sumL_append] at h
  cases hs : sumL 0 1 xs with
  | none => rw [hs] at h; cases h
  | some p =>
    rw [hs, Option.bind_some] at h
    have hp : preS xs = p := by rw [preS, hs]; rfl
    rw [hp]
    cases hr : redB (p.1 * d + p.2) (p.2 * d) with
    | false => rw [sumL_no hr] at h; cases h
    | true =>
      refine ⟨rfl, rfl, ?_⟩
      rw [preS, sumL_append, hs, Option.bind_some, sumL_yes hr]; rfl
theorem pre_good {xs : List Int} (h : (sumL 0 1 xs).isSome = true) (hin : ∀ x ∈ xs, 1 ≤ x ∧ x ≤ 1000000) : goodB (preS xs).1 (preS xs).2 = true := by
  cases hs : sumL 0 1 xs with
  | none => rw [hs] at h; cases h
  | some p =>
    have hp : preS xs = p := by rw [preS, hs]; rfl
    rw [hp]
    exact sumL_good good_zero (fun i x hx => by have := hin x (List.mem_of_getElem? hx); omega) hs
theorem fcells_set : ∀ {fs : List (Int × Int)} {k : Nat} {x y : Int}, k < fs.length → ((fcells fs).set (k * 2) (.int .i64 x)).set (k * 2 + 1) (.int .i64 y) = fcells (fs.set k (x, y))
  | p :: fs, 0, x, y, _ => rfl
  | p :: fs, k + 1, x, y, h => by
    have ih := fcells_set (fs := fs) (k := k) (x := x) (y := y) (by simpa using h)
    have e1 : fcells (p :: fs) = .int .i64 p.1 :: .int .i64 p.2 :: fcells fs := rfl
    have e2 : fcells ((p :: fs).set (k + 1) (x, y)) = .int .i64 p.1 :: .int .i64 p.2 :: fcells (fs.set k (x, y)) := rfl
    rw [e1, e2, ← ih, show (k + 1) * 2 = k * 2 + 1 + 1 by omega]
    rfl
section
variable {w w' : World} {base g n c : Nat} {v : Value} {xs : List Int} {fs : List (Int × Int)}
theorem OwnF.set2 (h : OwnF w base (.slice (some ⟨g, 0, none⟩) n c) fs) (hn : n = fs.length) (k : Nat) (hk : k < fs.length) (x y : Int) :
    OwnF ((w.setCell ⟨g, k * 2, none⟩ (.int .i64 x)).setCell ⟨g, k * 2 + 1, none⟩ (.int .i64 y)) base (.slice (some ⟨g, 0, none⟩) n c) (fs.set k (x, y)) := by
  subst hn
  have h1 := (World.ownsRow.stored (h : w.ownsRow _ _ _ _ _ _) (k * 2) (.int .i64 x)).1
  have h2 := (World.ownsRow.stored h1 (k * 2 + 1) (.int .i64 y)).1
  unfold OwnF
  rw [List.length_set, ← fcells_set hk]
  exact h2
theorem OwnF.cell2 (h : OwnF w base (.slice (some ⟨g, 0, none⟩) n c) fs) (hn : n = fs.length) {k : Nat} {p : Int × Int} (hp : fs[k]? = some p) :
    w.cell? ⟨g, k * 2, none⟩ = some (.int .i64 p.1) ∧ w.cell? ⟨g, k * 2 + 1, none⟩ = some (.int .i64 p.2) ∧ w.frozen? ⟨g, k * 2, none⟩ = false ∧ w.frozen? ⟨g, k * 2 + 1, none⟩ = false := by
  obtain ⟨b, e, _, h1, h2⟩ := h.at_ hp
  injection e with e
  injection e with e
  subst e
  subst hn
  exact ⟨h1, h2, World.ownsRow.frozenAt (h : w.ownsRow _ _ _ _ _ _) _, World.ownsRow.frozenAt (h : w.ownsRow _ _ _ _ _ _) _⟩
/-- the last number is cut off -/
theorem OwnI.cut1 {l : Int} (h : OwnI w base (.slice (some ⟨g, 0, none⟩) n c) (xs ++ [l])) (m : Nat) (hm : m = xs.length) : OwnI w base (.slice (some ⟨g, 0, none⟩) m c) xs := by
  subst hm
  have h0 : w.ownsRow base 3 1 (.slice (some ⟨g, 0, none⟩) n c) (xs ++ [l]).length ((xs ++ [l]).map (.int .i64)) := h
  rcases h0.2 with ⟨hv, _⟩ | ⟨g', cap, cur, hv, hb, hg, h1, h2, h3, h4⟩
  · cases hv
  · injection hv with e1 e2 e3
    injection e1 with e1
    injection e1 with e1
    subst e1 e3
    rw [List.length_append, List.length_singleton] at h1 h4
    refine ⟨by simp, .inr ⟨g, c, cur, rfl, hb, hg, by omega, h2, h3, ?_⟩⟩
    have h5 : (cur.toList.take ((xs.length + 1) * 1)).take (xs.length * 1) = (List.map (.int .i64) (xs ++ [l])).take (xs.length * 1) := by rw [h4]
    rw [List.take_take, show min (xs.length * 1) ((xs.length + 1) * 1) = xs.length * 1 by omega] at h5
    rw [h5, Nat.mul_one, List.map_append]
    exact List.take_left' (by simp)
/-- a list that is not empty lies in a block -/
theorem OwnI.at0 {d : Int} (h : OwnI w base v (xs ++ [d])) : ∃ g c, v = .slice (some ⟨g, 0, none⟩) (xs.length + 1) c := by
  rcases h.2 with ⟨_, h0⟩ | ⟨g, cap, cur, hv, r⟩
  · simp at h0
  · exact ⟨g, cap, by rw [hv]; simp⟩
theorem OwnI.at1 {d : Int} {m : Nat} (h : OwnI w base v (xs ++ [d])) (hm : m = xs.length) : ∃ g c, v = .slice (some ⟨g, 0, none⟩) (m + 1) c := by
  subst hm
  exact h.at0
/-- what a search is made of lies in a block -/
def SAt (w : World) (g : Nat) (k : Int) (f1 f2 f3 : Value) : Prop := w.cell? ⟨g, 0, none⟩ = some (.int .i64 k) ∧ w.cell? ⟨g, 1, none⟩ = some f1 ∧ w.cell? ⟨g, 2, none⟩ = some f2 ∧ w.cell? ⟨g, 3, none⟩ = some f3 ∧ g < w.heap.size
theorem SAt.same {b : Nat} {k : Int} {f1 f2 f3 : Value} (h : SAt w b k f1 f2 f3) (hb : w'.heap[b]? = w.heap[b]?) (hz : w.heap.size ≤ w'.heap.size) : SAt w' b k f1 f2 f3 :=
  ⟨(World.cell?_of_block (a := ⟨b, 0, none⟩) hb).trans h.1, (World.cell?_of_block (a := ⟨b, 1, none⟩) hb).trans h.2.1, (World.cell?_of_block (a := ⟨b, 2, none⟩) hb).trans h.2.2.1, (World.cell?_of_block (a := ⟨b, 3, none⟩) hb).trans h.2.2.2.1, Nat.lt_of_lt_of_le h.2.2.2.2 hz⟩
theorem SAt.below {b : Nat} {k : Int} {f1 f2 f3 : Value} (h : SAt w b k f1 f2 f3) (hb : Below w.heap.size w w') : SAt w' b k f1 f2 f3 := h.same (hb.block b h.2.2.2.2) hb.size
theorem SAt.grown {b g : Nat} {k : Int} {f1 f2 f3 : Value} (h : SAt w b k f1 f2 f3) (hg : w.grownBy w' (some g)) (hne : b ≠ g) : SAt w' b k f1 f2 f3 := h.same (hg.block b h.2.2.2.2 (by simpa using hne)) hg.size
theorem SAt.new (w : World) (k : Int) (f1 f2 f3 : Value) (T : TypeId) : SAt (w.alloc (.cells #[.int .i64 k, f1, f2, f3] T)) w.heap.size k f1 f2 f3 :=
  ⟨by simp, by simp, by simp, by simp, by simp⟩
theorem OwnI.same (h : OwnI w base v xs) (_ : w.heap.size ≤ w'.heap.size) (hb : ∀ b, base ≤ b → b < w.heap.size → w'.heap[b]? = w.heap[b]?) : OwnI w' base v xs := by
  refine ⟨h.1, ?_⟩
  rcases h.2 with h0 | ⟨g, cap, cur, hv, hbg, hg, r⟩
  · exact .inl h0
  · have := h.block g (by rw [hv]; rfl)
    exact .inr ⟨g, cap, cur, hv, hbg, by rw [hb g this.1 this.2]; exact hg, r⟩
theorem OwnF.same (h : OwnF w base v fs) (_ : w.heap.size ≤ w'.heap.size) (hb : ∀ b, base ≤ b → b < w.heap.size → w'.heap[b]? = w.heap[b]?) : OwnF w' base v fs := by
  refine ⟨h.1, ?_⟩
  rcases h.2 with h0 | ⟨g, cap, cur, hv, hbg, hg, r⟩
  · exact .inl h0
  · have := h.block g (by rw [hv]; rfl)
    exact .inr ⟨g, cap, cur, hv, hbg, by rw [hb g this.1 this.2]; exact hg, r⟩
theorem OwnI.ne {gs : Nat} (h : OwnI w base v xs) (hg : w.grownBy w' (some gs)) (hne : v.ownBlock ≠ some gs) : OwnI w' base v xs :=
  World.ownsRow.kept h hg (.inr hne)
theorem OwnF.ne {gs : Nat} (h : OwnF w base v fs) (hg : w.grownBy w' (some gs)) (hne : v.ownBlock ≠ some gs) : OwnF w' base v fs :=
  World.ownsRow.kept h hg (.inr hne)
end
/-- the sums of the first numbers -/
def Sums (K : Nat) (xs : List Int) (zs : List (Int × Int)) : Prop := zs.length = K + 1 ∧ ∀ i, i ≤ xs.length → zs[i]? = some (preS (xs.take i))
theorem Sums.cut {K : Nat} {xs : List Int} {l : Int} {zs : List (Int × Int)} (h : Sums K (xs ++ [l]) zs) : Sums K xs zs := by
  refine ⟨h.1, fun i hi => ?_⟩
  rw [h.2 i (by simp; omega), List.take_append_of_le_length hi]
theorem Sums.last {K : Nat} {xs : List Int} {zs : List (Int × Int)} (h : Sums K xs zs) : zs[xs.length]? = some (preS xs) := by
  rw [h.2 _ (Nat.le_refl _), List.take_length]
theorem Sums.push {K : Nat} {xs : List Int} {d : Int} {zs : List (Int × Int)} (h : Sums K xs zs) (hl : xs.length < K) : Sums K (xs ++ [d]) (zs.set (xs.length + 1) (preS (xs ++ [d]))) := by
  refine ⟨by rw [List.length_set]; exact h.1, fun i hi => ?_⟩
  rw [List.length_append, List.length_singleton] at hi
  rcases Nat.lt_or_ge i (xs.length + 1) with h2 | h2
  · rw [List.getElem?_set_ne (by omega), h.2 i (by omega), List.take_append_of_le_length (by omega)]
  · obtain rfl : i = xs.length + 1 := by omega
    rw [List.getElem?_set_self (by rw [h.1]; omega), List.take_of_length_le (by simp)]
theorem Sums.start (K : Nat) : Sums K [] ((List.replicate (K + 1) ((0 : Int), (0 : Int))).set 0 (0, 1)) := by
  refine ⟨by simp, fun i hi => ?_⟩
  obtain rfl : i = 0 := by simpa using hi
  rfl
end Go.Proofs.Ytleookfdngnphaa

/-
  Contracts of library functions at this program, one application each.
-/
namespace Go.Proofs
open Go.Shelf
def Try.lays189_ren : Go.Shelf.Ren := ⟨fun | 189 => 136 | 125 => 183 | 257 => 182 | 128 => 209 | 129 => 210 | 294 => 201 | 295 => 202 | 296 => 203 | 297 => 204 | 298 => 205 | 299 => 206 | 216 => 199 | 300 => 207 | 301 => 208 | 328 => 216 | 329 => 217 | 330 => 218 | 331 => 219 | 332 => 220 | 215 => 184 | 343 => 222 | n => n, fun | 28 => 26 | 3 => 3 | 46 => 132 | 0 => 0 | 51 => 152 | 53 => 78 | 4 => 4 | 183 => 147 | 182 => 146 | 131 => 32 | 5 => 5 | 9 => 9 | 218 => 158 | 222 => 162 | 228 => 165 | 229 => 24 | n => n, fun | n => n⟩
theorem Try.lays189 : Go.Proofs.Lays.n189 Try.prog Try.lays189_ren := {
  mixed := by kernel_rfl
  f125 := Try.func183.trans (congrArg some (by kernel_rfl))
  f128 := Try.func209.trans (congrArg some (by kernel_rfl))
  f129 := Try.func210.trans (congrArg some (by kernel_rfl))
  f189 := Try.func136.trans (congrArg some (by kernel_rfl))
  f215 := Try.func184.trans (congrArg some (by kernel_rfl))
  f216 := Try.func199.trans (congrArg some (by kernel_rfl))
  f257 := Try.func182.trans (congrArg some (by kernel_rfl))
  f294 := Try.func201.trans (congrArg some (by kernel_rfl))
  f295 := Try.func202.trans (congrArg some (by kernel_rfl))
  f296 := Try.func203.trans (congrArg some (by kernel_rfl))
  f297 := Try.func204.trans (congrArg some (by kernel_rfl))
  f298 := Try.func205.trans (congrArg some (by kernel_rfl))
  f299 := Try.func206.trans (congrArg some (by kernel_rfl))
  f300 := Try.func207.trans (congrArg some (by kernel_rfl))
  f301 := Try.func208.trans (congrArg some (by kernel_rfl))
  f328 := Try.func216.trans (congrArg some (by kernel_rfl))
  f329 := Try.func217.trans (congrArg some (by kernel_rfl))
  f330 := Try.func218.trans (congrArg some (by kernel_rfl))
  f331 := Try.func219.trans (congrArg some (by kernel_rfl))
  f332 := Try.func220.trans (congrArg some (by kernel_rfl))
  f343 := Try.func222.trans (congrArg some (by kernel_rfl))
  t0 := Try.underlying0
  a0 := Try.isAgg0
  z0 := Try.sizeOf0
  v0 := Try.zeroValue0
  t3 := Try.underlying3
  a3 := Try.isAgg3
  z3 := Try.sizeOf3
  v3 := Try.zeroValue3
  t4 := Try.underlying4
  a4 := Try.isAgg4
  z4 := Try.sizeOf4
  v4 := Try.zeroValue4
  t5 := Try.underlying5
  a5 := Try.isAgg5
  z5 := Try.sizeOf5
  v5 := Try.zeroValue5
  t9 := Try.underlying9
  a9 := Try.isAgg9
  z9 := Try.sizeOf9
  v9 := Try.zeroValue9
  t28 := Try.underlying26
  a28 := Try.isAgg26
  z28 := Try.sizeOf26
  v28 := Try.zeroValue26
  t46 := Try.underlying132
  a46 := Try.isAgg132
  z46 := Try.sizeOf132
  v46 := Try.zeroValue132
  t51 := Try.underlying152
  a51 := Try.isAgg152
  z51 := Try.sizeOf152
  v51 := Try.zeroValue152
  t53 := Try.underlying78
  a53 := Try.isAgg78
  z53 := Try.sizeOf78
  v53 := Try.zeroValue78
  t131 := Try.underlying32
  a131 := Try.isAgg32
  z131 := Try.sizeOf32
  v131 := Try.zeroValue32
  t182 := Try.underlying146
  a182 := Try.isAgg146
  z182 := Try.sizeOf146
  v182 := Try.zeroValue146
  t183 := Try.underlying147
  a183 := Try.isAgg147
  z183 := Try.sizeOf147
  v183 := Try.zeroValue147
  t218 := Try.underlying158
  a218 := Try.isAgg158
  z218 := Try.sizeOf158
  v218 := Try.zeroValue158
  t222 := Try.underlying162
  a222 := Try.isAgg162
  z222 := Try.sizeOf162
  v222 := Try.zeroValue162
  t228 := Try.underlying165
  a228 := Try.isAgg165
  z228 := Try.sizeOf165
  v228 := Try.zeroValue165
  t229 := Try.underlying24
  a229 := Try.isAgg24
  z229 := Try.sizeOf24
  v229 := Try.zeroValue24 }
open Go.Sort Go.RowKit in
theorem Try.slices_Sort_int (blk off cap : Nat) (zs : List Int) (w : World) (hH : Holds (Value.int .i64) w blk off zs.toArray) (hblk : blk < w.heap.size) (hsz : zs.length < 4611686018427387904) :
    Calls Try.prog 136 #[.slice (some ⟨blk, off, none⟩) zs.length cap] w fun e w' =>
      e = .returned (.tuple #[]) ∧ ∃ n os, w' = grow (putRow (Value.int .i64) (Sort.ahead w n) blk off (zs.mergeSort fun x y => decide (x ≤ y)).toArray) os := Any.slices_Sort_int Try.lays189 blk off cap zs w hH hblk hsz
def Try.lays112_ren : Go.Shelf.Ren := ⟨fun | 112 => 102 | n => n, fun | 28 => 26 | 3 => 3 | 4 => 4 | 0 => 0 | n => n, fun | n => n⟩
theorem Try.lays112 : Go.Proofs.Lays.n112 Try.prog Try.lays112_ren := {
  mixed := by kernel_rfl
  f112 := Try.func102.trans (congrArg some (by kernel_rfl))
  t0 := Try.underlying0
  a0 := Try.isAgg0
  z0 := Try.sizeOf0
  v0 := Try.zeroValue0
  t3 := Try.underlying3
  a3 := Try.isAgg3
  z3 := Try.sizeOf3
  v3 := Try.zeroValue3
  t4 := Try.underlying4
  a4 := Try.isAgg4
  z4 := Try.sizeOf4
  v4 := Try.zeroValue4
  t28 := Try.underlying26
  a28 := Try.isAgg26
  z28 := Try.sizeOf26
  v28 := Try.zeroValue26 }
open Go.RowKit Go.Lib Go.Sort in
theorem Try.slices_Reverse_int (blk off cap : Nat) (zs : List Int) (w : World) (hH : Holds (Value.int .i64) w blk off zs.toArray) (hsz : zs.length ≤ 9223372036854775807) :
    Calls Try.prog 102 #[.slice (some ⟨blk, off, none⟩) zs.length cap] w fun e w' => e = .returned (.tuple #[]) ∧ ∃ n, w' = putRow (Value.int .i64) (Sort.ahead w n) blk off zs.reverse.toArray := Any.slices_Reverse_int Try.lays112 blk off cap zs w hH hsz
def Try.laysNm215_ren : Go.Shelf.Ren := ⟨fun | 15 => 98 | n => n, fun | 22 => 26 | 3 => 3 | 4 => 4 | n => n, fun | n => n⟩
theorem Try.laysNm215 : Go.Proofs.Lays2.n15 Try.prog Try.laysNm215_ren := {
  mixed := by kernel_rfl
  f15 := Try.func98.trans (congrArg some (by kernel_rfl))
  t3 := Try.underlying3
  a3 := Try.isAgg3
  z3 := Try.sizeOf3
  v3 := Try.zeroValue3
  t4 := Try.underlying4
  a4 := Try.isAgg4
  z4 := Try.sizeOf4
  v4 := Try.zeroValue4
  t22 := Try.underlying26
  a22 := Try.isAgg26
  z22 := Try.sizeOf26
  v22 := Try.zeroValue26
  i3 := by kernel_rfl }
open Go.RowKit Go.Lib in
theorem Try.slices_Clone_int (b off n c : Nat) (zs : List Int) (w : World) (hz : n ≤ zs.length) (hbig : n * 8 ≤ 140737488355328) (hc : ∀ j, j < zs.length → w.cell? ⟨b, off + j, none⟩ = some (.int .i64 (zs.getD j 0))) :
    Calls Try.prog 98 #[.slice (some ⟨b, off, none⟩) n c] w fun e w' => ∃ v', e = .returned v' ∧ w'.ownsRow w.heap.size 3 1 v' n ((zs.take n).map (Value.int .i64)) ∧ v' ≠ .slice none 0 0 ∧ Below w.heap.size w w' := Any.slices_Clone_int Try.laysNm215 b off n c zs w hz hbig hc
end Go.Proofs


/-
  The contract of slices.Clone at lists of one number at least.
-/
namespace Go.Proofs.Ytleookfdngnphaa
open Go.RowKit
theorem clone_ne (w : World) (Axs : Option Addr) (cxs : Nat) (xs : List Int) (hxs : Reads w Axs xs) (lxs : xs.length ≤ 1048576) (hne : xs ≠ []) : Calls Try.prog 98 #[.slice Axs xs.length cxs] w (RetL xs w) := by
  cases xs with
  | nil => exact absurd rfl hne
  | cons x xs =>
    obtain ⟨b, o, rfl, hb, hc⟩ := hxs (by simp)
    refine (Try.slices_Clone_int b o (x :: xs).length cxs (x :: xs) w (Nat.le_refl _) (by omega) (fun j hj => ?_)).mono ?_
    · have := hc j _ (List.getElem?_eq_getElem hj)
      rw [this]
      simp [List.getD, List.getElem?_eq_getElem hj]
    · rintro e w' ⟨v, rfl, ho, _, hb⟩
      rw [List.take_length] at ho
      exact ⟨v, rfl, ho, hb⟩
end Go.Proofs.Ytleookfdngnphaa
