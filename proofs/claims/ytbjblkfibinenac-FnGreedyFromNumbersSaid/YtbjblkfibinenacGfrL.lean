
/-
  Plain facts on greedy terms from a number on: their sum, and that no less number could have been taken; and the draw for them.
-/
import Derived.Test.YtbjblkfibinenacGrFrom
import Derived.Test.YtbjblkfibinenacDrawP
import Derived.Test.YtbjblkfibinenacGreedyP
namespace Go.Proofs.Ytbjblkfibinenac
open Go.RowKit
theorem gfrO_parts {n d l : Int} {xs : List Int} (h : gfrO n d l = some xs) : goodB n d = true ∧ (1 ≤ l ∧ l ≤ 1000000000) ∧ expB xs = true ∧ ∃ es, walkR (stG pick1) 24 l n d = some es ∧ takenOf es = xs := by
  unfold gfrO at h
  split at h
  · rename_i hb
    obtain ⟨hg, hl⟩ := gfrB_yes hb
    unfold lstO at h
    cases hw : walkR (stG pick1) 24 l n d with
    | none => rw [hw] at h; cases h
    | some es =>
      rw [hw] at h
      simp only [Option.bind_some] at h
      split at h
      · rename_i hk
        injection h with h
        subst h
        exact ⟨hg, hl, hk, es, rfl, rfl⟩
      · cases h
  · cases h
theorem from_end {k : Nat} {l n d : Int} {es : List (Int × Int × Int)} (hg : goodB n d = true) (h : walkR (stG pick1) k l n d = some es) (ht : takenOf es = []) : n = 0 := by
  have hgb := good_bounds hg
  rcases (by omega : n ≤ 0 ∨ 0 < n) with h0 | h0
  · omega
  · cases k with
    | zero => rw [walkR_out h0] at h; cases h
    | succ k =>
      cases hs : stG pick1 l n d with
      | none => rw [walkR_none h0 hs] at h; cases h
      | some p =>
        obtain ⟨t, n', d'⟩ := p
        rw [walkR_some h0 hs] at h
        cases hr : walkR (stG pick1) k (t + 1) n' d' with
        | none => rw [hr] at h; cases h
        | some es' =>
          rw [hr] at h
          injection h with h
          subst h
          cases ht
/-- what the next term is like -/
structure FromAt (l n d x : Int) (xs' : List Int) : Prop where
  n1 : 1 ≤ n
  lx : l ≤ x
  x9 : x ≤ 1000000000
  less : l < x → n * (x - 1) < 1 * d
  ge : 1 * d ≤ n * x
  red : redB (n * x - 1 * d) (d * x) = true
  good : goodB (redN (n * x - 1 * d) (d * x)) (redD (n * x - 1 * d) (d * x)) = true
  q : rq n d = 1 / (x : Rat) + rq (redN (n * x - 1 * d) (d * x)) (redD (n * x - 1 * d) (d * x))
  rest : ∃ k' es', walkR (stG pick1) k' (x + 1) (redN (n * x - 1 * d) (d * x)) (redD (n * x - 1 * d) (d * x)) = some es' ∧ takenOf es' = xs'
theorem from_at {k : Nat} {l n d x : Int} {xs' : List Int} {es : List (Int × Int × Int)} (hg : goodB n d = true) (hl : 1 ≤ l) (h : walkR (stG pick1) k l n d = some es) (ht : takenOf es = x :: xs') : FromAt l n d x xs' := by
  have hgb := good_bounds hg
  rcases (by omega : n ≤ 0 ∨ 0 < n) with h0 | h0
  · rw [walkR_end h0] at h
    injection h with h
    subst h
    cases ht
  · cases k with
    | zero => rw [walkR_out h0] at h; cases h
    | succ k =>
      cases hs : stG pick1 l n d with
      | none => rw [walkR_none h0 hs] at h; cases h
      | some p =>
        obtain ⟨t, n', d'⟩ := p
        rw [walkR_some h0 hs] at h
        cases hr : walkR (stG pick1) k (t + 1) n' d' with
        | none => rw [hr] at h; cases h
        | some es' =>
          rw [hr] at h
          injection h with h
          subst h
          obtain ⟨h1, h2, h3, h4⟩ := stG_some hs
          have ht' : t :: takenOf es' = x :: xs' := ht
          injection ht' with hx hxs
          subst hx
          obtain ⟨u1, u2, u3, u4⟩ := ucd_facts (by omega : 1 ≤ n) hgb.2.2.1
          have hp : t = max l (ucd n d) := h1
          have ht1 : 1 ≤ t := by omega
          obtain ⟨p1, p2, p3, _, p5, p6⟩ := tB_parts h2
          have hgd := tB_good hgb.2.2.1 ht1 h2
          have hq := tN_q hgb.2.2.1 ht1 h2
          rw [p5] at h3 hgd hq
          rw [p6] at h4 hgd hq
          subst h3 h4
          have e1 : 1 * d = d := Int.one_mul d
          refine ⟨by omega, by omega, p1, fun hlt => ?_, by omega, by rw [e1]; exact p3, by rw [e1]; exact hgd, by rw [e1]; exact hq, k, es', by rw [e1]; exact hr, hxs⟩
          have : t = ucd n d := by omega
          subst this
          have e2 : n * (ucd n d - 1) = n * ucd n d - n := by rw [Int.mul_sub, Int.mul_one]
          omega
theorem from_sum : ∀ {xs : List Int} {k : Nat} {l n d : Int} {es : List (Int × Int × Int)}, goodB n d = true → 1 ≤ l → walkR (stG pick1) k l n d = some es → takenOf es = xs → sumQ xs = rq n d
  | [], k, l, n, d, es, hg, hl, h, ht => by
    have := from_end hg h ht
    subst this
    simp [sumQ, rq]; grind
  | x :: xs, k, l, n, d, es, hg, hl, h, ht => by
    have F := from_at hg hl h ht
    obtain ⟨k', es', hw, ht'⟩ := F.rest
    have ih := from_sum F.good (by have := F.lx; omega) hw ht'
    show 1 / (x : Rat) + sumQ xs = rq n d
    rw [ih, F.q]
structure GfrL (n d l : Int) (xs : List Int) : Prop where
  exp : expB xs = true
  sum : eN xs = n ∧ eD xs = d
  l24 : xs.length ≤ 24
  x64 : In64 xs
  good : goodB n d = true
  low : 1 ≤ l ∧ l ≤ 1000000000
  walk : ∃ es, walkR (stG pick1) 24 l n d = some es ∧ takenOf es = xs
theorem gfrO_back {n d l : Int} {xs : List Int} (h : gfrO n d l = some xs) : GfrL n d l xs := by
  obtain ⟨hg, hl, hk, es, hw, hes⟩ := gfrO_parts h
  have hq := sum_q hk
  rw [from_sum hg hl.1 hw hes] at hq
  obtain ⟨a, b⟩ := good_same (good_sum hk) hg hq
  exact ⟨hk, ⟨by rw [eN, if_pos hk, a], by rw [eD, if_pos hk, b]⟩, expB_len hk, In64.of_mem fun x hx => by have := expB_small hk x hx; omega, hg, hl, es, hw, hes⟩
theorem good_unitG {x : Int} (h1 : 1 ≤ x) (h2 : x ≤ 1000000000) : goodB 1 x = true := (goodB_iff 1 x).2 ⟨by omega, by omega, h1, h2, by simp [gcdI]⟩
theorem pUnitG_any (d : Int) (w : World) : Calls Try.prog 36 #[.int .i64 d] w (Ret (.agg #[.int .i64 1, .int .i64 d]) w) := by
  go_enter Try.func36, Try.ntmps36
  go_wp2
  go_returns
  exact ⟨rfl, by (repeat' (first | (with_reducible exact Below.refl _ _) | (with_reducible assumption) | (with_reducible refine Below.drew ?_) | (with_reducible refine belowDrewN ?_ _) | (with_reducible refine Below.alloc ?_ ?_ _) | (with_reducible refine Below.setCell ?_ ?_ _) | (with_reducible refine belowStep (by assumption) ?_ ?_) | (with_reducible exact Below.size (by assumption)) | go_size))⟩
set_option maxRecDepth 100000 in
set_option maxHeartbeats 4000000 in
theorem drawGreedyFrom_any (w : World) (A : Option Addr) (n c : Nat) (hr : ReadsB w A n) (hn : n ≤ 1048576) : Calls Try.prog 34 #[.slice A n c] w (fun e w' => ∃ a b l : Int, e = .returned (.tuple #[.agg #[.int .i64 a, .int .i64 b], .int .i64 l]) ∧ (-9223372036854775808 ≤ a ∧ a ≤ 9223372036854775807) ∧ (-9223372036854775808 ≤ b ∧ b ≤ 9223372036854775807) ∧ (-9223372036854775808 ≤ l ∧ l ≤ 9223372036854775807) ∧ Below w.heap.size w w') := by
  have T0 := Lib.hid (TwoAt.new w 0 0 27)
  have hc0 := beginP (w.alloc (.cells #[.int .i64 0, .int .i64 0] 27)) A n c 65 (hr.below ((Below.refl _ _).alloc (Nat.le_refl _) _)) hn
  rw [World.size_alloc] at hc0
  have HC0 := Lib.hid hc0
  clear hr hc0
  go_enter Try.func34, Try.ntmps34
  go_wp2_with fail
  refine (pick_any (w.alloc (.cells #[.int .i64 0, .int .i64 0] 27)) _ (w.heap.size + 1) 0 (by omega) _ (by omega) HC0.out).mono ?_; rintro e w1 ⟨x, rfl, x0, x1, hc1, hg1⟩
  have HC1 := Lib.hid hc1
  have hz1 := hg1.size
  simp only [World.size_alloc] at hz1
  clear hc1 hg1
  go_wp2_with fail
  refine (oneP_any (w.alloc (.cells #[.int .i64 0, .int .i64 0] 27)) _ (w.heap.size + 1) 2 (by omega) _ (by omega) HC1.out).mono ?_; rintro e w2 ⟨o, rfl, hc2, hg2⟩
  have HC2 := Lib.hid hc2
  have hz2 := hg2.size
  clear hc2 hg2
  cases o with
  | true =>
    go_wp2_with fail
    refine (among_any (w.alloc (.cells #[.int .i64 0, .int .i64 0] 27)) _ (w.heap.size + 1) 4 (by omega) (-1) 1000000001 _ 5 [-1, 0, 1, 1000000000, 1000000001] (Reads.lit w2 _ 5 rfl) (by simp) (by simp) (by simp) (fun a ha => by injection ha with ha; subst ha; show w2.heap.size ≠ w.heap.size + 1; omega) (fun z hz => by simp only [List.mem_cons, List.not_mem_nil, or_false] at hz; omega) (HC2.out.below ((Below.refl _ _).alloc (Nat.le_refl _) _))).mono ?_; rintro e w3 ⟨z, rfl, z0, z1, hc3, hg3⟩
    have HC3 := Lib.hid hc3
    have hz3 := hg3.size
    simp only [World.size_alloc] at hz3
    clear hc3 hg3
    go_wp2_with fail
    refine (fraction_any (w.alloc (.cells #[.int .i64 0, .int .i64 0] 27)) _ (w.heap.size + 1) 6 (by omega) HC3.out).mono ?_; rintro e w4 ⟨a, b, rfl, ha, hb, hc4, hg4⟩
    have hbs := hc4.base.2.2
    have hz4 := hg4.size
    obtain ⟨t1, t2, t3, t4, t5⟩ := T0.out.below hbs
    have hbw : Below w.heap.size w w4 := by (repeat' (first | (with_reducible exact Below.refl _ _) | (with_reducible assumption) | (with_reducible refine Below.drew ?_) | (with_reducible refine belowDrewN ?_ _) | (with_reducible refine Below.alloc ?_ ?_ _) | (with_reducible refine Below.setCell ?_ ?_ _) | (with_reducible refine belowStep (by assumption) ?_ ?_) | (with_reducible exact Below.size (by assumption)) | go_size))
    clear hc4 hg4 hbs
    go_wp2
    refine bodyPost_ret (by simp [results, Try.results34, go_sem, *]; try rfl) rfl ?_
    exact ⟨a, b, z, rfl, ha, hb, by omega, (hbw.setCell (Nat.le_refl _) _).setCell (Nat.le_refl _) _⟩
  | false =>
    go_wp2_with fail
    refine (fraction_any (w.alloc (.cells #[.int .i64 0, .int .i64 0] 27)) _ (w.heap.size + 1) 4 (by omega) HC2.out).mono ?_; rintro e w4 ⟨a, b, rfl, ha, hb, hc4, hg4⟩
    have hbs := hc4.base.2.2
    have hz4 := hg4.size
    obtain ⟨t1, t2, t3, t4, t5⟩ := T0.out.below hbs
    have hbw : Below w.heap.size w w4 := by (repeat' (first | (with_reducible exact Below.refl _ _) | (with_reducible assumption) | (with_reducible refine Below.drew ?_) | (with_reducible refine belowDrewN ?_ _) | (with_reducible refine Below.alloc ?_ ?_ _) | (with_reducible refine Below.setCell ?_ ?_ _) | (with_reducible refine belowStep (by assumption) ?_ ?_) | (with_reducible exact Below.size (by assumption)) | go_size))
    clear hc4 hg4 hbs
    go_wp2
    refine bodyPost_ret (by simp [results, Try.results34, go_sem, *]; try rfl) rfl ?_
    exact ⟨a, b, 1 + x, rfl, ha, hb, by omega, (hbw.setCell (Nat.le_refl _) _).setCell (Nat.le_refl _) _⟩
end Go.Proofs.Ytbjblkfibinenac
