
/-
  Plain facts on the sums of products of two expansions, halves and two thirds, and what the draws of chapter 7 with terms give.
-/
import Derived.Test.YtleookfdngnphaaPoP
import Derived.Test.YtleookfdngnphaaGreedyP
import Derived.Test.YtleookfdngnphaaDrawP
import Derived.Test.YtleookfdngnphaaSum2
import Derived.Test.YtleookfdngnphaaGqC
namespace Go.Proofs.Ytleookfdngnphaa
open Go.RowKit
theorem sumQ_permP {xs ys : List Int} (h : xs.Perm ys) : sumQ xs = sumQ ys := by
  induction h with
  | nil => rfl
  | cons x _ ih => show 1 / (x : Rat) + sumQ _ = 1 / (x : Rat) + sumQ _; rw [ih]
  | swap x y l => show 1 / (y : Rat) + (1 / (x : Rat) + sumQ l) = 1 / (x : Rat) + (1 / (y : Rat) + sumQ l); grind
  | trans _ _ i1 i2 => exact i1.trans i2
theorem sumQ_times {d : Int} (hd : 1 ≤ d) : ∀ {b : List Int}, (∀ e ∈ b, 1 ≤ e) → sumQ (b.map (d * ·)) = 1 / (d : Rat) * sumQ b
  | [], _ => by show (0 : Rat) = 1 / (d : Rat) * 0; grind
  | e :: b, h => by
    have ih := sumQ_times hd (b := b) (fun x hx => h x (by simp [hx]))
    have h1 := ne0 hd
    have h2 := ne0 (h e (by simp))
    show 1 / ((d * e : Int) : Rat) + sumQ (b.map (d * ·)) = 1 / (d : Rat) * (1 / (e : Rat) + sumQ b)
    rw [ih, Rat.intCast_mul]
    grind
theorem sumQ_prd {b : List Int} (hb : ∀ e ∈ b, 1 ≤ e) : ∀ {a : List Int}, (∀ e ∈ a, 1 ≤ e) → sumQ (prd a b) = sumQ a * sumQ b
  | [], _ => by show (0 : Rat) = 0 * sumQ b; grind
  | d :: a, h => by
    rw [prd_cons, sumQ_append, sumQ_times (h d (by simp)) hb, sumQ_prd hb (fun x hx => h x (by simp [hx]))]
    show _ = (1 / (d : Rat) + sumQ a) * sumQ b
    grind
/-- what is told of a product -/
theorem po_told {xs ys zs : List Int} (h : poO xs ys = some zs) : expB xs = true ∧ expB ys = true ∧ expB zs = true ∧ zs.length = xs.length * ys.length ∧ sumQ zs = sumQ xs * sumQ ys := by
  unfold poO at h
  split at h
  · rename_i hc
    injection h with h
    obtain ⟨h1, h2, h3⟩ := hc
    subst h
    refine ⟨h1, h2, h3, by rw [srt_len, prd_len], ?_⟩
    rw [sumQ_permP (srt_perm _), sumQ_prd (fun e he => (expB_small h2 e he).1) (fun e he => (expB_small h1 e he).1)]
  · cases h
theorem po_mul {xs ys zs : List Int} (h : poO xs ys = some zs) : redB (sumN xs * sumN ys) (sumD xs * sumD ys) = true ∧ redN (sumN xs * sumN ys) (sumD xs * sumD ys) = sumN zs ∧ redD (sumN xs * sumN ys) (sumD xs * sumD ys) = sumD zs := by
  obtain ⟨hx, hy, hz, _, hq⟩ := po_told h
  obtain ⟨_, _, dx, _⟩ := good_bounds (good_sum hx)
  obtain ⟨_, _, dy, _⟩ := good_bounds (good_sum hy)
  obtain ⟨_, _, dz, _⟩ := good_bounds (good_sum hz)
  have p := mul_pos1 dx dy
  refine redB_same p (good_sum hz) ?_
  rw [sum_q hz, hq, ← sum_q hx, ← sum_q hy]
  have a1 := ne0 dx
  have a2 := ne0 dy
  unfold rq
  simp only [Rat.intCast_mul]
  grind
/-- twice the half -/
theorem po_half {xs zs : List Int} (h : poO xs [2] = some zs) : redB (sumN zs * sumD zs + sumN zs * sumD zs) (sumD zs * sumD zs) = true ∧ redN (sumN zs * sumD zs + sumN zs * sumD zs) (sumD zs * sumD zs) = sumN xs ∧ redD (sumN zs * sumD zs + sumN zs * sumD zs) (sumD zs * sumD zs) = sumD xs := by
  obtain ⟨hx, _, hz, _, hq⟩ := po_told h
  obtain ⟨_, _, dx, _⟩ := good_bounds (good_sum hx)
  obtain ⟨_, _, dz, _⟩ := good_bounds (good_sum hz)
  have p := mul_pos1 dz dz
  refine redB_same p (good_sum hx) ?_
  have h2 : sumQ [2] = 1 / 2 := by show 1 / (((2 : Int)) : Rat) + 0 = 1 / 2; have : (((2 : Int)) : Rat) = 2 := rfl; rw [this]; grind
  have hs := sum_q hz
  rw [hq, h2, ← sum_q hx] at hs
  have a1 := ne0 dz
  unfold rq at hs ⊢
  simp only [Rat.intCast_mul, Rat.intCast_add]
  grind
/-- two thirds -/
theorem po_third {xs zs : List Int} (h : poO xs [2, 6] = some zs) : redB (sumN xs * 2) (sumD xs * 3) = true ∧ redN (sumN xs * 2) (sumD xs * 3) = sumN zs ∧ redD (sumN xs * 2) (sumD xs * 3) = sumD zs := by
  obtain ⟨hx, _, hz, _, hq⟩ := po_told h
  obtain ⟨_, _, dx, _⟩ := good_bounds (good_sum hx)
  obtain ⟨_, _, dz, _⟩ := good_bounds (good_sum hz)
  have p := mul_pos1 dx (show (1 : Int) ≤ 3 by omega)
  refine redB_same p (good_sum hz) ?_
  have h2 : sumQ [2, 6] = 2 / 3 := by show 1 / (((2 : Int)) : Rat) + (1 / (((6 : Int)) : Rat) + 0) = 2 / 3; have : (((2 : Int)) : Rat) = 2 := rfl; have h6 : (((6 : Int)) : Rat) = 6 := rfl; rw [this, h6]; grind
  rw [sum_q hz, hq, h2, ← sum_q hx]
  have a1 := ne0 dx
  have t2 : (((2 : Int)) : Rat) = 2 := rfl
  have t3 : (((3 : Int)) : Rat) = 3 := rfl
  unfold rq
  simp only [Rat.intCast_mul, t2, t3]
  grind
theorem drawProductOf_any (w : World) (A : Option Addr) (n c : Nat) (hr : ReadsB w A n) (hn : n ≤ 1048576) : Calls Try.prog 43 #[.slice A n c] w (fun e w' => ∃ v u xs ys, e = .returned (.tuple #[v, u]) ∧ OwnI w' w.heap.size v xs ∧ OwnI w' w.heap.size u ys ∧ xs.length ≤ 40 ∧ ys.length ≤ 40 ∧ (∀ z ∈ xs, -9223372036854775808 ≤ z ∧ z ≤ 9223372036854775807) ∧ (∀ z ∈ ys, -9223372036854775808 ≤ z ∧ z ≤ 9223372036854775807) ∧ Below w.heap.size w w') := by
  have HC0 := Lib.hid (beginP w A n c 80 hr hn)
  clear hr
  go_enter Try.func43, Try.ntmps43
  go_wp2_with fail
  refine (terms_any w _ w.heap.size 0 (by omega) HC0.out).mono ?_; rintro e w2 ⟨v, zs, rfl, ho, hl, h64, hc2, hg2⟩
  have HC2 := Lib.hid hc2
  have HO := Lib.hid ho
  have H64 := Lib.hid h64
  have hz2 := hg2.size
  simp only [World.size_alloc] at hz2
  clear hc2 hg2 ho h64
  go_wp2_with fail
  refine (terms_any w _ w.heap.size 100 (by omega) HC2.out).mono ?_; rintro e w3 ⟨u, ys, rfl, ho3, hl3, h643, hc3, hg3⟩
  have hbs := hc3.base.2.2
  have HO2 := Lib.hid (HO.out.grown hg3 (by simp only [World.size_alloc]; omega))
  have HO3 := Lib.hid ho3
  have H643 := Lib.hid h643
  clear hc3 hg3 ho3 h643
  go_wp2
  go_ret2
  exact ⟨v, u, zs, ys, rfl, HO2.out.mono (by simp only [World.size_alloc]; omega), HO3.out.mono (by omega), hl, hl3, H64.out, H643.out, hbs⟩
theorem drawHalvesOf_any (w : World) (A : Option Addr) (n c : Nat) (hr : ReadsB w A n) (hn : n ≤ 1048576) : Calls Try.prog 47 #[.slice A n c] w (DrawnL w) := by
  have HC0 := Lib.hid (beginP w A n c 80 hr hn)
  clear hr
  go_enter Try.func47, Try.ntmps47
  go_wp2_with fail
  refine (terms_any w _ w.heap.size 0 (by omega) HC0.out).mono ?_; rintro e w2 ⟨v, zs, rfl, ho, hl, h64, hc2, hg2⟩
  have hbs := hc2.base.2.2
  clear hc2 hg2
  go_wp2
  go_ret
  exact ⟨v, zs, rfl, ho.mono (by (first | (go_size; done) | ((try simp only [World.size_alloc, World.size_setCell, World.size_drew, World.heap_drewN]); omega))), hl, h64, hbs⟩
theorem gexO_partsP {n d : Int} {xs : List Int} (h : gexO n d = some xs) : goodB n d = true ∧ n ≤ d ∧ expB xs = true ∧ ∃ es, walkR (stG pick0) 24 0 n d = some es ∧ takenOf es = xs := by
  unfold gexO at h
  split at h
  · rename_i hb
    obtain ⟨hg, hle⟩ := atMostB_yes hb
    unfold lstO at h
    cases hw : walkR (stG pick0) 24 0 n d with
    | none => rw [hw] at h; cases h
    | some es =>
      rw [hw] at h
      simp only [Option.bind_some] at h
      split at h
      · rename_i hk
        injection h with h
        subst h
        exact ⟨hg, hle, hk, es, rfl, rfl⟩
      · cases h
  · cases h
theorem sh_told {n d : Int} {l : List Int} (h : shO n d = some l) : 1 ≤ d ∧ d ≤ 1000 ∧ 0 ≤ n ∧ n ≤ d ∧ expB l = true ∧ redB n d = true ∧ redN n d = sumN l ∧ redD n d = sumD l := by
  unfold shO at h
  split at h
  · rename_i hs
    obtain ⟨⟨d1, d2⟩, n1, n2⟩ := (shB_iff n d).1 hs
    obtain ⟨g, hle, he, es, hw, ht⟩ := gexO_partsP (show gexO (n / gcdI n d) (d / gcdI n d) = some l from h)
    obtain ⟨e1, e2, e3⟩ := greedy_exp g hle hw
    rw [ht] at e2 e3
    have hr := red_smallQ n1 (by omega) d1 (show d ≤ 1000000000 by omega)
    exact ⟨d1, d2, n1, n2, he, hr, by rw [redN, if_pos hr, e2], by rw [redD, if_pos hr, e3]⟩
  · cases h
theorem l1Least_sh (a b : Int) (w : World) : Calls Try.prog 118 #[.int .i64 a, .int .i64 b] w (RetQ (.int .i64 (min a b)) w) := by
  by_cases h : a < b
  · have E : Hid (min a b = a) := Lib.hid (by omega)
    go_enter Try.func118, Try.ntmps118
    go_wp2
    go_ret
    exact ⟨ret_int E.out.symm, 0, rfl⟩
  · have E : Hid (min a b = b) := Lib.hid (by omega)
    go_enter Try.func118, Try.ntmps118
    go_wp2
    go_ret
    exact ⟨ret_int E.out.symm, 0, rfl⟩
theorem l1Most_sh (a b : Int) (w : World) : Calls Try.prog 139 #[.int .i64 a, .int .i64 b] w (RetQ (.int .i64 (max a b)) w) := by
  by_cases h : b < a
  · rw [show max a b = a from by omega]
    go_enter Try.func139, Try.ntmps139
    go_wp2
    go_ret
    exact ⟨rfl, 0, rfl⟩
  · rw [show max a b = b from by omega]
    go_enter Try.func139, Try.ntmps139
    go_wp2
    go_ret
    exact ⟨rfl, 0, rfl⟩
set_option maxHeartbeats 2000000 in
theorem drawShares_any (w : World) (A : Option Addr) (n c : Nat) (hr : ReadsB w A n) (hn : n ≤ 1048576) : Calls Try.prog 53 #[.slice A n c] w (fun e w' => ∃ x p : Int, e = .returned (.tuple #[.int .i64 x, .int .i64 p]) ∧ 0 ≤ x ∧ x ≤ 2000 ∧ 0 ≤ p ∧ p ≤ 2000 ∧ Below w.heap.size w w') := by
  have HC0 := Lib.hid (beginP w A n c 80 hr hn)
  clear hr
  go_enter Try.func53, Try.ntmps53
  go_wp2_with fail
  refine (pick_any w _ w.heap.size 0 (by omega) _ (by omega) HC0.out).mono ?_; rintro e w1 ⟨x, rfl, x0, x1, hc1, hg1⟩
  have HC1 := Lib.hid hc1
  have hz1 := hg1.size
  simp only [World.size_alloc] at hz1
  clear hg1 hc1
  go_wp2_with fail
  refine (among_any w _ w.heap.size 2 (by omega) 0 1001 _ 7 [1, 5, 10, 1 + x, 1000, 1001, 0] (Reads.lit w1 _ 7 rfl) (by simp) (by simp) (by simp) (fun a ha => by injection ha with ha; subst ha; show w1.heap.size ≠ w.heap.size; omega) (fun z hz => by simp only [List.mem_cons, List.not_mem_nil, or_false] at hz; omega) (HC1.out.below ((Below.refl _ _).alloc (Nat.le_refl _) _))).mono ?_; rintro e w2 ⟨p, rfl, p0, p1, hc2, hg2⟩
  have HC2 := Lib.hid hc2
  have hz2 := hg2.size
  simp only [World.size_alloc] at hz2
  clear hg2 hc2
  go_wp2_with fail
  refine (l1Least_sh _ _ _).mono ?_; rintro e w3 ⟨rfl, k3, rfl⟩
  have hm : 2 ≤ min (p + 2) 1002 ∧ min (p + 2) 1002 ≤ 1002 := by omega
  generalize min (p + 2) 1002 = m at *
  go_wp2_with fail
  refine (l1Most_sh _ _ _).mono ?_; rintro e w4 ⟨rfl, k4, rfl⟩
  have hu : 1 ≤ max 1 m ∧ max 1 m ≤ 1002 := by omega
  generalize max 1 m = u at *
  go_wp2_with fail
  refine (pick_any w _ w.heap.size 4 (by omega) _ (by omega) ((HC2.out.below (by (repeat' (first | (with_reducible exact Below.refl _ _) | (with_reducible assumption) | (with_reducible refine Below.drew ?_) | (with_reducible refine belowDrewN ?_ _) | (with_reducible refine Below.alloc ?_ ?_ _) | (with_reducible refine Below.setCell ?_ ?_ _) | (with_reducible refine belowStep (by assumption) ?_ ?_) | (with_reducible exact Below.size (by assumption)) | go_size)))).below (by (repeat' (first | (with_reducible exact Below.refl _ _) | (with_reducible assumption) | (with_reducible refine Below.drew ?_) | (with_reducible refine belowDrewN ?_ _) | (with_reducible refine Below.alloc ?_ ?_ _) | (with_reducible refine Below.setCell ?_ ?_ _) | (with_reducible refine belowStep (by assumption) ?_ ?_) | (with_reducible exact Below.size (by assumption)) | go_size))))).mono ?_; rintro e w5 ⟨y, rfl, y0, y1, hc5, hg5⟩
  have hbs := hc5.base.2.2
  clear hc5 hg5
  go_wp2
  go_ret2
  exact ⟨y, p, rfl, by omega, by omega, by omega, by omega, hbs⟩
end Go.Proofs.Ytleookfdngnphaa
