
/-
  Plain facts on the terms of the method by binary digits: their sum, their number, and their bound.
-/
import Derived.Test.YtocnjfbcblbjeacBinQ
import Derived.Test.YtocnjfbcblbjeacRq
import Derived.Test.YtocnjfbcblbjeacDraw
namespace Go.Proofs.Ytocnjfbcblbjeac
open Go.RowKit
theorem beginP (w : World) (A : Option Addr) (n c : Nat) (T : TypeId) (hr : ReadsB w A n) (hn : n ≤ 1048576) : Cur w (w.alloc (.cells #[.slice A n c, .int .i64 0, .int .u64 0] T)) w.heap.size 0 :=
  ⟨Nat.le_refl _, by simp, (Below.refl _ _).alloc (Nat.le_refl _) _, A, n, c, 0, 0, (by simp), hn, hr, (by simp), by omega, by omega, (by simp), by simp [go_sem], by simp [go_sem]⟩
theorem oneP_any (w0 w : World) (g n : Nat) (hn : n ≤ 1000000) (m : Int) (hm : m ≤ 1000000000) (h : Cur w0 w g n) : Calls Try.prog 73 #[.pointer (some ⟨g, 0, none⟩), .int .i64 m] w (fun e w' => ∃ b : Bool, e = .returned (.bool b) ∧ Cur w0 w' g (n + 2) ∧ w.grownBy w' (some g)) := by
  have HC := Lib.hid h
  clear h
  go_enter Try.func73, Try.ntmps73
  go_wp2_with fail
  refine (pick_any w0 _ _ n hn _ hm HC.out).mono ?_; rintro e w1 ⟨x, rfl, x0, x1, hc1, hg1⟩
  have HC1 := Lib.hid hc1
  have Hg1 := Lib.hid hg1
  clear hc1 hg1
  go_wp2
  go_ret
  exact ⟨_, rfl, HC1.out, Hg1.out⟩
set_option maxHeartbeats 4000000 in
theorem proper_any (w0 w : World) (g n : Nat) (hn : n ≤ 10000) (h : Cur w0 w g n) : Calls Try.prog 60 #[.pointer (some ⟨g, 0, none⟩)] w (DrawF w0 w g (n + 30)) := by
  have HC := Lib.hid (h.below ((Below.refl _ _).alloc (Nat.le_refl _) (.cells #[.int .i64 0, .int .i64 0] 25)))
  obtain ⟨b1, b2, b3⟩ := h.base
  clear h
  have T0 := Lib.hid (TwoAt.new w 0 0 25)
  go_enter Try.func60, Try.ntmps60
  go_wp2_with fail
  refine (oneP_any w0 _ g n (by omega) _ (by omega) HC.out).mono ?_; rintro e w1 ⟨o, rfl, hc1, hg1⟩
  have HC1 := Lib.hid hc1
  have T1 := Lib.hid (T0.out.grown hg1 (by omega))
  have Hg1 := Lib.hid ((grownAlloc (World.grownBy.refl w (some g)) (Nat.le_refl _) _).trans hg1)
  have hz1 := hg1.size
  simp only [World.size_alloc] at hz1
  clear hc1 hg1
  cases o with
  | true =>
    go_wp2_with fail
    refine (fraction_any w0 _ g (n + 2) (by omega) HC1.out).mono ?_; rintro e w2 ⟨a, b, rfl, ha, hb, hc2, hg2⟩
    have HC2 := Lib.hid hc2
    have Hg2 := Lib.hid (Hg1.out.trans hg2)
    have hz2 := hg2.size
    obtain ⟨t1, t2, t3, t4, t5⟩ := T1.out.grown hg2 (by omega)
    clear hc2 hg2
    go_wp2
    refine bodyPost_ret (by simp [results, Try.results60, go_sem, *]; try rfl) rfl ?_
    exact ⟨a, b, rfl, ha, hb, ((HC2.out.more (by omega)).set (by omega) (by omega) _ _).set (by omega) (by omega) _ _, grownSetNew (grownSetNew Hg2.out (Nat.le_refl _) _ _) (Nat.le_refl _) _ _⟩
  | false =>
    go_wp2_with fail
    refine (pick_any w0 _ _ (n + 2) (by omega) _ (by omega) HC1.out).mono ?_; rintro e w2 ⟨p, rfl, p0, p1, hc2, hg2⟩
    have HC2 := Lib.hid hc2
    have T2 := Lib.hid (T1.out.grown hg2 (by omega))
    have Hg2 := Lib.hid (Hg1.out.trans hg2)
    have hz2 := hg2.size
    clear hc2 hg2
    go_wp2_with fail
    refine (pick_any w0 _ _ (n + 4) (by omega) _ (by omega) HC2.out).mono ?_; rintro e w3 ⟨q, rfl, q0, q1, hc3, hg3⟩
    have HC3 := Lib.hid hc3
    have T3 := Lib.hid (T2.out.grown hg3 (by omega))
    have Hg3 := Lib.hid (Hg2.out.trans hg3)
    have hz3 := hg3.size
    clear hc3 hg3
    go_wp2_with fail
    refine (unMake_any _ _ _ (by omega) (by omega) (by omega) (by omega)).mono ?_; rintro e w4 ⟨rfl, hb4⟩
    have hsm := red_small (x := 1 + q) (y := 2 + p) (by omega) (by omega) (by omega) (by omega)
    generalize (1 + q) / gcdI (1 + q) (2 + p) = a at *
    generalize (2 + p) / gcdI (1 + q) (2 + p) = b at *
    have Hsm := Lib.hid hsm
    have HC4 := Lib.hid (HC3.out.below hb4)
    have Hg4 := Lib.hid (grownBelow Hg3.out (by omega) hb4)
    obtain ⟨t1, t2, t3, t4, t5⟩ := T3.out.below hb4
    have hz4 := hb4.size
    clear hsm hb4
    go_wp2
    refine bodyPost_ret (by simp [results, Try.results60, go_sem, *]; try rfl) rfl ?_
    exact ⟨a, b, rfl, Hsm.out.1, Hsm.out.2, ((HC4.out.more (by omega)).set (by omega) (by omega) _ _).set (by omega) (by omega) _ _, grownSetNew (grownSetNew Hg4.out (Nat.le_refl _) _ _) (Nat.le_refl _) _ _⟩
set_option maxRecDepth 100000 in
set_option maxHeartbeats 2000000 in
theorem drawBinary_any (w : World) (A : Option Addr) (n c : Nat) (hr : ReadsB w A n) (hn : n ≤ 1048576) : Calls Try.prog 55 #[.slice A n c] w (fun e w' => ∃ a b : Int, e = .returned (.agg #[.int .i64 a, .int .i64 b]) ∧ (-9223372036854775808 ≤ a ∧ a ≤ 9223372036854775807) ∧ (-9223372036854775808 ≤ b ∧ b ≤ 9223372036854775807) ∧ Below w.heap.size w w') := by
  have T0 := Lib.hid (TwoAt.new w 0 0 25)
  have hc0 := beginP (w.alloc (.cells #[.int .i64 0, .int .i64 0] 25)) A n c 58 (hr.below ((Below.refl _ _).alloc (Nat.le_refl _) _)) hn
  rw [World.size_alloc] at hc0
  have HC0 := Lib.hid hc0
  clear hr hc0
  go_enter Try.func55, Try.ntmps55
  go_wp2_with fail
  refine (proper_any (w.alloc (.cells #[.int .i64 0, .int .i64 0] 25)) _ (w.heap.size + 1) 0 (by omega) HC0.out).mono ?_; rintro e w2 ⟨a, b, rfl, ha, hb, hc2, hg2⟩
  have hbs := hc2.base.2.2
  have hz2 := hg2.size
  simp only [World.size_alloc] at hz2
  obtain ⟨t1, t2, t3, t4, t5⟩ := T0.out.below hbs
  have hbw : Below w.heap.size w w2 := by (repeat' (first | (with_reducible exact Below.refl _ _) | (with_reducible assumption) | (with_reducible refine Below.drew ?_) | (with_reducible refine belowDrewN ?_ _) | (with_reducible refine Below.alloc ?_ ?_ _) | (with_reducible refine Below.setCell ?_ ?_ _) | (with_reducible refine belowStep (by assumption) ?_ ?_) | (with_reducible exact Below.size (by assumption)) | go_size))
  clear hc2 hg2 hbs
  go_wp2
  refine bodyPost_ret (by simp [results, Try.results55, go_sem, *]; try rfl) rfl ?_
  exact ⟨a, b, rfl, ha, hb, (hbw.setCell (Nat.le_refl _) _).setCell (Nat.le_refl _) _⟩
theorem sumQ_perm {xs ys : List Int} (h : xs.Perm ys) : sumQ xs = sumQ ys := by
  induction h with
  | nil => rfl
  | cons x _ ih => show 1 / (x : Rat) + sumQ _ = 1 / (x : Rat) + sumQ _; rw [ih]
  | swap x y l => show 1 / (y : Rat) + (1 / (x : Rat) + sumQ l) = 1 / (x : Rat) + (1 / (y : Rat) + sumQ l); grind
  | trans _ _ i1 i2 => exact i1.trans i2
theorem rq_add {a b d : Int} (hd : 1 ≤ d) : rq a d + rq b d = rq (a + b) d := by
  have := ne0 hd
  unfold rq
  rw [Rat.intCast_add]
  grind
theorem hvL_sum : ∀ (k : Nat) {m c : Int} {J : Nat}, 0 ≤ m → m < 2 ^ k → m < 2 ^ J → 1 ≤ c → sumQ (hvL k m (c * 2 ^ J)) = rq m (c * 2 ^ J)
  | 0, m, c, J, h0, h1, _, _ => by
    simp at h1
    obtain rfl : m = 0 := by omega
    show (0 : Rat) = _
    unfold rq
    grind
  | k + 1, m, c, J, h0, h1, h2, hc => by
    by_cases hm : m ≤ 0
    · obtain rfl : m = 0 := by omega
      rw [hvL_end (by omega)]
      show (0 : Rat) = _
      unfold rq
      grind
    · cases J with
      | zero => simp at h2; omega
      | succ j =>
        have hp : (2 : Int) ^ (j + 1) = 2 ^ j * 2 := Int.pow_succ _ _
        have hpk : (2 : Int) ^ (k + 1) = 2 ^ k * 2 := Int.pow_succ _ _
        have hpj := pow_pos' j
        have he : c * 2 ^ (j + 1) / 2 = c * 2 ^ j := by
          rw [hp, ← Int.mul_assoc]
          exact Int.mul_ediv_cancel _ (by omega)
        have ih := hvL_sum k (m := m / 2) (c := c) (J := j) (by omega) (by omega) (by omega) hc
        have hcj := mul_pos1 hc hpj
        have hcj2 := mul_pos1 hc (pow_pos' (j + 1))
        have e1 : rq (m / 2) (c * 2 ^ j) = rq (2 * (m / 2)) (c * 2 ^ (j + 1)) := rq_eq hcj hcj2 (by rw [hp]; grind)
        by_cases ho : m % 2 = 1
        · rw [hvL_odd (by omega) ho, he]
          show 1 / ((c * 2 ^ (j + 1) : Int) : Rat) + sumQ _ = _
          rw [ih, e1]
          have e2 : (1 : Rat) / ((c * 2 ^ (j + 1) : Int) : Rat) = rq 1 (c * 2 ^ (j + 1)) := by unfold rq; simp
          rw [e2, rq_add hcj2]
          congr 1
          omega
        · rw [hvL_even (by omega) ho, he, ih, e1]
          congr 1
          omega
theorem bL_sum {n d : Int} (hp : proB n d = true) : sumQ (bL n d) = rq n d := by
  obtain ⟨J, B⟩ := binS hp
  obtain ⟨hg, hn, hd⟩ := (proB_iff n d).1 hp
  obtain ⟨_, _, d1, d2⟩ := good_bounds hg
  have hN := B.N
  have N1 := B.N1
  have s0 := B.s0
  have s1 := B.s1
  have r0 := B.r0
  have r1 := B.r1
  have dN := B.dN
  have he := B.e
  have h31 : (2 : Int) ^ J ≤ 2 ^ 31 := by
    rw [pow_split B.J31]
    have h1 := pow_pos' (31 - J)
    have h2 := pow_pos' J
    have := Int.mul_le_mul_of_nonneg_left h1 (show 0 ≤ (2 : Int) ^ J by omega)
    omega
  have a := hvL_sum 31 (m := n * p2 d / d) (c := 1) (J := J) s0 (by omega) (by omega) (by omega)
  have b := hvL_sum 31 (m := n * p2 d % d) (c := d) (J := J) r0 (by omega) (by omega) d1
  rw [Int.one_mul, ← hN] at a
  rw [← hN] at b
  have hdN := mul_pos1 d1 N1
  unfold bL
  rw [sumQ_append, a, b]
  have e1 : rq (n * p2 d / d) (p2 d) = rq (d * (n * p2 d / d)) (d * p2 d) := rq_eq N1 hdN (by grind)
  rw [e1, rq_add hdN, he]
  exact rq_eq hdN d1 (by grind)
/-- the number of digits 1 -/
def pc : Nat → Int → Int
  | 0, _ => 0
  | k + 1, m => if m ≤ 0 then 0 else m % 2 + pc k (m / 2)
theorem pc_end {k : Nat} {m : Int} (h : m ≤ 0) : pc k m = 0 := by
  cases k with
  | zero => rfl
  | succ k => exact if_pos h
theorem pc_more {k : Nat} {m : Int} (h : 0 < m) : pc (k + 1) m = m % 2 + pc k (m / 2) := if_neg (by omega)
theorem hvL_pc : ∀ (k : Nat) (m e : Int), ((hvL k m e).length : Int) = pc k m
  | 0, m, e => rfl
  | k + 1, m, e => by
    by_cases hm : m ≤ 0
    · rw [hvL_end hm, pc_end hm]; rfl
    · have ih := hvL_pc k (m / 2) (e / 2)
      rw [pc_more (by omega)]
      by_cases ho : m % 2 = 1
      · rw [hvL_odd (by omega) ho, List.length_cons]; omega
      · rw [hvL_even (by omega) ho]; omega
theorem pc_in : ∀ (k : Nat) (m : Int), 0 ≤ pc k m ∧ pc k m ≤ k
  | 0, m => by simp [pc]
  | k + 1, m => by
    have ih := pc_in k (m / 2)
    by_cases hm : m ≤ 0
    · rw [pc_end hm]; omega
    · rw [pc_more (by omega)]; omega
theorem bL_len (n d : Int) : ((bL n d).length : Int) = pc 31 (n * p2 d / d) + pc 31 (n * p2 d % d) := by
  unfold bL
  rw [List.length_append]
  have a := hvL_pc 31 (n * p2 d / d) (p2 d)
  have b := hvL_pc 31 (n * p2 d % d) (d * p2 d)
  omega
theorem bL_le {n d : Int} (hp : proB n d = true) : ∀ x ∈ bL n d, x ≤ d * p2 d := fun x hx => by
  obtain ⟨J, B⟩ := binS hp
  obtain ⟨hg, hn, hd⟩ := (proB_iff n d).1 hp
  obtain ⟨_, _, d1, d2⟩ := good_bounds hg
  have N1 := B.N1
  have hdN1 : 1 * p2 d ≤ d * p2 d := Int.mul_le_mul_of_nonneg_right d1 (by omega)
  unfold bL at hx
  rcases List.mem_append.1 hx with h | h
  · have := hvL_mem 31 (m := n * p2 d / d) (e := p2 d) (by omega) x h
    omega
  · have := hvL_mem 31 (m := n * p2 d % d) (e := d * p2 d) (by omega) x h
    omega
/-- of the expansion, if it is told -/
theorem bL_exp {n d : Int} (hp : proB n d = true) (h : expB (srt (bL n d)) = true) : eN (srt (bL n d)) = n ∧ eD (srt (bL n d)) = d := by
  have hq := sum_q h
  rw [sumQ_perm (srt_perm _), bL_sum hp] at hq
  have e1 : eN (srt (bL n d)) = sumN (srt (bL n d)) := if_pos h
  have e2 : eD (srt (bL n d)) = sumD (srt (bL n d)) := if_pos h
  have := good_same (good_sum h) ((proB_iff n d).1 hp).1 hq
  rw [e1, e2]
  exact this
end Go.Proofs.Ytocnjfbcblbjeac
