
/-
  Contracts of LeastOver and of PracticalExpansion, in the program and in the model.
-/
import Derived.Test.YtbjblkfibinenadOvI
import Derived.Test.YtbjblkfibinenadNxC
import Derived.Test.YtbjblkfibinenadSteps
namespace Go.Proofs.Ytbjblkfibinenad
open Go.RowKit
/-- the first number from m on, up to 2000, that serves -/
def fstF (p : Nat → Bool) : Nat → Nat → Option Nat
  | 0, _ => none
  | f + 1, m => if p m = true then some m else fstF p f (m + 1)
theorem fstF_yes {p : Nat → Bool} {f m : Nat} (h : p m = true) : fstF p (f + 1) m = some m := by rw [fstF, if_pos h]
theorem fstF_no {p : Nat → Bool} {f m : Nat} (h : ¬ p m = true) : fstF p (f + 1) m = fstF p f (m + 1) := by rw [fstF, if_neg h]
theorem fstF_skip {p : Nat → Bool} {m : Nat} : ∀ j, (∀ i, i < j → ¬ p (m + i) = true) → fstF p (2001 - m) m = fstF p (2001 - (m + j)) (m + j)
  | 0, _ => rfl
  | j + 1, h => by
    rw [fstF_skip j (fun i hi => h i (by omega))]
    by_cases hm : m + j ≤ 2000
    · obtain ⟨f, hf⟩ : ∃ f, 2001 - (m + j) = f + 1 := ⟨2000 - (m + j), by omega⟩
      rw [hf, fstF_no (h j (by omega)), show 2001 - (m + (j + 1)) = f from by omega]
      rfl
    · rw [show 2001 - (m + j) = 0 from by omega, show 2001 - (m + (j + 1)) = 0 from by omega]
      rfl
theorem fstF_mem {p : Nat → Bool} : ∀ {f m x : Nat}, fstF p f m = some x → m ≤ x ∧ x < m + f ∧ p x = true
  | 0, m, x, h => by cases h
  | f + 1, m, x, h => by
    by_cases hp : p m = true
    · rw [fstF_yes hp] at h
      injection h with h
      subst h
      exact ⟨Nat.le_refl _, by omega, hp⟩
    · rw [fstF_no hp] at h
      obtain ⟨a, b, c⟩ := fstF_mem h
      exact ⟨by omega, by omega, c⟩
/-- what isn't a multiple doesn't serve -/
theorem fstF_first {p : Nat → Bool} {D : Nat} (hD : 1 ≤ D) (hp : ∀ N, N % D ≠ 0 → ¬ p N = true) : fstF p 2000 1 = fstF p (2001 - D) D := by
  have := fstF_skip (p := p) (m := 1) (D - 1) (fun i hi => hp _ (by rw [Nat.mod_eq_of_lt (by omega)]; omega))
  rwa [show 1 + (D - 1) = D from by omega] at this
theorem fstF_jump {p : Nat → Bool} {D m : Nat} (hp : ∀ N, N % D ≠ 0 → ¬ p N = true) (hm : m % D = 0) (h : ¬ p m = true) : fstF p (2001 - m) m = fstF p (2001 - (m + D)) (m + D) := by
  refine fstF_skip (p := p) D (fun i hi => ?_)
  rcases Nat.eq_zero_or_pos i with h0 | h0
  · subst h0; exact h
  · refine hp _ ?_
    rw [Nat.add_mod, hm, Nat.zero_add, Nat.mod_mod, Nat.mod_eq_of_lt hi]
    omega
def ovP (n d : Int) (N : Nat) : Bool := (ovO n d (N : Int)).isSome
theorem ovP_mul {n : Int} {D N : Nat} (h : N % D ≠ 0) : ¬ ovP n (D : Int) N = true := by
  unfold ovP
  rw [ovO_rem (by rw [← Int.natCast_emod]; omega)]
  decide
def loO (n d : Int) : Option Nat := if goodB n d = true then fstF (ovP n d) 2000 1 else none
theorem loO_no {n d : Int} (h : goodB n d = false) : loO n d = none := by unfold loO; rw [h]; rfl
theorem loO_yes {n d : Int} (h : goodB n d = true) : loO n d = fstF (ovP n d) 2000 1 := by unfold loO; rw [if_pos h]
set_option maxRecDepth 100000 in
set_option maxHeartbeats 4000000 in
theorem spec_leastOver_any (n d : Int) (w : World) : Calls Try.prog 15 #[.agg #[.int .i64 n, .int .i64 d]] w (Ret (nxV (loO n d)) w) := by
  have HG := Lib.hid fun (w : World) => unGood_any n d w
  cases hg : goodB n d with
  | false =>
    have E := Lib.hid (loO_no hg)
    rw [hg] at HG
    clear hg
    go_enter Try.func15, Try.ntmps15
    go_wp2_with fail
    refine (HG.out _).mono ?_; rintro e w1 ⟨rfl, hb1⟩; obtain ⟨hc1, hf1⟩ := bcellB hb1; have hz1 := hb1.size; (try simp only [World.size_alloc] at hc1 hf1 hz1); (try have hy1_r_0 : wr.heap.size < w1.heap.size := by omega); (try have hn1_r_0 : wr.heap.size ≠ w1.heap.size := by omega); (try have hm1_r_0 : w1.heap.size ≠ wr.heap.size := by omega); (try have hy1_r_1 : wr.heap.size + 1 < w1.heap.size := by omega); (try have hn1_r_1 : wr.heap.size + 1 ≠ w1.heap.size := by omega); (try have hm1_r_1 : w1.heap.size ≠ wr.heap.size + 1 := by omega); (try have hy1_r_2 : wr.heap.size + 1 + 1 < w1.heap.size := by omega); (try have hp1_r_1 : wr.heap.size < w1.heap.size + 1 := by omega); (try have hp1_r_2 : wr.heap.size < w1.heap.size + 1 + 1 := by omega); (try have hy1_0_0 : w.heap.size < w1.heap.size := by omega); (try have hn1_0_0 : w.heap.size ≠ w1.heap.size := by omega); (try have hm1_0_0 : w1.heap.size ≠ w.heap.size := by omega); (try have hy1_0_1 : w.heap.size + 1 < w1.heap.size := by omega); (try have hn1_0_1 : w.heap.size + 1 ≠ w1.heap.size := by omega); (try have hm1_0_1 : w1.heap.size ≠ w.heap.size + 1 := by omega); (try have hy1_0_2 : w.heap.size + 1 + 1 < w1.heap.size := by omega); (try have hp1_0_1 : w.heap.size < w1.heap.size + 1 := by omega); (try have hp1_0_2 : w.heap.size < w1.heap.size + 1 + 1 := by omega); (try have hg1_g1 : g1 < w1.heap.size := by omega); (try have hi1_g1 : g1 ≠ w1.heap.size := by omega); (try have hj1_g1 : w1.heap.size ≠ g1 := by omega); (try have hk1_g1 : g1 < w1.heap.size + 1 := by omega); (try have hg1_g2 : g2 < w1.heap.size := by omega); (try have hi1_g2 : g2 ≠ w1.heap.size := by omega); (try have hj1_g2 : w1.heap.size ≠ g2 := by omega); (try have hk1_g2 : g2 < w1.heap.size + 1 := by omega)
    go_wp2
    go_ret2
    rw [E.out]
    exact ⟨rfl, by (repeat' (first | (with_reducible exact Below.refl _ _) | (with_reducible assumption) | (with_reducible refine Below.drew ?_) | (with_reducible refine belowDrewN ?_ _) | (with_reducible refine Below.alloc ?_ ?_ _) | (with_reducible refine Below.setCell ?_ ?_ _) | (with_reducible refine belowStep (by assumption) ?_ ?_) | (with_reducible exact Below.size (by assumption)) | go_size))⟩
  | true =>
    have EO := Lib.hid (loO_yes hg)
    have HO := Lib.hid fun (w : World) (N : Nat) (h1 : 1 ≤ N) (h2 : N ≤ 2000) => prOver_any n d (N : Int) w hg (numB_of h1 h2)
    have T0 := Lib.hid (TwoAt.new w n d 27)
    rw [hg] at HG
    clear hg
    go_enter Try.func15, Try.ntmps15
    go_wp2_with fail
    refine (HG.out _).mono ?_; rintro e w1 ⟨rfl, hb1⟩; obtain ⟨hc1, hf1⟩ := bcellB hb1; have hz1 := hb1.size; (try simp only [World.size_alloc] at hc1 hf1 hz1); (try have hy1_r_0 : wr.heap.size < w1.heap.size := by omega); (try have hn1_r_0 : wr.heap.size ≠ w1.heap.size := by omega); (try have hm1_r_0 : w1.heap.size ≠ wr.heap.size := by omega); (try have hy1_r_1 : wr.heap.size + 1 < w1.heap.size := by omega); (try have hn1_r_1 : wr.heap.size + 1 ≠ w1.heap.size := by omega); (try have hm1_r_1 : w1.heap.size ≠ wr.heap.size + 1 := by omega); (try have hy1_r_2 : wr.heap.size + 1 + 1 < w1.heap.size := by omega); (try have hp1_r_1 : wr.heap.size < w1.heap.size + 1 := by omega); (try have hp1_r_2 : wr.heap.size < w1.heap.size + 1 + 1 := by omega); (try have hy1_0_0 : w.heap.size < w1.heap.size := by omega); (try have hn1_0_0 : w.heap.size ≠ w1.heap.size := by omega); (try have hm1_0_0 : w1.heap.size ≠ w.heap.size := by omega); (try have hy1_0_1 : w.heap.size + 1 < w1.heap.size := by omega); (try have hn1_0_1 : w.heap.size + 1 ≠ w1.heap.size := by omega); (try have hm1_0_1 : w1.heap.size ≠ w.heap.size + 1 := by omega); (try have hy1_0_2 : w.heap.size + 1 + 1 < w1.heap.size := by omega); (try have hp1_0_1 : w.heap.size < w1.heap.size + 1 := by omega); (try have hp1_0_2 : w.heap.size < w1.heap.size + 1 + 1 := by omega); (try have hg1_g1 : g1 < w1.heap.size := by omega); (try have hi1_g1 : g1 ≠ w1.heap.size := by omega); (try have hj1_g1 : w1.heap.size ≠ g1 := by omega); (try have hk1_g1 : g1 < w1.heap.size + 1 := by omega); (try have hg1_g2 : g2 < w1.heap.size := by omega); (try have hi1_g2 : g2 ≠ w1.heap.size := by omega); (try have hj1_g2 : w1.heap.size ≠ g2 := by omega); (try have hk1_g2 : g2 < w1.heap.size + 1 := by omega)
    have T1 := Lib.hid (T0.out.below hb1)
    clear T0
    go_wp2
    go_loopw [4] (fun v4 wr => ∃ f m : Nat, v4 = .int .i64 (m : Int) ∧ m + f = 2001 ∧ 1 ≤ m ∧ fstF (ovP n d) 2000 1 = fstF (ovP n d) f m ∧ Below w1.heap.size w1 wr) (fun v4 _ => 2001 - (intOf v4).toNat)
    case atStart => exact ⟨2000, 1, rfl, rfl, by omega, rfl, by (repeat' (first | (with_reducible exact Below.refl _ _) | (with_reducible assumption) | (with_reducible refine Below.drew ?_) | (with_reducible refine belowDrewN ?_ _) | (with_reducible refine Below.alloc ?_ ?_ _) | (with_reducible refine Below.setCell ?_ ?_ _) | (with_reducible refine belowStep (by assumption) ?_ ?_) | (with_reducible exact Below.size (by assumption)) | go_size))⟩
    case round =>
      obtain ⟨f, m, rfl, hf, hm1, he, hbr⟩ := hrel
      have HE := Lib.hid he
      have hzr := hbr.size
      obtain ⟨t1, t2, t3, t4, t5⟩ := T1.out.below hbr
      clear he
      by_cases hlt : m ≤ 2000
      · obtain ⟨f, rfl⟩ : ∃ j, f = j + 1 := ⟨f - 1, by omega⟩
        have hlt' : (m : Int) ≤ 2000 := by omega
        have HM := Lib.hid fun (w : World) => HO.out w m hm1 hlt
        by_cases hp : ovP n d m = true
        · have E := Lib.hid (fstF_yes (f := f) hp)
          have hs : (ovO n d (m : Int)).isSome = true := hp
          rw [hs] at HM
          clear hp hs
          go_wp2_with fail
          refine (HM.out _).mono ?_; rintro e w3 ⟨A3, c3, rfl, hr3, hb3⟩
          have hz3 := hb3.size
          go_wp2
          go_ret2
          rw [EO.out, HE.out, E.out]
          exact ⟨rfl, by (repeat' (first | (with_reducible exact Below.refl _ _) | (with_reducible assumption) | (with_reducible refine Below.drew ?_) | (with_reducible refine belowDrewN ?_ _) | (with_reducible refine Below.alloc ?_ ?_ _) | (with_reducible refine Below.setCell ?_ ?_ _) | (with_reducible refine belowStep (by assumption) ?_ ?_) | (with_reducible exact Below.size (by assumption)) | go_size))⟩
        · have E := Lib.hid (fstF_no (f := f) hp)
          have hs : (ovO n d (m : Int)).isSome = false := by unfold ovP at hp; simpa using hp
          rw [hs] at HM
          clear hp hs
          go_wp2_with fail
          refine (HM.out _).mono ?_; rintro e w3 ⟨A3, c3, rfl, hr3, hb3⟩
          have hz3 := hb3.size
          go_wp2
          go_roundw
          case rel => exact ⟨f, m + 1, by go_num, by omega, by omega, by rw [HE.out, E.out], by (repeat' (first | (with_reducible exact Below.refl _ _) | (with_reducible assumption) | (with_reducible refine Below.drew ?_) | (with_reducible refine belowDrewN ?_ _) | (with_reducible refine Below.alloc ?_ ?_ _) | (with_reducible refine Below.setCell ?_ ?_ _) | (with_reducible refine belowStep (by assumption) ?_ ?_) | (with_reducible exact Below.size (by assumption)) | go_size))⟩
          case measure => simp [intOf]; omega
      · have hlt' : ¬ (m : Int) ≤ 2000 := by omega
        obtain rfl : f = 0 := by omega
        go_wp2
        go_ret2
        rw [EO.out, HE.out]
        exact ⟨rfl, by (repeat' (first | (with_reducible exact Below.refl _ _) | (with_reducible assumption) | (with_reducible refine Below.drew ?_) | (with_reducible refine belowDrewN ?_ _) | (with_reducible refine Below.alloc ?_ ?_ _) | (with_reducible refine Below.setCell ?_ ?_ _) | (with_reducible refine belowStep (by assumption) ?_ ?_) | (with_reducible exact Below.size (by assumption)) | go_size))⟩
set_option maxRecDepth 100000 in
set_option maxHeartbeats 4000000 in
theorem leastOver_any (n d : Int) (w : World) (rn : -9223372036854775808 ≤ n ∧ n ≤ 9223372036854775807) (rd : -9223372036854775808 ≤ d ∧ d ≤ 9223372036854775807) : Calls Try.prog 16 #[.agg #[.int .i64 n, .int .i64 d]] w (Ret (nxV (loO n d)) w) := by
  have HG := Lib.hid fun (w : World) => isFraction_any n d w rn.1 rn.2 rd.1 rd.2
  cases hg : goodB n d with
  | false =>
    have E := Lib.hid (loO_no hg)
    rw [hg] at HG
    clear hg
    go_enter Try.func16, Try.ntmps16
    go_wp2_with fail
    refine (HG.out _).mono ?_; rintro e w1 ⟨rfl, hb1⟩; obtain ⟨hc1, hf1⟩ := bcellB hb1; have hz1 := hb1.size; (try simp only [World.size_alloc] at hc1 hf1 hz1); (try have hy1_r_0 : wr.heap.size < w1.heap.size := by omega); (try have hn1_r_0 : wr.heap.size ≠ w1.heap.size := by omega); (try have hm1_r_0 : w1.heap.size ≠ wr.heap.size := by omega); (try have hy1_r_1 : wr.heap.size + 1 < w1.heap.size := by omega); (try have hn1_r_1 : wr.heap.size + 1 ≠ w1.heap.size := by omega); (try have hm1_r_1 : w1.heap.size ≠ wr.heap.size + 1 := by omega); (try have hy1_r_2 : wr.heap.size + 1 + 1 < w1.heap.size := by omega); (try have hp1_r_1 : wr.heap.size < w1.heap.size + 1 := by omega); (try have hp1_r_2 : wr.heap.size < w1.heap.size + 1 + 1 := by omega); (try have hy1_0_0 : w.heap.size < w1.heap.size := by omega); (try have hn1_0_0 : w.heap.size ≠ w1.heap.size := by omega); (try have hm1_0_0 : w1.heap.size ≠ w.heap.size := by omega); (try have hy1_0_1 : w.heap.size + 1 < w1.heap.size := by omega); (try have hn1_0_1 : w.heap.size + 1 ≠ w1.heap.size := by omega); (try have hm1_0_1 : w1.heap.size ≠ w.heap.size + 1 := by omega); (try have hy1_0_2 : w.heap.size + 1 + 1 < w1.heap.size := by omega); (try have hp1_0_1 : w.heap.size < w1.heap.size + 1 := by omega); (try have hp1_0_2 : w.heap.size < w1.heap.size + 1 + 1 := by omega); (try have hg1_g1 : g1 < w1.heap.size := by omega); (try have hi1_g1 : g1 ≠ w1.heap.size := by omega); (try have hj1_g1 : w1.heap.size ≠ g1 := by omega); (try have hk1_g1 : g1 < w1.heap.size + 1 := by omega); (try have hg1_g2 : g2 < w1.heap.size := by omega); (try have hi1_g2 : g2 ≠ w1.heap.size := by omega); (try have hj1_g2 : w1.heap.size ≠ g2 := by omega); (try have hk1_g2 : g2 < w1.heap.size + 1 := by omega)
    go_wp2
    go_ret2
    rw [E.out]
    exact ⟨rfl, by (repeat' (first | (with_reducible exact Below.refl _ _) | (with_reducible assumption) | (with_reducible refine Below.drew ?_) | (with_reducible refine belowDrewN ?_ _) | (with_reducible refine Below.alloc ?_ ?_ _) | (with_reducible refine Below.setCell ?_ ?_ _) | (with_reducible refine belowStep (by assumption) ?_ ?_) | (with_reducible exact Below.size (by assumption)) | go_size))⟩
  | true =>
    obtain ⟨g1, g2, g3, g4⟩ := good_bounds hg
    obtain ⟨D, rfl⟩ := Int.eq_ofNat_of_zero_le (show 0 ≤ d by omega)
    have hD1 : 1 ≤ D := by omega
    have HML := Lib.hid fun (N : Nat) (h : N % D ≠ 0) => ovP_mul (n := n) h
    have EO : Hid (loO n (D : Int) = fstF (ovP n (D : Int)) (2001 - D) D) := Lib.hid (by rw [loO_yes hg, fstF_first hD1 HML.out])
    have HO := Lib.hid fun (w : World) (N : Nat) => expandOver_any n (D : Int) (N : Int) w rn rd
    have T0 := Lib.hid (TwoAt.new w n (D : Int) 27)
    rw [hg] at HG
    clear hg rn rd
    go_enter Try.func16, Try.ntmps16
    go_wp2_with fail
    refine (HG.out _).mono ?_; rintro e w1 ⟨rfl, hb1⟩; obtain ⟨hc1, hf1⟩ := bcellB hb1; have hz1 := hb1.size; (try simp only [World.size_alloc] at hc1 hf1 hz1); (try have hy1_r_0 : wr.heap.size < w1.heap.size := by omega); (try have hn1_r_0 : wr.heap.size ≠ w1.heap.size := by omega); (try have hm1_r_0 : w1.heap.size ≠ wr.heap.size := by omega); (try have hy1_r_1 : wr.heap.size + 1 < w1.heap.size := by omega); (try have hn1_r_1 : wr.heap.size + 1 ≠ w1.heap.size := by omega); (try have hm1_r_1 : w1.heap.size ≠ wr.heap.size + 1 := by omega); (try have hy1_r_2 : wr.heap.size + 1 + 1 < w1.heap.size := by omega); (try have hp1_r_1 : wr.heap.size < w1.heap.size + 1 := by omega); (try have hp1_r_2 : wr.heap.size < w1.heap.size + 1 + 1 := by omega); (try have hy1_0_0 : w.heap.size < w1.heap.size := by omega); (try have hn1_0_0 : w.heap.size ≠ w1.heap.size := by omega); (try have hm1_0_0 : w1.heap.size ≠ w.heap.size := by omega); (try have hy1_0_1 : w.heap.size + 1 < w1.heap.size := by omega); (try have hn1_0_1 : w.heap.size + 1 ≠ w1.heap.size := by omega); (try have hm1_0_1 : w1.heap.size ≠ w.heap.size + 1 := by omega); (try have hy1_0_2 : w.heap.size + 1 + 1 < w1.heap.size := by omega); (try have hp1_0_1 : w.heap.size < w1.heap.size + 1 := by omega); (try have hp1_0_2 : w.heap.size < w1.heap.size + 1 + 1 := by omega); (try have hg1_g1 : g1 < w1.heap.size := by omega); (try have hi1_g1 : g1 ≠ w1.heap.size := by omega); (try have hj1_g1 : w1.heap.size ≠ g1 := by omega); (try have hk1_g1 : g1 < w1.heap.size + 1 := by omega); (try have hg1_g2 : g2 < w1.heap.size := by omega); (try have hi1_g2 : g2 ≠ w1.heap.size := by omega); (try have hj1_g2 : w1.heap.size ≠ g2 := by omega); (try have hk1_g2 : g2 < w1.heap.size + 1 := by omega)
    have T1 := Lib.hid (T0.out.below hb1)
    obtain ⟨t1, t2, t3, t4, t5⟩ := T0.out.below hb1
    clear T0
    go_wp2
    clear t1 t2 t3 t4 t5
    go_loopw [4] (fun v4 wr => ∃ m : Nat, v4 = .int .i64 (m : Int) ∧ m % D = 0 ∧ m ≤ 1000002000 ∧ fstF (ovP n (D : Int)) (2001 - D) D = fstF (ovP n (D : Int)) (2001 - m) m ∧ Below w1.heap.size w1 wr) (fun v4 _ => 2001 - (intOf v4).toNat)
    case atStart => exact ⟨D, rfl, Nat.mod_self D, by omega, rfl, by (repeat' (first | (with_reducible exact Below.refl _ _) | (with_reducible assumption) | (with_reducible refine Below.drew ?_) | (with_reducible refine belowDrewN ?_ _) | (with_reducible refine Below.alloc ?_ ?_ _) | (with_reducible refine Below.setCell ?_ ?_ _) | (with_reducible refine belowStep (by assumption) ?_ ?_) | (with_reducible exact Below.size (by assumption)) | go_size))⟩
    case round =>
      obtain ⟨m, rfl, hmod, hm1, he, hbr⟩ := hrel
      have HE := Lib.hid he
      have HMO := Lib.hid hmod
      have hzr := hbr.size
      have T2 := Lib.hid (T1.out.below hbr)
      obtain ⟨t1, t2, t3, t4, t5⟩ := T1.out.below hbr
      clear he hmod
      by_cases hlt : m ≤ 2000
      · have hlt' : (m : Int) ≤ 2000 := by omega
        have HM := Lib.hid fun (w : World) => HO.out w m
        by_cases hp : ovP n (D : Int) m = true
        · have E : Hid (fstF (ovP n (D : Int)) (2001 - m) m = some m) := Lib.hid (by rw [show 2001 - m = (2000 - m) + 1 from by omega]; exact fstF_yes hp)
          have hs : (ovO n (D : Int) (m : Int)).isSome = true := hp
          rw [hs] at HM
          clear hp hs
          go_wp2_with fail
          refine (HM.out _).mono ?_; rintro e w3 ⟨v3, rfl, ho3, hb3⟩
          have hz3 := hb3.size
          go_wp2
          go_ret2
          rw [EO.out, HE.out, E.out]
          exact ⟨rfl, by (repeat' (first | (with_reducible exact Below.refl _ _) | (with_reducible assumption) | (with_reducible refine Below.drew ?_) | (with_reducible refine belowDrewN ?_ _) | (with_reducible refine Below.alloc ?_ ?_ _) | (with_reducible refine Below.setCell ?_ ?_ _) | (with_reducible refine belowStep (by assumption) ?_ ?_) | (with_reducible exact Below.size (by assumption)) | go_size))⟩
        · have E := Lib.hid (fstF_jump HML.out HMO.out hp)
          have hs : (ovO n (D : Int) (m : Int)).isSome = false := by unfold ovP at hp; simpa using hp
          have HMN : Hid ((m + D) % D = 0) := Lib.hid (by rw [Nat.add_mod_right]; exact HMO.out)
          rw [hs] at HM
          clear hp hs
          go_wp2_with fail
          refine (HM.out _).mono ?_; rintro e w3 ⟨v3, rfl, ho3, hb3⟩
          have hz3 := hb3.size
          obtain ⟨u1, u2, u3, u4, u5⟩ := T2.out.below hb3
          clear ho3
          go_wp2
          go_roundw
          case rel => exact ⟨m + D, by go_num, HMN.out, by omega, by rw [HE.out, E.out], by (repeat' (first | (with_reducible exact Below.refl _ _) | (with_reducible assumption) | (with_reducible refine Below.drew ?_) | (with_reducible refine belowDrewN ?_ _) | (with_reducible refine Below.alloc ?_ ?_ _) | (with_reducible refine Below.setCell ?_ ?_ _) | (with_reducible refine belowStep (by assumption) ?_ ?_) | (with_reducible exact Below.size (by assumption)) | go_size))⟩
          case measure => simp [intOf]; omega
      · have hlt' : ¬ (m : Int) ≤ 2000 := by omega
        have E : Hid (fstF (ovP n (D : Int)) (2001 - m) m = none) := Lib.hid (by rw [show 2001 - m = 0 from by omega]; rfl)
        go_wp2
        go_ret2
        rw [EO.out, HE.out, E.out]
        exact ⟨rfl, by (repeat' (first | (with_reducible exact Below.refl _ _) | (with_reducible assumption) | (with_reducible refine Below.drew ?_) | (with_reducible refine belowDrewN ?_ _) | (with_reducible refine Below.alloc ?_ ?_ _) | (with_reducible refine Below.setCell ?_ ?_ _) | (with_reducible refine belowStep (by assumption) ?_ ?_) | (with_reducible exact Below.size (by assumption)) | go_size))⟩
end Go.Proofs.Ytbjblkfibinenad
namespace Go.Proofs.Ytbjblkfibinenad
open Go.RowKit
def pxP (D N : Nat) : Bool := decide (N % D = 0) && (brkO N).isNone
theorem pxP_mul {D N : Nat} (h : N % D ≠ 0) : ¬ pxP D N = true := by unfold pxP; rw [decide_eq_false h, Bool.false_and]; decide
/-- the expansion over the least practical multiple -/
def peO (n d : Int) : Option (List Int) := if belowB n d = true then (fstF (pxP d.toNat) 2000 1).bind (fun N => ovO n d (N : Int)) else none
theorem peO_no {n d : Int} (h : belowB n d = false) : peO n d = none := by unfold peO; rw [h]; rfl
theorem peO_yes {n : Int} {D : Nat} (h : belowB n (D : Int) = true) : peO n (D : Int) = (fstF (pxP D) 2000 1).bind (fun N => ovO n (D : Int) (N : Int)) := by unfold peO; rw [if_pos h]; rfl
theorem peO_len (n d : Int) : ((peO n d).getD []).length ≤ 24 := by
  unfold peO
  split
  · cases fstF (pxP d.toNat) 2000 1 with
    | none => simp
    | some N => exact ovO_len n d (N : Int)
  · simp
set_option maxRecDepth 100000 in
set_option maxHeartbeats 8000000 in
theorem spec_practicalExpansion_any (n d : Int) (w : World) : Calls Try.prog 17 #[.agg #[.int .i64 n, .int .i64 d]] w (RetRB ((peO n d).getD []) (peO n d).isSome w) := by
  have HG := Lib.hid fun (w : World) => unGood_any n d w
  cases hg : goodB n d with
  | false =>
    have E := Lib.hid (peO_no (n := n) (d := d) (by unfold belowB; rw [hg]; rfl))
    rw [hg] at HG
    clear hg
    go_enter Try.func17, Try.ntmps17
    go_wp2_with fail
    refine (HG.out _).mono ?_; rintro e w1 ⟨rfl, hb1⟩; obtain ⟨hc1, hf1⟩ := bcellB hb1; have hz1 := hb1.size; (try simp only [World.size_alloc] at hc1 hf1 hz1); (try have hy1_r_0 : wr.heap.size < w1.heap.size := by omega); (try have hn1_r_0 : wr.heap.size ≠ w1.heap.size := by omega); (try have hm1_r_0 : w1.heap.size ≠ wr.heap.size := by omega); (try have hy1_r_1 : wr.heap.size + 1 < w1.heap.size := by omega); (try have hn1_r_1 : wr.heap.size + 1 ≠ w1.heap.size := by omega); (try have hm1_r_1 : w1.heap.size ≠ wr.heap.size + 1 := by omega); (try have hy1_r_2 : wr.heap.size + 1 + 1 < w1.heap.size := by omega); (try have hp1_r_1 : wr.heap.size < w1.heap.size + 1 := by omega); (try have hp1_r_2 : wr.heap.size < w1.heap.size + 1 + 1 := by omega); (try have hy1_0_0 : w.heap.size < w1.heap.size := by omega); (try have hn1_0_0 : w.heap.size ≠ w1.heap.size := by omega); (try have hm1_0_0 : w1.heap.size ≠ w.heap.size := by omega); (try have hy1_0_1 : w.heap.size + 1 < w1.heap.size := by omega); (try have hn1_0_1 : w.heap.size + 1 ≠ w1.heap.size := by omega); (try have hm1_0_1 : w1.heap.size ≠ w.heap.size + 1 := by omega); (try have hy1_0_2 : w.heap.size + 1 + 1 < w1.heap.size := by omega); (try have hp1_0_1 : w.heap.size < w1.heap.size + 1 := by omega); (try have hp1_0_2 : w.heap.size < w1.heap.size + 1 + 1 := by omega); (try have hg1_g1 : g1 < w1.heap.size := by omega); (try have hi1_g1 : g1 ≠ w1.heap.size := by omega); (try have hj1_g1 : w1.heap.size ≠ g1 := by omega); (try have hk1_g1 : g1 < w1.heap.size + 1 := by omega); (try have hg1_g2 : g2 < w1.heap.size := by omega); (try have hi1_g2 : g2 ≠ w1.heap.size := by omega); (try have hj1_g2 : w1.heap.size ≠ g2 := by omega); (try have hk1_g2 : g2 < w1.heap.size + 1 := by omega)
    go_wp2
    go_ret2
    rw [E.out]
    exact ⟨none, 0, rfl, Reads.nil, by (repeat' (first | (with_reducible exact Below.refl _ _) | (with_reducible assumption) | (with_reducible refine Below.drew ?_) | (with_reducible refine belowDrewN ?_ _) | (with_reducible refine Below.alloc ?_ ?_ _) | (with_reducible refine Below.setCell ?_ ?_ _) | (with_reducible refine belowStep (by assumption) ?_ ?_) | (with_reducible exact Below.size (by assumption)) | go_size))⟩
  | true =>
    by_cases hnd : n < d
    · obtain ⟨g1, g2, g3, g4⟩ := good_bounds hg
      obtain ⟨D, rfl⟩ := Int.eq_ofNat_of_zero_le (show 0 ≤ d by omega)
      have hD1 : 1 ≤ D := by omega
      have hne : (D : Int) ≠ 0 := by omega
      have hneN : D ≠ 0 := by omega
      have EO := Lib.hid (peO_yes (n := n) (D := D) (by unfold belowB; rw [hg, decide_eq_true hnd]; rfl))
      have HO := Lib.hid fun (w : World) (N : Nat) (h1 : 1 ≤ N) (h2 : N ≤ 2000) => prOver_any n (D : Int) (N : Int) w hg (numB_of h1 h2)
      have T0 := Lib.hid (TwoAt.new w n (D : Int) 27)
      have hge : ¬ (D : Int) ≤ n := by omega
      rw [hg] at HG
      clear hg
      go_enter Try.func17, Try.ntmps17
      go_wp2_with fail
      refine (HG.out _).mono ?_; rintro e w1 ⟨rfl, hb1⟩; obtain ⟨hc1, hf1⟩ := bcellB hb1; have hz1 := hb1.size; (try simp only [World.size_alloc] at hc1 hf1 hz1); (try have hy1_r_0 : wr.heap.size < w1.heap.size := by omega); (try have hn1_r_0 : wr.heap.size ≠ w1.heap.size := by omega); (try have hm1_r_0 : w1.heap.size ≠ wr.heap.size := by omega); (try have hy1_r_1 : wr.heap.size + 1 < w1.heap.size := by omega); (try have hn1_r_1 : wr.heap.size + 1 ≠ w1.heap.size := by omega); (try have hm1_r_1 : w1.heap.size ≠ wr.heap.size + 1 := by omega); (try have hy1_r_2 : wr.heap.size + 1 + 1 < w1.heap.size := by omega); (try have hp1_r_1 : wr.heap.size < w1.heap.size + 1 := by omega); (try have hp1_r_2 : wr.heap.size < w1.heap.size + 1 + 1 := by omega); (try have hy1_0_0 : w.heap.size < w1.heap.size := by omega); (try have hn1_0_0 : w.heap.size ≠ w1.heap.size := by omega); (try have hm1_0_0 : w1.heap.size ≠ w.heap.size := by omega); (try have hy1_0_1 : w.heap.size + 1 < w1.heap.size := by omega); (try have hn1_0_1 : w.heap.size + 1 ≠ w1.heap.size := by omega); (try have hm1_0_1 : w1.heap.size ≠ w.heap.size + 1 := by omega); (try have hy1_0_2 : w.heap.size + 1 + 1 < w1.heap.size := by omega); (try have hp1_0_1 : w.heap.size < w1.heap.size + 1 := by omega); (try have hp1_0_2 : w.heap.size < w1.heap.size + 1 + 1 := by omega); (try have hg1_g1 : g1 < w1.heap.size := by omega); (try have hi1_g1 : g1 ≠ w1.heap.size := by omega); (try have hj1_g1 : w1.heap.size ≠ g1 := by omega); (try have hk1_g1 : g1 < w1.heap.size + 1 := by omega); (try have hg1_g2 : g2 < w1.heap.size := by omega); (try have hi1_g2 : g2 ≠ w1.heap.size := by omega); (try have hj1_g2 : w1.heap.size ≠ g2 := by omega); (try have hk1_g2 : g2 < w1.heap.size + 1 := by omega)
      have T1 := Lib.hid (T0.out.below hb1)
      obtain ⟨t1, t2, t3, t4, t5⟩ := T0.out.below hb1
      clear T0
      go_wp2
      clear t1 t2 t3 t4 t5
      go_loopw [4] (fun v4 wr => ∃ f m : Nat, v4 = .int .i64 (m : Int) ∧ m + f = 2001 ∧ 1 ≤ m ∧ fstF (pxP D) 2000 1 = fstF (pxP D) f m ∧ Below w1.heap.size w1 wr) (fun v4 _ => 2001 - (intOf v4).toNat)
      case atStart => exact ⟨2000, 1, rfl, rfl, by omega, rfl, by (repeat' (first | (with_reducible exact Below.refl _ _) | (with_reducible assumption) | (with_reducible refine Below.drew ?_) | (with_reducible refine belowDrewN ?_ _) | (with_reducible refine Below.alloc ?_ ?_ _) | (with_reducible refine Below.setCell ?_ ?_ _) | (with_reducible refine belowStep (by assumption) ?_ ?_) | (with_reducible exact Below.size (by assumption)) | go_size))⟩
      case round =>
        obtain ⟨f, m, rfl, hf, hm1, he, hbr⟩ := hrel
        have HE := Lib.hid he
        have hzr := hbr.size
        have T2 := Lib.hid (T1.out.below hbr)
        obtain ⟨t1, t2, t3, t4, t5⟩ := T1.out.below hbr
        clear he
        by_cases hlt : m ≤ 2000
        · obtain ⟨f, rfl⟩ : ∃ j, f = j + 1 := ⟨f - 1, by omega⟩
          have hlt' : (m : Int) ≤ 2000 := by omega
          obtain ⟨e1, e2, e3, e4⟩ := @remv2 m D
          have HMO := Lib.hid fun (w : World) => HO.out w m hm1 hlt
          have HBR : Hid (∀ w, Calls Try.prog 38 #[.int .i64 (m : Int)] w (Ret (.bool (brkO m).isSome) w)) := Lib.hid fun w => by
            have := prBroken_any (m : Int) w
            rwa [brO_yes (numB_of hm1 hlt)] at this
          by_cases hm : m % D = 0
          · rw [hm] at e1 e2
            by_cases hb : brkO m = none
            · have E := Lib.hid (fstF_yes (p := pxP D) (f := f) (m := m) (by unfold pxP; rw [hm, hb]; rfl))
              have EO2 : Hid (peO n (D : Int) = ovO n (D : Int) (m : Int)) := Lib.hid (by rw [EO.out, HE.out, E.out]; rfl)
              rw [(isNone_yes hb).2] at HBR
              clear hb hm
              go_wp2_with fail
              refine (HBR.out _).mono ?_; rintro e w3 ⟨rfl, hb3⟩; have hz3 := hb3.size; (try simp only [World.size_alloc, World.size_setCell, World.size_drew, World.heap_drewN] at hz3)
              obtain ⟨u1, u2, u3, u4, u5⟩ := T2.out.below hb3
              go_wp2_with fail
              refine (HMO.out _).mono ?_; rintro e w4 ⟨A4, c4, rfl, hr4, hb4⟩
              have hz4 := hb4.size
              have H4 := Lib.hid hr4
              clear hr4
              obtain ⟨ys, hys⟩ : ∃ ys, ys = (peO n (D : Int)).getD [] := ⟨_, rfl⟩
              obtain ⟨told, htold⟩ : ∃ t, t = (peO n (D : Int)).isSome := ⟨_, rfl⟩
              rw [← EO2.out, ← hys] at H4
              rw [← EO2.out, ← hys, ← htold]
              have EY := Lib.hid hys
              have ET := Lib.hid htold
              clear hys htold
              go_wp2
              go_ret2
              rw [← EY.out, ← ET.out]
              exact ⟨A4, c4, rfl, H4.out, by (repeat' (first | (with_reducible exact Below.refl _ _) | (with_reducible assumption) | (with_reducible refine Below.drew ?_) | (with_reducible refine belowDrewN ?_ _) | (with_reducible refine Below.alloc ?_ ?_ _) | (with_reducible refine Below.setCell ?_ ?_ _) | (with_reducible refine belowStep (by assumption) ?_ ?_) | (with_reducible exact Below.size (by assumption)) | go_size))⟩
            · have E := Lib.hid (fstF_no (p := pxP D) (f := f) (m := m) (by unfold pxP; rw [(isNone_no hb).1, Bool.and_false]; decide))
              rw [(isNone_no hb).2] at HBR
              clear hb hm
              go_wp2_with fail
              refine (HBR.out _).mono ?_; rintro e w3 ⟨rfl, hb3⟩; have hz3 := hb3.size; (try simp only [World.size_alloc, World.size_setCell, World.size_drew, World.heap_drewN] at hz3)
              go_wp2
              go_roundw
              case rel => exact ⟨f, m + 1, by go_num, by omega, by omega, by rw [HE.out, E.out], by (repeat' (first | (with_reducible exact Below.refl _ _) | (with_reducible assumption) | (with_reducible refine Below.drew ?_) | (with_reducible refine belowDrewN ?_ _) | (with_reducible refine Below.alloc ?_ ?_ _) | (with_reducible refine Below.setCell ?_ ?_ _) | (with_reducible refine belowStep (by assumption) ?_ ?_) | (with_reducible exact Below.size (by assumption)) | go_size))⟩
              case measure => simp [intOf]; omega
          · have E := Lib.hid (fstF_no (p := pxP D) (f := f) (m := m) (pxP_mul hm))
            have hr1 : m % D ≤ m := Nat.mod_le m D
            generalize m % D = r at *
            have hb1 : ((r : Int) == 0) = false := by simp; omega
            have hb2 : (r : Int) ≠ 0 := by omega
            go_wp2
            go_roundw
            case rel => exact ⟨f, m + 1, by go_num, by omega, by omega, by rw [HE.out, E.out], by (repeat' (first | (with_reducible exact Below.refl _ _) | (with_reducible assumption) | (with_reducible refine Below.drew ?_) | (with_reducible refine belowDrewN ?_ _) | (with_reducible refine Below.alloc ?_ ?_ _) | (with_reducible refine Below.setCell ?_ ?_ _) | (with_reducible refine belowStep (by assumption) ?_ ?_) | (with_reducible exact Below.size (by assumption)) | go_size))⟩
            case measure => simp [intOf]; omega
        · have hlt' : ¬ (m : Int) ≤ 2000 := by omega
          obtain rfl : f = 0 := by omega
          have EO2 : Hid (peO n (D : Int) = none) := Lib.hid (by rw [EO.out, HE.out]; rfl)
          go_wp2
          go_ret2
          rw [EO2.out]
          exact ⟨none, 0, rfl, Reads.nil, by (repeat' (first | (with_reducible exact Below.refl _ _) | (with_reducible assumption) | (with_reducible refine Below.drew ?_) | (with_reducible refine belowDrewN ?_ _) | (with_reducible refine Below.alloc ?_ ?_ _) | (with_reducible refine Below.setCell ?_ ?_ _) | (with_reducible refine belowStep (by assumption) ?_ ?_) | (with_reducible exact Below.size (by assumption)) | go_size))⟩
    · have E := Lib.hid (peO_no (n := n) (d := d) (by unfold belowB; rw [decide_eq_false hnd, Bool.and_false]))
      have hge : d ≤ n := by omega
      have T0 := Lib.hid (TwoAt.new w n d 27)
      rw [hg] at HG
      clear hg
      go_enter Try.func17, Try.ntmps17
      go_wp2_with fail
      refine (HG.out _).mono ?_; rintro e w1 ⟨rfl, hb1⟩; obtain ⟨hc1, hf1⟩ := bcellB hb1; have hz1 := hb1.size; (try simp only [World.size_alloc] at hc1 hf1 hz1); (try have hy1_r_0 : wr.heap.size < w1.heap.size := by omega); (try have hn1_r_0 : wr.heap.size ≠ w1.heap.size := by omega); (try have hm1_r_0 : w1.heap.size ≠ wr.heap.size := by omega); (try have hy1_r_1 : wr.heap.size + 1 < w1.heap.size := by omega); (try have hn1_r_1 : wr.heap.size + 1 ≠ w1.heap.size := by omega); (try have hm1_r_1 : w1.heap.size ≠ wr.heap.size + 1 := by omega); (try have hy1_r_2 : wr.heap.size + 1 + 1 < w1.heap.size := by omega); (try have hp1_r_1 : wr.heap.size < w1.heap.size + 1 := by omega); (try have hp1_r_2 : wr.heap.size < w1.heap.size + 1 + 1 := by omega); (try have hy1_0_0 : w.heap.size < w1.heap.size := by omega); (try have hn1_0_0 : w.heap.size ≠ w1.heap.size := by omega); (try have hm1_0_0 : w1.heap.size ≠ w.heap.size := by omega); (try have hy1_0_1 : w.heap.size + 1 < w1.heap.size := by omega); (try have hn1_0_1 : w.heap.size + 1 ≠ w1.heap.size := by omega); (try have hm1_0_1 : w1.heap.size ≠ w.heap.size + 1 := by omega); (try have hy1_0_2 : w.heap.size + 1 + 1 < w1.heap.size := by omega); (try have hp1_0_1 : w.heap.size < w1.heap.size + 1 := by omega); (try have hp1_0_2 : w.heap.size < w1.heap.size + 1 + 1 := by omega); (try have hg1_g1 : g1 < w1.heap.size := by omega); (try have hi1_g1 : g1 ≠ w1.heap.size := by omega); (try have hj1_g1 : w1.heap.size ≠ g1 := by omega); (try have hk1_g1 : g1 < w1.heap.size + 1 := by omega); (try have hg1_g2 : g2 < w1.heap.size := by omega); (try have hi1_g2 : g2 ≠ w1.heap.size := by omega); (try have hj1_g2 : w1.heap.size ≠ g2 := by omega); (try have hk1_g2 : g2 < w1.heap.size + 1 := by omega)
      obtain ⟨t1, t2, t3, t4, t5⟩ := T0.out.below hb1
      go_wp2
      go_ret2
      rw [E.out]
      exact ⟨none, 0, rfl, Reads.nil, by (repeat' (first | (with_reducible exact Below.refl _ _) | (with_reducible assumption) | (with_reducible refine Below.drew ?_) | (with_reducible refine belowDrewN ?_ _) | (with_reducible refine Below.alloc ?_ ?_ _) | (with_reducible refine Below.setCell ?_ ?_ _) | (with_reducible refine belowStep (by assumption) ?_ ?_) | (with_reducible exact Below.size (by assumption)) | go_size))⟩
set_option maxRecDepth 100000 in
set_option maxHeartbeats 8000000 in
theorem practicalExpansion_any (n d : Int) (w : World) (rn : -9223372036854775808 ≤ n ∧ n ≤ 9223372036854775807) (rd : -9223372036854775808 ≤ d ∧ d ≤ 9223372036854775807) : Calls Try.prog 18 #[.agg #[.int .i64 n, .int .i64 d]] w (RetLB ((peO n d).getD []) (peO n d).isSome w) := by
  have HG := Lib.hid fun (w : World) => isBelowOne_any n d w rn rd
  cases hg : belowB n d with
  | false =>
    have E := Lib.hid (peO_no hg)
    rw [hg] at HG
    clear hg
    go_enter Try.func18, Try.ntmps18
    go_wp2_with fail
    refine (HG.out _).mono ?_; rintro e w1 ⟨rfl, hb1⟩; obtain ⟨hc1, hf1⟩ := bcellB hb1; have hz1 := hb1.size; (try simp only [World.size_alloc] at hc1 hf1 hz1); (try have hy1_r_0 : wr.heap.size < w1.heap.size := by omega); (try have hn1_r_0 : wr.heap.size ≠ w1.heap.size := by omega); (try have hm1_r_0 : w1.heap.size ≠ wr.heap.size := by omega); (try have hy1_r_1 : wr.heap.size + 1 < w1.heap.size := by omega); (try have hn1_r_1 : wr.heap.size + 1 ≠ w1.heap.size := by omega); (try have hm1_r_1 : w1.heap.size ≠ wr.heap.size + 1 := by omega); (try have hy1_r_2 : wr.heap.size + 1 + 1 < w1.heap.size := by omega); (try have hp1_r_1 : wr.heap.size < w1.heap.size + 1 := by omega); (try have hp1_r_2 : wr.heap.size < w1.heap.size + 1 + 1 := by omega); (try have hy1_0_0 : w.heap.size < w1.heap.size := by omega); (try have hn1_0_0 : w.heap.size ≠ w1.heap.size := by omega); (try have hm1_0_0 : w1.heap.size ≠ w.heap.size := by omega); (try have hy1_0_1 : w.heap.size + 1 < w1.heap.size := by omega); (try have hn1_0_1 : w.heap.size + 1 ≠ w1.heap.size := by omega); (try have hm1_0_1 : w1.heap.size ≠ w.heap.size + 1 := by omega); (try have hy1_0_2 : w.heap.size + 1 + 1 < w1.heap.size := by omega); (try have hp1_0_1 : w.heap.size < w1.heap.size + 1 := by omega); (try have hp1_0_2 : w.heap.size < w1.heap.size + 1 + 1 := by omega); (try have hg1_g1 : g1 < w1.heap.size := by omega); (try have hi1_g1 : g1 ≠ w1.heap.size := by omega); (try have hj1_g1 : w1.heap.size ≠ g1 := by omega); (try have hk1_g1 : g1 < w1.heap.size + 1 := by omega); (try have hg1_g2 : g2 < w1.heap.size := by omega); (try have hi1_g2 : g2 ≠ w1.heap.size := by omega); (try have hj1_g2 : w1.heap.size ≠ g2 := by omega); (try have hk1_g2 : g2 < w1.heap.size + 1 := by omega)
    go_wp2
    go_ret2
    rw [E.out]
    exact ⟨_, rfl, OwnI.empty _ _, by (repeat' (first | (with_reducible exact Below.refl _ _) | (with_reducible assumption) | (with_reducible refine Below.drew ?_) | (with_reducible refine belowDrewN ?_ _) | (with_reducible refine Below.alloc ?_ ?_ _) | (with_reducible refine Below.setCell ?_ ?_ _) | (with_reducible refine belowStep (by assumption) ?_ ?_) | (with_reducible exact Below.size (by assumption)) | go_size))⟩
  | true =>
    obtain ⟨g1, g2, g3, g4⟩ := good_bounds (belowB_yes hg).1
    obtain ⟨D, rfl⟩ := Int.eq_ofNat_of_zero_le (show 0 ≤ d by omega)
    have hD1 : 1 ≤ D := by omega
    have HML := Lib.hid fun (N : Nat) (h : N % D ≠ 0) => pxP_mul h
    have EO : Hid (peO n (D : Int) = (fstF (pxP D) (2001 - D) D).bind (fun N => ovO n (D : Int) (N : Int))) := Lib.hid (by rw [peO_yes hg, fstF_first hD1 HML.out])
    have HO := Lib.hid fun (w : World) (N : Nat) => expandOver_any n (D : Int) (N : Int) w rn rd
    have T0 := Lib.hid (TwoAt.new w n (D : Int) 27)
    rw [hg] at HG
    clear hg rn rd
    go_enter Try.func18, Try.ntmps18
    go_wp2_with fail
    refine (HG.out _).mono ?_; rintro e w1 ⟨rfl, hb1⟩; obtain ⟨hc1, hf1⟩ := bcellB hb1; have hz1 := hb1.size; (try simp only [World.size_alloc] at hc1 hf1 hz1); (try have hy1_r_0 : wr.heap.size < w1.heap.size := by omega); (try have hn1_r_0 : wr.heap.size ≠ w1.heap.size := by omega); (try have hm1_r_0 : w1.heap.size ≠ wr.heap.size := by omega); (try have hy1_r_1 : wr.heap.size + 1 < w1.heap.size := by omega); (try have hn1_r_1 : wr.heap.size + 1 ≠ w1.heap.size := by omega); (try have hm1_r_1 : w1.heap.size ≠ wr.heap.size + 1 := by omega); (try have hy1_r_2 : wr.heap.size + 1 + 1 < w1.heap.size := by omega); (try have hp1_r_1 : wr.heap.size < w1.heap.size + 1 := by omega); (try have hp1_r_2 : wr.heap.size < w1.heap.size + 1 + 1 := by omega); (try have hy1_0_0 : w.heap.size < w1.heap.size := by omega); (try have hn1_0_0 : w.heap.size ≠ w1.heap.size := by omega); (try have hm1_0_0 : w1.heap.size ≠ w.heap.size := by omega); (try have hy1_0_1 : w.heap.size + 1 < w1.heap.size := by omega); (try have hn1_0_1 : w.heap.size + 1 ≠ w1.heap.size := by omega); (try have hm1_0_1 : w1.heap.size ≠ w.heap.size + 1 := by omega); (try have hy1_0_2 : w.heap.size + 1 + 1 < w1.heap.size := by omega); (try have hp1_0_1 : w.heap.size < w1.heap.size + 1 := by omega); (try have hp1_0_2 : w.heap.size < w1.heap.size + 1 + 1 := by omega); (try have hg1_g1 : g1 < w1.heap.size := by omega); (try have hi1_g1 : g1 ≠ w1.heap.size := by omega); (try have hj1_g1 : w1.heap.size ≠ g1 := by omega); (try have hk1_g1 : g1 < w1.heap.size + 1 := by omega); (try have hg1_g2 : g2 < w1.heap.size := by omega); (try have hi1_g2 : g2 ≠ w1.heap.size := by omega); (try have hj1_g2 : w1.heap.size ≠ g2 := by omega); (try have hk1_g2 : g2 < w1.heap.size + 1 := by omega)
    have T1 := Lib.hid (T0.out.below hb1)
    obtain ⟨t1, t2, t3, t4, t5⟩ := T0.out.below hb1
    clear T0
    go_wp2
    clear t1 t2 t3 t4 t5
    go_loopw [4] (fun v4 wr => ∃ m : Nat, v4 = .int .i64 (m : Int) ∧ m % D = 0 ∧ 1 ≤ m ∧ m ≤ 1000002000 ∧ fstF (pxP D) (2001 - D) D = fstF (pxP D) (2001 - m) m ∧ Below w1.heap.size w1 wr) (fun v4 _ => 2001 - (intOf v4).toNat)
    case atStart => exact ⟨D, rfl, Nat.mod_self D, hD1, by omega, rfl, by (repeat' (first | (with_reducible exact Below.refl _ _) | (with_reducible assumption) | (with_reducible refine Below.drew ?_) | (with_reducible refine belowDrewN ?_ _) | (with_reducible refine Below.alloc ?_ ?_ _) | (with_reducible refine Below.setCell ?_ ?_ _) | (with_reducible refine belowStep (by assumption) ?_ ?_) | (with_reducible exact Below.size (by assumption)) | go_size))⟩
    case round =>
      obtain ⟨m, rfl, hmod, hm0, hm1, he, hbr⟩ := hrel
      have HE := Lib.hid he
      have HMO := Lib.hid hmod
      have hzr := hbr.size
      have T2 := Lib.hid (T1.out.below hbr)
      obtain ⟨t1, t2, t3, t4, t5⟩ := T1.out.below hbr
      clear he hmod
      by_cases hlt : m ≤ 2000
      · have hlt' : (m : Int) ≤ 2000 := by omega
        have HM := Lib.hid fun (w : World) => HO.out w m
        have HI : Hid (∀ w, Calls Try.prog 40 #[.int .i64 (m : Int)] w (Ret (.tuple #[.bool (brkO m).isNone, .bool true]) w)) := Lib.hid fun w => by
          have := isPractical_any (m : Int) w
          rwa [prcB_yes hm0 hlt, numB_of hm0 hlt] at this
        by_cases hb : brkO m = none
        · have E : Hid (fstF (pxP D) (2001 - m) m = some m) := Lib.hid (by rw [show 2001 - m = (2000 - m) + 1 from by omega]; exact fstF_yes (by unfold pxP; rw [HMO.out, hb]; rfl))
          have EO2 : Hid (peO n (D : Int) = ovO n (D : Int) (m : Int)) := Lib.hid (by rw [EO.out, HE.out, E.out]; rfl)
          rw [(isNone_yes hb).1] at HI
          clear hb
          go_wp2_with fail
          refine (HI.out _).mono ?_; rintro e w3 ⟨rfl, hb3⟩; have hz3 := hb3.size; (try simp only [World.size_alloc, World.size_setCell, World.size_drew, World.heap_drewN] at hz3)
          obtain ⟨u1, u2, u3, u4, u5⟩ := T2.out.below hb3
          go_wp2_with fail
          refine (HM.out _).mono ?_; rintro e w4 ⟨v4, rfl, ho4, hb4⟩
          have hz4 := hb4.size
          have H4 := Lib.hid ho4
          clear ho4
          obtain ⟨ys, hys⟩ : ∃ ys, ys = (peO n (D : Int)).getD [] := ⟨_, rfl⟩
          obtain ⟨told, htold⟩ : ∃ t, t = (peO n (D : Int)).isSome := ⟨_, rfl⟩
          rw [← EO2.out, ← hys] at H4
          rw [← EO2.out, ← htold]
          have EY := Lib.hid hys
          have ET := Lib.hid htold
          clear hys htold
          go_wp2
          go_ret2
          rw [← EY.out, ← ET.out]
          exact ⟨_, rfl, H4.out.mono (by (first | (go_size; done) | ((try simp only [World.size_alloc, World.size_setCell, World.size_drew, World.heap_drewN]); omega))), by (repeat' (first | (with_reducible exact Below.refl _ _) | (with_reducible assumption) | (with_reducible refine Below.drew ?_) | (with_reducible refine belowDrewN ?_ _) | (with_reducible refine Below.alloc ?_ ?_ _) | (with_reducible refine Below.setCell ?_ ?_ _) | (with_reducible refine belowStep (by assumption) ?_ ?_) | (with_reducible exact Below.size (by assumption)) | go_size))⟩
        · have E := Lib.hid (fstF_jump HML.out HMO.out (show ¬ pxP D m = true from by unfold pxP; rw [(isNone_no hb).1, Bool.and_false]; decide))
          have HMN : Hid ((m + D) % D = 0) := Lib.hid (by rw [Nat.add_mod_right]; exact HMO.out)
          rw [(isNone_no hb).1] at HI
          clear hb
          go_wp2_with fail
          refine (HI.out _).mono ?_; rintro e w3 ⟨rfl, hb3⟩; have hz3 := hb3.size; (try simp only [World.size_alloc, World.size_setCell, World.size_drew, World.heap_drewN] at hz3)
          obtain ⟨u1, u2, u3, u4, u5⟩ := T2.out.below hb3
          go_wp2
          go_roundw
          case rel => exact ⟨m + D, by go_num, HMN.out, by omega, by omega, by rw [HE.out, E.out], by (repeat' (first | (with_reducible exact Below.refl _ _) | (with_reducible assumption) | (with_reducible refine Below.drew ?_) | (with_reducible refine belowDrewN ?_ _) | (with_reducible refine Below.alloc ?_ ?_ _) | (with_reducible refine Below.setCell ?_ ?_ _) | (with_reducible refine belowStep (by assumption) ?_ ?_) | (with_reducible exact Below.size (by assumption)) | go_size))⟩
          case measure => simp [intOf]; omega
      · have hlt' : ¬ (m : Int) ≤ 2000 := by omega
        have E : Hid (fstF (pxP D) (2001 - m) m = none) := Lib.hid (by rw [show 2001 - m = 0 from by omega]; rfl)
        have EO2 : Hid (peO n (D : Int) = none) := Lib.hid (by rw [EO.out, HE.out, E.out]; rfl)
        go_wp2
        go_ret2
        rw [EO2.out]
        exact ⟨_, rfl, OwnI.empty _ _, by (repeat' (first | (with_reducible exact Below.refl _ _) | (with_reducible assumption) | (with_reducible refine Below.drew ?_) | (with_reducible refine belowDrewN ?_ _) | (with_reducible refine Below.alloc ?_ ?_ _) | (with_reducible refine Below.setCell ?_ ?_ _) | (with_reducible refine belowStep (by assumption) ?_ ?_) | (with_reducible exact Below.size (by assumption)) | go_size))⟩
end Go.Proofs.Ytbjblkfibinenad
