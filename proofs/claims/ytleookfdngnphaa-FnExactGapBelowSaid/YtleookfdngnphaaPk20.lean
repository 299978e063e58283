import Derived.Test.YtleookfdngnphaaPk19
import Derived.Test.YtleookfdngnphaaPk2
import Derived.Test.YtleookfdngnphaaPk7
import Derived.Test.YtleookfdngnphaaPk5

/-
  Contracts of greedy expansions in the program and in the model.
-/
namespace Go.Proofs.Ytleookfdngnphaa
open Go.RowKit
theorem RetLO.below {o : Option (List Int)} {w w' : World} {e : Ending} (h : RetLO o none w e w') : RetLB (o.getD []) o.isSome w e w' := by
  obtain ⟨v, h1, h2, h3⟩ := h
  exact ⟨v, h1, h2, (Below.refl _ _).grown h3 (Nat.le_refl _) (by simp)⟩
theorem small_G {p : Int → Int → Int → Int} (hp : ∀ l n d, goodB n d = true → 1 ≤ n → 0 ≤ l → 1 ≤ p l n d) : Small (stG p) := by
  intro l n d t n' d' hg hn hl h
  obtain ⟨h1, h2, h3, h4⟩ := stG_some h
  have := hp l n d hg hn hl
  obtain ⟨_, _, d1, _⟩ := good_bounds hg
  subst h1
  rw [h3, h4]
  exact ⟨by omega, (tB_parts h2).1, tB_good d1 this h2⟩
theorem small_G0 : Small (stG pick0) := small_G fun _ _ _ hg hn _ => (ucd_facts hn (good_bounds hg).2.2.1).1
theorem small_G1 : Small (stG pick1) := small_G fun l n d hg hn _ => by have := (ucd_facts hn (good_bounds hg).2.2.1).1; unfold pick1; omega
/-- the greedy expansion, if there is one -/
def gexO (n d : Int) : Option (List Int) := if atMostB n d = true then lstO (stG pick0) expB 24 0 n d else none
theorem gexO_len (n d : Int) : ((gexO n d).getD []).length ≤ 24 := by
  unfold gexO
  split
  · cases h : walkR (stG pick0) 24 0 n d with
    | none => rw [lstO_none h]; simp
    | some es =>
      cases hk : expB (takenOf es) with
      | true => rw [lstO_yes h hk]; show (takenOf es).length ≤ 24; exact expB_len hk
      | false => rw [lstO_no h hk]; simp
  · simp
theorem greedyStep_R (l n d : Int) (w : World) (hg : goodB n d = true) (hn : 1 ≤ n) : Calls Try.prog 193 (#[.agg #[.int .i64 n, .int .i64 d]] ++ #[]) w (StepR (stG pick0) (fun _ _ => True) none l n d w) := by
  rw [Array.append_empty]
  refine (greedyStep_yes n d w (by simp [stepB, hg]; omega)).mono ?_
  rintro e w' ⟨rfl, hb⟩
  obtain ⟨_, _, d1, _⟩ := good_bounds hg
  obtain ⟨u1, u2, u3, u4⟩ := ucd_facts hn d1
  refine ⟨grownBelow (World.grownBy.refl _ _) (Nat.le_refl _) hb, _, _, _, _, rfl, fun h => ?_, fun h => stG_no (p := pick0) h⟩
  obtain ⟨h1, _, _, h4, _⟩ := tB_parts h
  refine ⟨?_, trivial, tB_good d1 u1 h, by rw [h4]; omega, by rw [h4]; exact h1⟩
  rw [h4]
  exact stG_yes (p := pick0) (l := l) h
theorem readSum (w : World) (A : Option Addr) (c : Nat) (xs : List Int) (h : Reads w A xs) (hl : xs.length ≤ 24) (h64 : In64 xs) : Calls Try.prog 27 #[.slice A xs.length c] w (fun e w' => ∃ p q : Int, e = .returned (.tuple #[.agg #[.int .i64 p, .int .i64 q], .bool (expB xs)]) ∧ Below w.heap.size w w') := by
  refine (sumOf_any w A c xs h (by omega) h64).mono ?_
  rintro e w' ⟨rfl, hb⟩
  exact ⟨_, _, rfl, hb⟩
set_option maxRecDepth 100000 in
set_option maxHeartbeats 4000000 in
theorem greedyExp_any (n d : Int) (w : World) (rn : -9223372036854775808 ≤ n ∧ n ≤ 9223372036854775807) (rd : -9223372036854775808 ≤ d ∧ d ≤ 9223372036854775807) : Calls Try.prog 168 #[.agg #[.int .i64 n, .int .i64 d]] w (RetLB ((gexO n d).getD []) (gexO n d).isSome w) := by
  cases h : atMostB n d with
  | false =>
    have E : Hid (gexO n d = none) := Lib.hid (by unfold gexO; rw [h]; rfl)
    cases hg : goodB n d with
    | false =>
      go_enter Try.func168, Try.ntmps168
      go_wp2_with (go_at_call 137; refine (isFraction_any _ _ _ (by omega) (by omega) (by omega) (by omega)).mono ?_; rintro e w1 ⟨rfl, hb1⟩; obtain ⟨hc1, hf1⟩ := bcellB hb1; have hz1 := hb1.size; (try simp only [World.size_alloc] at hc1 hf1 hz1); (try have hy1_r_0 : wr.heap.size < w1.heap.size := by omega); (try have hn1_r_0 : wr.heap.size ≠ w1.heap.size := by omega); (try have hm1_r_0 : w1.heap.size ≠ wr.heap.size := by omega); (try have hy1_r_1 : wr.heap.size + 1 < w1.heap.size := by omega); (try have hn1_r_1 : wr.heap.size + 1 ≠ w1.heap.size := by omega); (try have hm1_r_1 : w1.heap.size ≠ wr.heap.size + 1 := by omega); (try have hy1_r_2 : wr.heap.size + 1 + 1 < w1.heap.size := by omega); (try have hp1_r_1 : wr.heap.size < w1.heap.size + 1 := by omega); (try have hp1_r_2 : wr.heap.size < w1.heap.size + 1 + 1 := by omega); (try have hy1_0_0 : w.heap.size < w1.heap.size := by omega); (try have hn1_0_0 : w.heap.size ≠ w1.heap.size := by omega); (try have hm1_0_0 : w1.heap.size ≠ w.heap.size := by omega); (try have hy1_0_1 : w.heap.size + 1 < w1.heap.size := by omega); (try have hn1_0_1 : w.heap.size + 1 ≠ w1.heap.size := by omega); (try have hm1_0_1 : w1.heap.size ≠ w.heap.size + 1 := by omega); (try have hy1_0_2 : w.heap.size + 1 + 1 < w1.heap.size := by omega); (try have hp1_0_1 : w.heap.size < w1.heap.size + 1 := by omega); (try have hp1_0_2 : w.heap.size < w1.heap.size + 1 + 1 := by omega); (try have hg1_g1 : g1 < w1.heap.size := by omega); (try have hi1_g1 : g1 ≠ w1.heap.size := by omega); (try have hj1_g1 : w1.heap.size ≠ g1 := by omega); (try have hk1_g1 : g1 < w1.heap.size + 1 := by omega); (try have hg1_g2 : g2 < w1.heap.size := by omega); (try have hi1_g2 : g2 ≠ w1.heap.size := by omega); (try have hj1_g2 : w1.heap.size ≠ g2 := by omega); (try have hk1_g2 : g2 < w1.heap.size + 1 := by omega))
      go_ret2
      rw [E.out]
      exact ⟨_, rfl, OwnI.empty _ _, by (repeat' (first | (with_reducible exact Below.refl _ _) | (with_reducible assumption) | (with_reducible refine Below.drew ?_) | (with_reducible refine belowDrewN ?_ _) | (with_reducible refine Below.alloc ?_ ?_ _) | (with_reducible refine Below.setCell ?_ ?_ _) | (with_reducible refine belowStep (by assumption) ?_ ?_) | (with_reducible exact Below.size (by assumption)) | go_size))⟩
    | true =>
      have hlt : d < n := by
        simp only [atMostB, hg, Bool.true_and, decide_eq_false_iff_not] at h
        omega
      clear h
      go_enter Try.func168, Try.ntmps168
      go_wp2_with (go_at_call 137; refine (isFraction_any _ _ _ (by omega) (by omega) (by omega) (by omega)).mono ?_; rintro e w1 ⟨rfl, hb1⟩; obtain ⟨hc1, hf1⟩ := bcellB hb1; have hz1 := hb1.size; (try simp only [World.size_alloc] at hc1 hf1 hz1); (try have hy1_r_0 : wr.heap.size < w1.heap.size := by omega); (try have hn1_r_0 : wr.heap.size ≠ w1.heap.size := by omega); (try have hm1_r_0 : w1.heap.size ≠ wr.heap.size := by omega); (try have hy1_r_1 : wr.heap.size + 1 < w1.heap.size := by omega); (try have hn1_r_1 : wr.heap.size + 1 ≠ w1.heap.size := by omega); (try have hm1_r_1 : w1.heap.size ≠ wr.heap.size + 1 := by omega); (try have hy1_r_2 : wr.heap.size + 1 + 1 < w1.heap.size := by omega); (try have hp1_r_1 : wr.heap.size < w1.heap.size + 1 := by omega); (try have hp1_r_2 : wr.heap.size < w1.heap.size + 1 + 1 := by omega); (try have hy1_0_0 : w.heap.size < w1.heap.size := by omega); (try have hn1_0_0 : w.heap.size ≠ w1.heap.size := by omega); (try have hm1_0_0 : w1.heap.size ≠ w.heap.size := by omega); (try have hy1_0_1 : w.heap.size + 1 < w1.heap.size := by omega); (try have hn1_0_1 : w.heap.size + 1 ≠ w1.heap.size := by omega); (try have hm1_0_1 : w1.heap.size ≠ w.heap.size + 1 := by omega); (try have hy1_0_2 : w.heap.size + 1 + 1 < w1.heap.size := by omega); (try have hp1_0_1 : w.heap.size < w1.heap.size + 1 := by omega); (try have hp1_0_2 : w.heap.size < w1.heap.size + 1 + 1 := by omega); (try have hg1_g1 : g1 < w1.heap.size := by omega); (try have hi1_g1 : g1 ≠ w1.heap.size := by omega); (try have hj1_g1 : w1.heap.size ≠ g1 := by omega); (try have hk1_g1 : g1 < w1.heap.size + 1 := by omega); (try have hg1_g2 : g2 < w1.heap.size := by omega); (try have hi1_g2 : g2 ≠ w1.heap.size := by omega); (try have hj1_g2 : w1.heap.size ≠ g2 := by omega); (try have hk1_g2 : g2 < w1.heap.size + 1 := by omega))
      go_ret2
      rw [E.out]
      exact ⟨_, rfl, OwnI.empty _ _, by (repeat' (first | (with_reducible exact Below.refl _ _) | (with_reducible assumption) | (with_reducible refine Below.drew ?_) | (with_reducible refine belowDrewN ?_ _) | (with_reducible refine Below.alloc ?_ ?_ _) | (with_reducible refine Below.setCell ?_ ?_ _) | (with_reducible refine belowStep (by assumption) ?_ ?_) | (with_reducible exact Below.size (by assumption)) | go_size))⟩
  | true =>
    obtain ⟨hg, hle⟩ := atMostB_yes h
    have E : Hid (gexO n d = lstO (stG pick0) expB 24 0 n d) := Lib.hid (by unfold gexO; rw [if_pos h])
    have HL := Lib.hid fun (w : World) => listBy_any 193 27 #[] (stG pick0) expB (fun _ _ => True) none 0 n d w (by simp) (fun _ _ _ _ _ => trivial) (fun _ _ => rfl) (fun _ _ => rfl) (fun l n d w1 hg hn _ _ _ => greedyStep_R l n d w1 hg hn) small_G0 readSum hg (by omega) (by omega) trivial
    clear h
    go_enter Try.func168, Try.ntmps168
    go_wp2_with (go_at_call 137; refine (isFraction_any _ _ _ (by omega) (by omega) (by omega) (by omega)).mono ?_; rintro e w1 ⟨rfl, hb1⟩; obtain ⟨hc1, hf1⟩ := bcellB hb1; have hz1 := hb1.size; (try simp only [World.size_alloc] at hc1 hf1 hz1); (try have hy1_r_0 : wr.heap.size < w1.heap.size := by omega); (try have hn1_r_0 : wr.heap.size ≠ w1.heap.size := by omega); (try have hm1_r_0 : w1.heap.size ≠ wr.heap.size := by omega); (try have hy1_r_1 : wr.heap.size + 1 < w1.heap.size := by omega); (try have hn1_r_1 : wr.heap.size + 1 ≠ w1.heap.size := by omega); (try have hm1_r_1 : w1.heap.size ≠ wr.heap.size + 1 := by omega); (try have hy1_r_2 : wr.heap.size + 1 + 1 < w1.heap.size := by omega); (try have hp1_r_1 : wr.heap.size < w1.heap.size + 1 := by omega); (try have hp1_r_2 : wr.heap.size < w1.heap.size + 1 + 1 := by omega); (try have hy1_0_0 : w.heap.size < w1.heap.size := by omega); (try have hn1_0_0 : w.heap.size ≠ w1.heap.size := by omega); (try have hm1_0_0 : w1.heap.size ≠ w.heap.size := by omega); (try have hy1_0_1 : w.heap.size + 1 < w1.heap.size := by omega); (try have hn1_0_1 : w.heap.size + 1 ≠ w1.heap.size := by omega); (try have hm1_0_1 : w1.heap.size ≠ w.heap.size + 1 := by omega); (try have hy1_0_2 : w.heap.size + 1 + 1 < w1.heap.size := by omega); (try have hp1_0_1 : w.heap.size < w1.heap.size + 1 := by omega); (try have hp1_0_2 : w.heap.size < w1.heap.size + 1 + 1 := by omega); (try have hg1_g1 : g1 < w1.heap.size := by omega); (try have hi1_g1 : g1 ≠ w1.heap.size := by omega); (try have hj1_g1 : w1.heap.size ≠ g1 := by omega); (try have hk1_g1 : g1 < w1.heap.size + 1 := by omega); (try have hg1_g2 : g2 < w1.heap.size := by omega); (try have hi1_g2 : g2 ≠ w1.heap.size := by omega); (try have hj1_g2 : w1.heap.size ≠ g2 := by omega); (try have hk1_g2 : g2 < w1.heap.size + 1 := by omega))
    refine (HL.out _).mono ?_
    intro e w2 h2
    obtain ⟨v2, rfl, ho2, hb2⟩ := h2.below
    go_wp2
    go_ret2
    rw [E.out]
    exact ⟨_, rfl, ho2.mono (by (first | (go_size; done) | ((try simp only [World.size_alloc, World.size_setCell, World.size_drew, World.heap_drewN]); omega))), by (repeat' (first | (with_reducible exact Below.refl _ _) | (with_reducible assumption) | (with_reducible refine Below.drew ?_) | (with_reducible refine belowDrewN ?_ _) | (with_reducible refine Below.alloc ?_ ?_ _) | (with_reducible refine Below.setCell ?_ ?_ _) | (with_reducible refine belowStep (by assumption) ?_ ?_) | (with_reducible exact Below.size (by assumption)) | go_size))⟩
theorem gexO_one {n d : Int} (h : atMostB n d = true) : gexO n d = lstO (stG pick1) expB 24 1 n d := by
  obtain ⟨hg, hle⟩ := atMostB_yes h
  unfold gexO
  rw [if_pos h]
  unfold lstO
  rw [walk_pick 24 (l := 1) (l' := 0) hg hle (fun hn => (ucd_facts hn (good_bounds hg).2.2.1).1)]
set_option maxHeartbeats 2000000 in
theorem spec_greedyExp_any (n d : Int) (w : World) : Calls Try.prog 105 #[.agg #[.int .i64 n, .int .i64 d]] w (RetRB ((gexO n d).getD []) (gexO n d).isSome w) := by
  cases h : atMostB n d with
  | false =>
    have E : Hid (gexO n d = none) := Lib.hid (by unfold gexO; rw [h]; rfl)
    go_enter Try.func105, Try.ntmps105
    go_wp2_with (go_at_call 169; refine (grAtMost_any _ _ _).mono ?_; rintro e w1 ⟨rfl, hb1⟩; obtain ⟨hc1, hf1⟩ := bcellB hb1; have hz1 := hb1.size; (try simp only [World.size_alloc] at hc1 hf1 hz1); (try have hy1_r_0 : wr.heap.size < w1.heap.size := by omega); (try have hn1_r_0 : wr.heap.size ≠ w1.heap.size := by omega); (try have hm1_r_0 : w1.heap.size ≠ wr.heap.size := by omega); (try have hy1_r_1 : wr.heap.size + 1 < w1.heap.size := by omega); (try have hn1_r_1 : wr.heap.size + 1 ≠ w1.heap.size := by omega); (try have hm1_r_1 : w1.heap.size ≠ wr.heap.size + 1 := by omega); (try have hy1_r_2 : wr.heap.size + 1 + 1 < w1.heap.size := by omega); (try have hp1_r_1 : wr.heap.size < w1.heap.size + 1 := by omega); (try have hp1_r_2 : wr.heap.size < w1.heap.size + 1 + 1 := by omega); (try have hy1_0_0 : w.heap.size < w1.heap.size := by omega); (try have hn1_0_0 : w.heap.size ≠ w1.heap.size := by omega); (try have hm1_0_0 : w1.heap.size ≠ w.heap.size := by omega); (try have hy1_0_1 : w.heap.size + 1 < w1.heap.size := by omega); (try have hn1_0_1 : w.heap.size + 1 ≠ w1.heap.size := by omega); (try have hm1_0_1 : w1.heap.size ≠ w.heap.size + 1 := by omega); (try have hy1_0_2 : w.heap.size + 1 + 1 < w1.heap.size := by omega); (try have hp1_0_1 : w.heap.size < w1.heap.size + 1 := by omega); (try have hp1_0_2 : w.heap.size < w1.heap.size + 1 + 1 := by omega); (try have hg1_g1 : g1 < w1.heap.size := by omega); (try have hi1_g1 : g1 ≠ w1.heap.size := by omega); (try have hj1_g1 : w1.heap.size ≠ g1 := by omega); (try have hk1_g1 : g1 < w1.heap.size + 1 := by omega); (try have hg1_g2 : g2 < w1.heap.size := by omega); (try have hi1_g2 : g2 ≠ w1.heap.size := by omega); (try have hj1_g2 : w1.heap.size ≠ g2 := by omega); (try have hk1_g2 : g2 < w1.heap.size + 1 := by omega))
    go_ret2
    rw [E.out]
    exact ret_rnil' (by (repeat' (first | (with_reducible exact Below.refl _ _) | (with_reducible assumption) | (with_reducible refine Below.drew ?_) | (with_reducible refine belowDrewN ?_ _) | (with_reducible refine Below.alloc ?_ ?_ _) | (with_reducible refine Below.setCell ?_ ?_ _) | (with_reducible refine belowStep (by assumption) ?_ ?_) | (with_reducible exact Below.size (by assumption)) | go_size)))
  | true =>
    obtain ⟨hg, hle⟩ := atMostB_yes h
    have E := Lib.hid (gexO_one h)
    have HG := Lib.hid fun (w : World) => grFrom1_any 1 n d 24 w hg (by omega) (by omega) (by omega)
    go_enter Try.func105, Try.ntmps105
    go_wp2_with (go_at_call 169; refine (grAtMost_any _ _ _).mono ?_; rintro e w1 ⟨rfl, hb1⟩; obtain ⟨hc1, hf1⟩ := bcellB hb1; have hz1 := hb1.size; (try simp only [World.size_alloc] at hc1 hf1 hz1); (try have hy1_r_0 : wr.heap.size < w1.heap.size := by omega); (try have hn1_r_0 : wr.heap.size ≠ w1.heap.size := by omega); (try have hm1_r_0 : w1.heap.size ≠ wr.heap.size := by omega); (try have hy1_r_1 : wr.heap.size + 1 < w1.heap.size := by omega); (try have hn1_r_1 : wr.heap.size + 1 ≠ w1.heap.size := by omega); (try have hm1_r_1 : w1.heap.size ≠ wr.heap.size + 1 := by omega); (try have hy1_r_2 : wr.heap.size + 1 + 1 < w1.heap.size := by omega); (try have hp1_r_1 : wr.heap.size < w1.heap.size + 1 := by omega); (try have hp1_r_2 : wr.heap.size < w1.heap.size + 1 + 1 := by omega); (try have hy1_0_0 : w.heap.size < w1.heap.size := by omega); (try have hn1_0_0 : w.heap.size ≠ w1.heap.size := by omega); (try have hm1_0_0 : w1.heap.size ≠ w.heap.size := by omega); (try have hy1_0_1 : w.heap.size + 1 < w1.heap.size := by omega); (try have hn1_0_1 : w.heap.size + 1 ≠ w1.heap.size := by omega); (try have hm1_0_1 : w1.heap.size ≠ w.heap.size + 1 := by omega); (try have hy1_0_2 : w.heap.size + 1 + 1 < w1.heap.size := by omega); (try have hp1_0_1 : w.heap.size < w1.heap.size + 1 := by omega); (try have hp1_0_2 : w.heap.size < w1.heap.size + 1 + 1 := by omega); (try have hg1_g1 : g1 < w1.heap.size := by omega); (try have hi1_g1 : g1 ≠ w1.heap.size := by omega); (try have hj1_g1 : w1.heap.size ≠ g1 := by omega); (try have hk1_g1 : g1 < w1.heap.size + 1 := by omega); (try have hg1_g2 : g2 < w1.heap.size := by omega); (try have hi1_g2 : g2 ≠ w1.heap.size := by omega); (try have hj1_g2 : w1.heap.size ≠ g2 := by omega); (try have hk1_g2 : g2 < w1.heap.size + 1 := by omega))
    refine (HG.out _).mono ?_
    rintro e w2 ⟨A2, c2, rfl, hr2, hb2⟩
    go_wp2
    go_ret2
    rw [E.out]
    exact ⟨_, _, rfl, hr2, by (repeat' (first | (with_reducible exact Below.refl _ _) | (with_reducible assumption) | (with_reducible refine Below.drew ?_) | (with_reducible refine belowDrewN ?_ _) | (with_reducible refine Below.alloc ?_ ?_ _) | (with_reducible refine Below.setCell ?_ ?_ _) | (with_reducible refine belowStep (by assumption) ?_ ?_) | (with_reducible exact Below.size (by assumption)) | go_size))⟩
end Go.Proofs.Ytleookfdngnphaa


/-
  Plain facts on Sylvester's numbers.
-/
namespace Go.Proofs.Ytleookfdngnphaa
open Go.RowKit
theorem sq_grow {x : Int} (h : 2 ≤ x) : x + 1 ≤ x * (x - 1) + 1 := by
  have : 0 ≤ x * (x - 2) := Int.mul_nonneg (by omega) (by omega)
  have e : x * (x - 1) = x * (x - 2) + x := by grind
  omega
def syl : Nat → Int
  | 0 => 2
  | k + 1 => syl k * (syl k - 1) + 1
theorem syl_two : ∀ k, 2 ≤ syl k
  | 0 => by simp [syl]
  | k + 1 => by have := syl_two k; have := sq_grow this; simp only [syl]; omega
theorem syl6 : 1000000000 < syl 6 := by decide +kernel
theorem syl_next (k : Nat) : syl (k + 1) = syl k * (syl k - 1) + 1 := rfl
theorem syl_small : ∀ k, k ≤ 5 → syl k ≤ 3263443
  | 0, _ => by decide +kernel
  | 1, _ => by decide +kernel
  | 2, _ => by decide +kernel
  | 3, _ => by decide +kernel
  | 4, _ => by decide +kernel
  | 5, _ => by decide +kernel
  | k + 6, h => by omega
theorem syl_prod (k : Nat) (h : k ≤ 5) : 2 ≤ syl k * (syl k - 1) ∧ syl k * (syl k - 1) ≤ 10650056950806 := by
  have h1 := syl_two k
  have h2 := syl_small k h
  have h3 : syl k * (syl k - 1) ≤ 3263443 * 3263442 := Int.mul_le_mul h2 (by omega) (by omega) (by omega)
  have h4 : 2 * 1 ≤ syl k * (syl k - 1) := Int.mul_le_mul h1 (by omega) (by omega) (by omega)
  omega
/-- what the first k of them leave of 1 -/
theorem syl_gap (k : Nat) (h : k ≤ 4) : redB (1 * syl k - 1 * (syl k - 1)) ((syl k - 1) * syl k) = true ∧ (1 * syl k - 1 * (syl k - 1)) / gcdI (1 * syl k - 1 * (syl k - 1)) ((syl k - 1) * syl k) = 1 ∧ ((syl k - 1) * syl k) / gcdI (1 * syl k - 1 * (syl k - 1)) ((syl k - 1) * syl k) = syl (k + 1) - 1 := by
  match k, h with
  | 0, _ => decide +kernel
  | 1, _ => decide +kernel
  | 2, _ => decide +kernel
  | 3, _ => decide +kernel
  | 4, _ => decide +kernel
  | k + 5, h => omega
def sylN (k : Int) : Int := if 0 ≤ k ∧ k ≤ 5 then syl k.toNat else 0
def sylB (k : Int) : Bool := decide (0 ≤ k) && decide (k ≤ 5)
end Go.Proofs.Ytleookfdngnphaa


/-
  Plain facts on greedy lists: their terms grow, and they are expansions of what they were taken from.
-/
namespace Go.Proofs.Ytleookfdngnphaa
open Go.RowKit
/-- each term is greater than d (d - 1), d the one before it -/
def Gr : Int → List Int → Prop
  | _, [] => True
  | lo, x :: xs => lo ≤ x ∧ x ≤ 1000000000 ∧ Gr (x * (x - 1) + 1) xs
theorem Gr.mono {lo lo' : Int} {xs : List Int} (h : Gr lo xs) (hl : lo' ≤ lo) : Gr lo' xs := by
  cases xs with
  | nil => trivial
  | cons x xs => exact ⟨by have := h.1; omega, h.2⟩
theorem sq_mono {x y : Int} (hx : 1 ≤ x) (h : x ≤ y) : x * (x - 1) ≤ y * (y - 1) := Int.mul_le_mul h (by omega) (by omega) (by omega)
theorem Gr.rise {lo : Int} : ∀ {xs : List Int} {q : Int}, 2 ≤ lo → q < lo → 0 ≤ q → Gr lo xs → rise 1 1000000000 (some q) xs = true
  | [], _, _, _, _, _ => rise_nil _ _ _
  | x :: xs, q, h2, hq, _, hg => by
    obtain ⟨a, b, c⟩ := hg
    have := sq_grow (x := x) (by omega)
    rw [rise_next (by omega) b (by omega)]
    exact Gr.rise (lo := x * (x - 1) + 1) (by omega) (by omega) (by omega) c
theorem Gr.len : ∀ (k : Nat) {xs : List Int}, k ≤ 6 → Gr (syl k) xs → xs.length ≤ 6 - k
  | _, [], _, _ => by simp
  | k, x :: xs, hk, ⟨a, b, c⟩ => by
    have h6 := syl6
    have h2 := syl_two k
    have hlt : k < 6 := by
      rcases Nat.lt_or_ge k 6 with h | h
      · exact h
      · obtain rfl : k = 6 := by omega
        omega
    have hm : syl (k + 1) ≤ x * (x - 1) + 1 := by have := sq_mono (by omega : 1 ≤ syl k) a; simp only [syl]; omega
    have := Gr.len (k + 1) (by omega) (c.mono hm)
    simp only [List.length_cons]
    omega
/-- pairs in lowest terms that are the same number are the same pair -/
theorem cop_sameG {n d m e : Int} (d1 : 1 ≤ d) (e1 : 1 ≤ e) (g1 : gcdI n d = 1) (g2 : gcdI m e = 1) (hq : rq n d = rq m e) : n = m ∧ d = e := by
  have hx := eq_rq d1 e1 hq
  have a : d ∣ e := by
    have : d ∣ n * e := by rw [hx]; exact ⟨m, Int.mul_comm _ _⟩
    exact dvd_cop g1 this
  have b : e ∣ d := by
    have : e ∣ m * d := by rw [← hx]; exact ⟨n, Int.mul_comm _ _⟩
    exact dvd_cop g2 this
  have hde : d = e := by
    have := Int.le_of_dvd (by omega) a
    have := Int.le_of_dvd (by omega) b
    omega
  subst hde
  exact ⟨Int.eq_of_mul_eq_mul_right (by omega) hx, rfl⟩
/-- a number that is a fraction is small enough in whatever form -/
theorem redB_same {n d m e : Int} (hd : 1 ≤ d) (hg : goodB m e = true) (hq : rq n d = rq m e) : redB n d = true ∧ redN n d = m ∧ redD n d = e := by
  obtain ⟨m0, m1, e0, e1, g⟩ := (goodB_iff m e).1 hg
  have hgp := gcdI_pos n d (by omega)
  have hd2 := div_pos1 hd (by omega : 1 ≤ gcdI n d) (gcdI_dvdR n d)
  obtain ⟨a, b⟩ := cop_sameG hd2 e0 (gcdI_red hd) g ((red_q hd).trans hq)
  have hr : redB n d = true := redB_yes (by omega) (by omega)
  exact ⟨hr, by rw [redN, if_pos hr, a], by rw [redD, if_pos hr, b]⟩
theorem rq_step {p q x : Int} (hq : 1 ≤ q) (hx : 1 ≤ x) : rq (p * x + q) (q * x) = rq p q + 1 / (x : Rat) := by
  have h1 := ne0 hq
  have h2 := ne0 hx
  unfold rq
  simp only [Rat.intCast_add, Rat.intCast_mul]
  grind
/-- the sums on the way -/
theorem sumL_Gr {n d : Int} (hg : goodB n d = true) (hnd : n ≤ d) : ∀ {xs : List Int} {p q P lo : Int}, goodB p q = true → q ≤ P → 1 ≤ P → P < lo → 2 ≤ lo → Gr lo xs → rq p q + sumQ xs = rq n d → sumL p q xs = some (n, d)
  | [], p, q, P, lo, hpq, _, _, _, _, _, hs => by
    have : rq p q = rq n d := by rw [← hs]; simp only [sumQ]; grind
    obtain ⟨rfl, rfl⟩ := good_same hpq hg this
    rfl
  | x :: xs, p, q, P, lo, hpq, hqP, hP, hPl, h2, ⟨a, b, c⟩, hs => by
    obtain ⟨p0, p1, q0, q1⟩ := good_bounds hpq
    obtain ⟨n0, n1, d0, d1⟩ := good_bounds hg
    have hx : 1 ≤ x := by omega
    have hqx := mul_pos1 q0 hx
    have hst := rq_step (p := p) q0 hx
    have hs' : rq (p * x + q) (q * x) + sumQ xs = rq n d := by rw [hst, ← hs]; simp only [sumQ]; grind
    have hA : 0 ≤ p * x := Int.mul_nonneg p0 (by omega)
    have hall : ∀ {lo : Int} {zs : List Int}, 1 ≤ lo → Gr lo zs → ∀ z ∈ zs, 1 ≤ z := by
      intro lo zs
      induction zs generalizing lo with
      | nil => intro _ _ z hz; cases hz
      | cons y ys ih =>
        intro hl hgr z hz
        obtain ⟨e1, e2, e3⟩ := hgr
        rcases List.mem_cons.1 hz with rfl | hz
        · omega
        · exact ih (by have := Int.mul_nonneg (by omega : 0 ≤ y) (by omega : 0 ≤ y - 1); omega) e3 z hz
    have hle : p * x + q ≤ q * x := by
      have h3 := sumQ_nonneg (hall (by have := Int.mul_nonneg (by omega : 0 ≤ x) (by omega : 0 ≤ x - 1); omega) c)
      have h4 : rq (p * x + q) (q * x) ≤ rq n d := by rw [← hs']; grind
      have h5 := le_rq hqx d0 h4
      have h6 := Int.mul_le_mul_of_nonneg_right hnd (by omega : 0 ≤ q * x)
      rw [Int.mul_comm d] at h6
      exact Int.le_of_mul_le_mul_right (Int.le_trans h5 h6) (by omega)
    have hgp := gcdI_pos (p * x + q) (q * x) (by omega)
    have key : redB (p * x + q) (q * x) = true ∧ (xs = [] ∨ q * x ≤ x * (x - 1)) := by
      cases xs with
      | nil =>
        have : rq (p * x + q) (q * x) = rq n d := by rw [← hs']; simp only [sumQ]; grind
        exact ⟨(redB_same hqx hg this).1, .inl rfl⟩
      | cons y ys =>
        have h7 : q * x ≤ (x - 1) * x := Int.mul_le_mul_of_nonneg_right (by omega) (by omega)
        rw [Int.mul_comm (x - 1)] at h7
        have h8 := c.1
        have h9 := c.2.1
        refine ⟨redB_yes ?_ ?_, .inr h7⟩
        · have := Int.ediv_le_self (gcdI (p * x + q) (q * x)) (by omega : 0 ≤ p * x + q); omega
        · have := Int.ediv_le_self (gcdI (p * x + q) (q * x)) (by omega : 0 ≤ q * x); omega
    rw [sumL_yes key.1]
    have hg' := good_of_redB (by omega : 0 ≤ p * x + q) hqx key.1
    have hs2 : rq (redN (p * x + q) (q * x)) (redD (p * x + q) (q * x)) + sumQ xs = rq n d := by rw [redN_q hqx key.1]; exact hs'
    rcases key.2 with rfl | h7
    · have : rq (redN (p * x + q) (q * x)) (redD (p * x + q) (q * x)) = rq n d := by rw [← hs2]; simp only [sumQ]; grind
      obtain ⟨e1, e2⟩ := good_same hg' hg this
      rw [e1, e2]; rfl
    · refine sumL_Gr hg hnd (P := q * x) hg' ?_ hqx (by omega : q * x < x * (x - 1) + 1) (by have := sq_grow (x := x) (by omega); omega) c hs2
      rw [redD, if_pos key.1]
      exact Int.ediv_le_self _ (by omega)
theorem exp_Gr {n d : Int} {xs : List Int} (hg : goodB n d = true) (hnd : n ≤ d) (h : Gr 2 xs) (hs : sumQ xs = rq n d) : expB xs = true ∧ sumN xs = n ∧ sumD xs = d := by
  have hl := Gr.len 0 (by omega) h
  have hz : rq 0 1 = 0 := by unfold rq; simp only [Rat.intCast_zero, Rat.intCast_one]; grind
  have hs2 : rq 0 1 + sumQ xs = rq n d := by rw [hs, hz]; grind
  have h1 := sumL_Gr hg hnd good_zero (P := 1) (by omega) (by omega) (by omega : (1 : Int) < 2) (by omega) h hs2
  exact ⟨expB_yes (by omega) (by rw [← rise_zero (q := 0) (by omega)]; exact Gr.rise (by omega) (by omega) (by omega) h) h1, sumN_of h1, sumD_of h1⟩
theorem exp_one : expB [1] = true ∧ sumN [1] = 1 ∧ sumD [1] = 1 := by decide +kernel

/-- what a greedy walk leaves -/
theorem greedy_walk : ∀ (k : Nat) {l n d : Int} {es : List (Int × Int × Int)}, goodB n d = true → n < d → walkR (stG pick0) k l n d = some es →
    sumQ (takenOf es) = rq n d ∧ Gr (max 2 (if 1 ≤ n then ucd n d else 2)) (takenOf es)
  | 0, l, n, d, es, hg, hnd, h => by
    by_cases h0 : n ≤ 0
    · rw [walkR_end h0] at h
      injection h with h
      subst h
      have := good_bounds hg
      obtain rfl : n = 0 := by omega
      exact ⟨by simp [takenOf, sumQ, rq]; grind, trivial⟩
    · rw [walkR_out (by omega)] at h; cases h
  | k + 1, l, n, d, es, hg, hnd, h => by
    by_cases h0 : n ≤ 0
    · rw [walkR_end h0] at h
      injection h with h
      subst h
      have := good_bounds hg
      obtain rfl : n = 0 := by omega
      exact ⟨by simp [takenOf, sumQ, rq]; grind, trivial⟩
    · have hn : 0 < n := by omega
      obtain ⟨_, _, d1, _⟩ := good_bounds hg
      obtain ⟨u1, u2, u3, u4⟩ := ucd_facts (by omega : 1 ≤ n) d1
      cases hb : tB n d (ucd n d) with
      | false => rw [walkR_none hn (stG_no (p := pick0) hb)] at h; cases h
      | true =>
        have s1 := stG_yes (p := pick0) (l := l) (n := n) (d := d) hb
        have hp0 : pick0 l n d = ucd n d := rfl
        rw [hp0] at s1
        rw [walkR_some hn s1] at h
        cases hr : walkR (stG pick0) k (ucd n d + 1) (tN n d (ucd n d)) (tD n d (ucd n d)) with
        | none => rw [hr] at h; cases h
        | some es' =>
          rw [hr] at h
          injection h with h
          subst h
          have u5 : 2 ≤ ucd n d := by
            rcases (by omega : ucd n d = 1 ∨ 2 ≤ ucd n d) with h1 | h1
            · rw [h1] at u2; omega
            · exact h1
          have hg' := tB_good d1 u1 hb
          have hgb := good_bounds hg'
          have hlt : tN n d (ucd n d) < tD n d (ucd n d) := by
            obtain ⟨_, _, h3, _, h5, h6⟩ := tB_parts hb
            obtain ⟨hc, hd'⟩ := red_cross (mul_pos1 d1 u1) h3
            rw [← h5, ← h6] at hc
            have h7 : n * ucd n d - d < d * ucd n d := by
              have := Int.mul_le_mul_of_nonneg_right (by omega : n ≤ d) (by omega : 0 ≤ ucd n d)
              omega
            have h8 := Int.mul_lt_mul_of_pos_right h7 (by omega : 0 < tD n d (ucd n d))
            rw [← hc, Int.mul_comm (d * ucd n d)] at h8
            exact Int.lt_of_mul_lt_mul_right h8 (by have := mul_pos1 d1 u1; omega)
          obtain ⟨a, b⟩ := greedy_walk k hg' hlt hr
          have hsq := sq_grow u5
          refine ⟨?_, ?_⟩
          · show 1 / ((ucd n d : Int) : Rat) + sumQ (takenOf es') = rq n d
            rw [a, tN_q d1 u1 hb]
          · rw [if_pos (by omega)]
            refine ⟨by show max 2 (ucd n d) ≤ ucd n d; omega, (tB_parts hb).1, ?_⟩
            show Gr (ucd n d * (ucd n d - 1) + 1) (takenOf es')
            by_cases h1 : 1 ≤ tN n d (ucd n d)
            · have := grow_step hg (by omega) hb h1
              refine b.mono ?_
              rw [if_pos h1]
              omega
            · rw [walkR_end (by omega)] at hr
              injection hr with hr
              subst hr
              trivial
/-- a greedy walk from at most 1 that ends has taken an expansion of where it began -/
theorem greedy_exp {k : Nat} {l n d : Int} {es : List (Int × Int × Int)} (hg : goodB n d = true) (hnd : n ≤ d) (h : walkR (stG pick0) k l n d = some es) : expB (takenOf es) = true ∧ sumN (takenOf es) = n ∧ sumD (takenOf es) = d := by
  by_cases h1 : n < d
  · obtain ⟨a, b⟩ := greedy_walk k hg h1 h
    exact exp_Gr hg hnd (b.mono (by omega)) a
  · obtain rfl : n = d := by omega
    have hg1 := ((goodB_iff n n).1 hg).2.2
    have hn1 : n = 1 := by
      have : gcdI n n = n := by unfold gcdI; rw [Int.gcd_self]; omega
      omega
    subst hn1
    cases k with
    | zero => rw [walkR_out (by omega)] at h; cases h
    | succ k =>
      have e1 : stG pick0 l 1 1 = some (1, 0, 1) := by
        show stG pick0 0 1 1 = _
        decide +kernel
      rw [walkR_some (by omega) e1, walkR_end (by omega)] at h
      injection h with h
      subst h
      exact exp_one
end Go.Proofs.Ytleookfdngnphaa


/-
  Plain facts on the steps of Engel and of Pierce lists.
-/
namespace Go.Proofs.Ytleookfdngnphaa
open Go.RowKit
def stE : Stp := fun _ n d => some (ucd n d, redN (n * ucd n d - d) d, redD (n * ucd n d - d) d)
def stP : Stp := fun _ n d => some (d / n, redN (d - n * (d / n)) d, redD (d - n * (d / n)) d)
/-- small parts are small in lowest terms, too -/
theorem redB_small {n d : Int} (hn : 0 ≤ n) (hn2 : n ≤ 1000000000) (hd : 1 ≤ d) (hd2 : d ≤ 1000000000) : redB n d = true := by
  have hg := gcdI_pos n d (by omega)
  exact redB_yes (by have := Int.ediv_le_self (gcdI n d) hn; omega) (by have := Int.ediv_le_self (gcdI n d) (by omega : 0 ≤ d); omega)
theorem stE_facts {n d : Int} (hg : goodB n d = true) (hn : 1 ≤ n) :
    (1 ≤ ucd n d ∧ ucd n d ≤ d) ∧ (0 ≤ n * ucd n d - d ∧ n * ucd n d - d < n) ∧ redB (n * ucd n d - d) d = true ∧ goodB (redN (n * ucd n d - d) d) (redD (n * ucd n d - d) d) = true ∧ redN (n * ucd n d - d) d < n := by
  obtain ⟨_, n2, d1, d2⟩ := good_bounds hg
  obtain ⟨u1, u2, u3, u4⟩ := ucd_facts hn d1
  have hb := redB_small (n := n * ucd n d - d) (by omega) (by omega) d1 d2
  have hl := red_le (n := n * ucd n d - d) (d := d) (by omega) d1
  exact ⟨⟨u1, u4⟩, ⟨by omega, by omega⟩, hb, good_of_redB (by omega) d1 hb, by omega⟩
theorem stP_facts {n d : Int} (hg : goodB n d = true) (hn : 1 ≤ n) :
    (0 ≤ d / n ∧ d / n ≤ d) ∧ (0 ≤ d - n * (d / n) ∧ d - n * (d / n) < n) ∧ redB (d - n * (d / n)) d = true ∧ goodB (redN (d - n * (d / n)) d) (redD (d - n * (d / n)) d) = true ∧ redN (d - n * (d / n)) d < n := by
  obtain ⟨_, n2, d1, d2⟩ := good_bounds hg
  have h1 : n * (d / n) + d % n = d := Int.mul_ediv_add_emod _ _
  have h2 := Int.emod_nonneg d (by omega : n ≠ 0)
  have h3 := Int.emod_lt_of_pos d (by omega : 0 < n)
  have h4 := Int.ediv_nonneg (by omega : 0 ≤ d) (by omega : 0 ≤ n)
  have h5 := Int.ediv_le_self n (by omega : 0 ≤ d)
  have hb := redB_small (n := d - n * (d / n)) (by omega) (by omega) d1 d2
  have hl := red_le (n := d - n * (d / n)) (d := d) (by omega) d1
  exact ⟨⟨h4, h5⟩, ⟨by omega, by omega⟩, hb, good_of_redB (by omega) d1 hb, by omega⟩
/-- a walk with more steps allowed -/
theorem walkR_more {st : Stp} : ∀ {k : Nat} {l n d : Int} {es : List (Int × Int × Int)}, walkR st k l n d = some es → walkR st (k + 1) l n d = some es ∧ es.length ≤ k
  | 0, l, n, d, es, h => by
    by_cases h0 : n ≤ 0
    · rw [walkR_end h0] at h ⊢
      injection h with h
      subst h
      exact ⟨rfl, Nat.le_refl _⟩
    · rw [walkR_out (by omega)] at h; cases h
  | k + 1, l, n, d, es, h => by
    by_cases h0 : n ≤ 0
    · rw [walkR_end h0] at h ⊢
      injection h with h
      subst h
      exact ⟨rfl, Nat.zero_le _⟩
    · have hn : 0 < n := by omega
      cases hs : st l n d with
      | none => rw [walkR_none hn hs] at h; cases h
      | some p =>
        obtain ⟨t, n', d'⟩ := p
        rw [walkR_some hn hs] at h ⊢
        cases hr : walkR st k (t + 1) n' d' with
        | none => rw [hr] at h; cases h
        | some es' =>
          rw [hr] at h
          injection h with h
          subst h
          obtain ⟨a, b⟩ := walkR_more hr
          rw [a]
          exact ⟨rfl, by simp; omega⟩
theorem walkR_less {st : Stp} {k : Nat} {l n d : Int} (h : walkR st (k + 1) l n d = none) : walkR st k l n d = none := by
  cases hr : walkR st k l n d with
  | none => rfl
  | some es => rw [(walkR_more hr).1] at h; cases h
theorem walkR_long {st : Stp} {k : Nat} {l n d : Int} {es : List (Int × Int × Int)} (h : walkR st (k + 1) l n d = some es) (hl : es.length = k + 1) : walkR st k l n d = none := by
  cases hr : walkR st k l n d with
  | none => rfl
  | some es' =>
    obtain ⟨a, b⟩ := walkR_more hr
    rw [a] at h
    injection h with h
    subst h
    omega
theorem walkR_fit {st : Stp} : ∀ {k : Nat} {l n d : Int} {es : List (Int × Int × Int)}, walkR st (k + 1) l n d = some es → es.length ≤ k → walkR st k l n d = some es
  | 0, l, n, d, es, h, hl => by
    by_cases h0 : n ≤ 0
    · rw [walkR_end h0] at h ⊢; exact h
    · have hn : 0 < n := by omega
      cases hs : st l n d with
      | none => rw [walkR_none hn hs] at h; cases h
      | some p =>
        obtain ⟨t, n', d'⟩ := p
        rw [walkR_some hn hs] at h
        cases hr : walkR st 0 (t + 1) n' d' with
        | none => rw [hr] at h; cases h
        | some es' =>
          rw [hr] at h
          injection h with h
          subst h
          simp at hl
  | k + 1, l, n, d, es, h, hl => by
    by_cases h0 : n ≤ 0
    · rw [walkR_end h0] at h ⊢; exact h
    · have hn : 0 < n := by omega
      cases hs : st l n d with
      | none => rw [walkR_none hn hs] at h; cases h
      | some p =>
        obtain ⟨t, n', d'⟩ := p
        rw [walkR_some hn hs] at h ⊢
        cases hr : walkR st (k + 1) (t + 1) n' d' with
        | none => rw [hr] at h; cases h
        | some es' =>
          rw [hr] at h
          injection h with h
          subst h
          rw [walkR_fit hr (by simp at hl; omega)]
          rfl
end Go.Proofs.Ytleookfdngnphaa
