import Derived.Test.YtbjblkfibinenadGreatDoorPk13
import Derived.Test.YtbjblkfibinenadGreatDoorPk2
import Derived.Maps.Own
import Derived.Maps.OwnOps
import Derived.Shelf.Small.Bits
import Derived.Shelf.Small.Wraps
import Derived.Shelf.Strconv.Itoa0
import Derived.Shelf.Sort.Plain
import Derived.Shelf.Bits.Mul64
import Derived.Shelf.Slices.Turned
import Derived.Ground.Names2Prog
import Derived.Shelf.Slices.SearchI
import Derived.Shelf.Slices.Delete
import Derived.Shelf.Slices.Cells
import Derived.Shelf.Slices.In.SortNone
import Derived.Shelf.Slices.Empties
import Derived.Test.YtbjblkfibinenadGreatDoorProg
import Derived.Test.YtbjblkfibinenadGreatDoorPk6
import Derived.Test.YtbjblkfibinenadGreatDoorPk8

/-
  Contracts of greedy expansions in the program and in the model.
-/
namespace Go.Proofs.YtbjblkfibinenadGreatDoor
open Go.RowKit
theorem RetLO.below {o : Option (List Int)} {w w' : World} {e : Ending} (h : RetLO o none w e w') : RetLB (o.getD []) o.isSome w e w' := by
  obtain ⟨v, h1, h2, h3⟩ := h
  exact ⟨v, h1, h2, (Below.refl _ _).grown h3 (Nat.le_refl _) (by simp)⟩
theorem small_G {p : Int → Int → Int → Int} (hp : ∀ l n d, goodB n d = true → 1 ≤ n → 0 ≤ l → 1 ≤ p l n d) : Small (stG p) := by
  intro l n d t n' d' hg hn hl h
  obtain ⟨h1, h2, h3, h4⟩ := stG_some h
  have := hp l n d hg hn hl
  obtain ⟨_, _, d1, _⟩ := good_bounds hg
  subst h1
  rw [h3, h4]
  exact ⟨by omega, (tB_parts h2).1, tB_good d1 this h2⟩
theorem small_G0 : Small (stG pick0) := small_G fun _ _ _ hg hn _ => (ucd_facts hn (good_bounds hg).2.2.1).1
theorem small_G1 : Small (stG pick1) := small_G fun l n d hg hn _ => by have := (ucd_facts hn (good_bounds hg).2.2.1).1; unfold pick1; omega
/-- the greedy expansion, if there is one -/
def gexO (n d : Int) : Option (List Int) := if atMostB n d = true then lstO (stG pick0) expB 24 0 n d else none
theorem gexO_len (n d : Int) : ((gexO n d).getD []).length ≤ 24 := by
  unfold gexO
  split
  · cases h : walkR (stG pick0) 24 0 n d with
    | none => rw [lstO_none h]; simp
    | some es =>
      cases hk : expB (takenOf es) with
      | true => rw [lstO_yes h hk]; show (takenOf es).length ≤ 24; exact expB_len hk
      | false => rw [lstO_no h hk]; simp
  · simp
theorem greedyStep_R (l n d : Int) (w : World) (hg : goodB n d = true) (hn : 1 ≤ n) : Calls Tryz.prog 29 (#[.agg #[.int .i64 n, .int .i64 d]] ++ #[]) w (StepR (stG pick0) (fun _ _ => True) none l n d w) := by
  rw [Array.append_empty]
  refine (greedyStep_yes n d w (by simp [stepB, hg]; omega)).mono ?_
  rintro e w' ⟨rfl, hb⟩
  obtain ⟨_, _, d1, _⟩ := good_bounds hg
  obtain ⟨u1, u2, u3, u4⟩ := ucd_facts hn d1
  refine ⟨grownBelow (World.grownBy.refl _ _) (Nat.le_refl _) hb, _, _, _, _, rfl, fun h => ?_, fun h => stG_no (p := pick0) h⟩
  obtain ⟨h1, _, _, h4, _⟩ := tB_parts h
  refine ⟨?_, trivial, tB_good d1 u1 h, by rw [h4]; omega, by rw [h4]; exact h1⟩
  rw [h4]
  exact stG_yes (p := pick0) (l := l) h
theorem readSum (w : World) (A : Option Addr) (c : Nat) (xs : List Int) (h : Reads w A xs) (hl : xs.length ≤ 24) (h64 : In64 xs) : Calls Tryz.prog 30 #[.slice A xs.length c] w (fun e w' => ∃ p q : Int, e = .returned (.tuple #[.agg #[.int .i64 p, .int .i64 q], .bool (expB xs)]) ∧ Below w.heap.size w w') := by
  refine (sumOf_any w A c xs h (by omega) h64).mono ?_
  rintro e w' ⟨rfl, hb⟩
  exact ⟨_, _, rfl, hb⟩
set_option maxRecDepth 100000 in
set_option maxHeartbeats 4000000 in
theorem greedyExp_any (n d : Int) (w : World) (rn : -9223372036854775808 ≤ n ∧ n ≤ 9223372036854775807) (rd : -9223372036854775808 ≤ d ∧ d ≤ 9223372036854775807) : Calls Tryz.prog 17 #[.agg #[.int .i64 n, .int .i64 d]] w (RetLB ((gexO n d).getD []) (gexO n d).isSome w) := by
  cases h : atMostB n d with
  | false =>
    have E : Hid (gexO n d = none) := Lib.hid (by unfold gexO; rw [h]; rfl)
    cases hg : goodB n d with
    | false =>
      go_enter Tryz.func17, Tryz.ntmps17
      go_wp2_with (go_at_call 27; refine (isFraction_any _ _ _ (by omega) (by omega) (by omega) (by omega)).mono ?_; rintro e w1 ⟨rfl, hb1⟩; obtain ⟨hc1, hf1⟩ := bcellB hb1; have hz1 := hb1.size; (try simp only [World.size_alloc] at hc1 hf1 hz1); (try have hy1_r_0 : wr.heap.size < w1.heap.size := by omega); (try have hn1_r_0 : wr.heap.size ≠ w1.heap.size := by omega); (try have hm1_r_0 : w1.heap.size ≠ wr.heap.size := by omega); (try have hy1_r_1 : wr.heap.size + 1 < w1.heap.size := by omega); (try have hn1_r_1 : wr.heap.size + 1 ≠ w1.heap.size := by omega); (try have hm1_r_1 : w1.heap.size ≠ wr.heap.size + 1 := by omega); (try have hy1_r_2 : wr.heap.size + 1 + 1 < w1.heap.size := by omega); (try have hp1_r_1 : wr.heap.size < w1.heap.size + 1 := by omega); (try have hp1_r_2 : wr.heap.size < w1.heap.size + 1 + 1 := by omega); (try have hy1_0_0 : w.heap.size < w1.heap.size := by omega); (try have hn1_0_0 : w.heap.size ≠ w1.heap.size := by omega); (try have hm1_0_0 : w1.heap.size ≠ w.heap.size := by omega); (try have hy1_0_1 : w.heap.size + 1 < w1.heap.size := by omega); (try have hn1_0_1 : w.heap.size + 1 ≠ w1.heap.size := by omega); (try have hm1_0_1 : w1.heap.size ≠ w.heap.size + 1 := by omega); (try have hy1_0_2 : w.heap.size + 1 + 1 < w1.heap.size := by omega); (try have hp1_0_1 : w.heap.size < w1.heap.size + 1 := by omega); (try have hp1_0_2 : w.heap.size < w1.heap.size + 1 + 1 := by omega); (try have hg1_g1 : g1 < w1.heap.size := by omega); (try have hi1_g1 : g1 ≠ w1.heap.size := by omega); (try have hj1_g1 : w1.heap.size ≠ g1 := by omega); (try have hk1_g1 : g1 < w1.heap.size + 1 := by omega); (try have hg1_g2 : g2 < w1.heap.size := by omega); (try have hi1_g2 : g2 ≠ w1.heap.size := by omega); (try have hj1_g2 : w1.heap.size ≠ g2 := by omega); (try have hk1_g2 : g2 < w1.heap.size + 1 := by omega))
      go_ret2
      rw [E.out]
      exact ⟨_, rfl, OwnI.empty _ _, by (repeat' (first | (with_reducible exact Below.refl _ _) | (with_reducible assumption) | (with_reducible refine Below.drew ?_) | (with_reducible refine belowDrewN ?_ _) | (with_reducible refine Below.alloc ?_ ?_ _) | (with_reducible refine Below.setCell ?_ ?_ _) | (with_reducible refine belowStep (by assumption) ?_ ?_) | (with_reducible exact Below.size (by assumption)) | go_size))⟩
    | true =>
      have hlt : d < n := by
        simp only [atMostB, hg, Bool.true_and, decide_eq_false_iff_not] at h
        omega
      clear h
      go_enter Tryz.func17, Tryz.ntmps17
      go_wp2_with (go_at_call 27; refine (isFraction_any _ _ _ (by omega) (by omega) (by omega) (by omega)).mono ?_; rintro e w1 ⟨rfl, hb1⟩; obtain ⟨hc1, hf1⟩ := bcellB hb1; have hz1 := hb1.size; (try simp only [World.size_alloc] at hc1 hf1 hz1); (try have hy1_r_0 : wr.heap.size < w1.heap.size := by omega); (try have hn1_r_0 : wr.heap.size ≠ w1.heap.size := by omega); (try have hm1_r_0 : w1.heap.size ≠ wr.heap.size := by omega); (try have hy1_r_1 : wr.heap.size + 1 < w1.heap.size := by omega); (try have hn1_r_1 : wr.heap.size + 1 ≠ w1.heap.size := by omega); (try have hm1_r_1 : w1.heap.size ≠ wr.heap.size + 1 := by omega); (try have hy1_r_2 : wr.heap.size + 1 + 1 < w1.heap.size := by omega); (try have hp1_r_1 : wr.heap.size < w1.heap.size + 1 := by omega); (try have hp1_r_2 : wr.heap.size < w1.heap.size + 1 + 1 := by omega); (try have hy1_0_0 : w.heap.size < w1.heap.size := by omega); (try have hn1_0_0 : w.heap.size ≠ w1.heap.size := by omega); (try have hm1_0_0 : w1.heap.size ≠ w.heap.size := by omega); (try have hy1_0_1 : w.heap.size + 1 < w1.heap.size := by omega); (try have hn1_0_1 : w.heap.size + 1 ≠ w1.heap.size := by omega); (try have hm1_0_1 : w1.heap.size ≠ w.heap.size + 1 := by omega); (try have hy1_0_2 : w.heap.size + 1 + 1 < w1.heap.size := by omega); (try have hp1_0_1 : w.heap.size < w1.heap.size + 1 := by omega); (try have hp1_0_2 : w.heap.size < w1.heap.size + 1 + 1 := by omega); (try have hg1_g1 : g1 < w1.heap.size := by omega); (try have hi1_g1 : g1 ≠ w1.heap.size := by omega); (try have hj1_g1 : w1.heap.size ≠ g1 := by omega); (try have hk1_g1 : g1 < w1.heap.size + 1 := by omega); (try have hg1_g2 : g2 < w1.heap.size := by omega); (try have hi1_g2 : g2 ≠ w1.heap.size := by omega); (try have hj1_g2 : w1.heap.size ≠ g2 := by omega); (try have hk1_g2 : g2 < w1.heap.size + 1 := by omega))
      go_ret2
      rw [E.out]
      exact ⟨_, rfl, OwnI.empty _ _, by (repeat' (first | (with_reducible exact Below.refl _ _) | (with_reducible assumption) | (with_reducible refine Below.drew ?_) | (with_reducible refine belowDrewN ?_ _) | (with_reducible refine Below.alloc ?_ ?_ _) | (with_reducible refine Below.setCell ?_ ?_ _) | (with_reducible refine belowStep (by assumption) ?_ ?_) | (with_reducible exact Below.size (by assumption)) | go_size))⟩
  | true =>
    obtain ⟨hg, hle⟩ := atMostB_yes h
    have E : Hid (gexO n d = lstO (stG pick0) expB 24 0 n d) := Lib.hid (by unfold gexO; rw [if_pos h])
    have HL := Lib.hid fun (w : World) => listBy_any 29 30 #[] (stG pick0) expB (fun _ _ => True) none 0 n d w (by simp) (fun _ _ _ _ _ => trivial) (fun _ _ => rfl) (fun _ _ => rfl) (fun l n d w1 hg hn _ _ _ => greedyStep_R l n d w1 hg hn) small_G0 readSum hg (by omega) (by omega) trivial
    clear h
    go_enter Tryz.func17, Tryz.ntmps17
    go_wp2_with (go_at_call 27; refine (isFraction_any _ _ _ (by omega) (by omega) (by omega) (by omega)).mono ?_; rintro e w1 ⟨rfl, hb1⟩; obtain ⟨hc1, hf1⟩ := bcellB hb1; have hz1 := hb1.size; (try simp only [World.size_alloc] at hc1 hf1 hz1); (try have hy1_r_0 : wr.heap.size < w1.heap.size := by omega); (try have hn1_r_0 : wr.heap.size ≠ w1.heap.size := by omega); (try have hm1_r_0 : w1.heap.size ≠ wr.heap.size := by omega); (try have hy1_r_1 : wr.heap.size + 1 < w1.heap.size := by omega); (try have hn1_r_1 : wr.heap.size + 1 ≠ w1.heap.size := by omega); (try have hm1_r_1 : w1.heap.size ≠ wr.heap.size + 1 := by omega); (try have hy1_r_2 : wr.heap.size + 1 + 1 < w1.heap.size := by omega); (try have hp1_r_1 : wr.heap.size < w1.heap.size + 1 := by omega); (try have hp1_r_2 : wr.heap.size < w1.heap.size + 1 + 1 := by omega); (try have hy1_0_0 : w.heap.size < w1.heap.size := by omega); (try have hn1_0_0 : w.heap.size ≠ w1.heap.size := by omega); (try have hm1_0_0 : w1.heap.size ≠ w.heap.size := by omega); (try have hy1_0_1 : w.heap.size + 1 < w1.heap.size := by omega); (try have hn1_0_1 : w.heap.size + 1 ≠ w1.heap.size := by omega); (try have hm1_0_1 : w1.heap.size ≠ w.heap.size + 1 := by omega); (try have hy1_0_2 : w.heap.size + 1 + 1 < w1.heap.size := by omega); (try have hp1_0_1 : w.heap.size < w1.heap.size + 1 := by omega); (try have hp1_0_2 : w.heap.size < w1.heap.size + 1 + 1 := by omega); (try have hg1_g1 : g1 < w1.heap.size := by omega); (try have hi1_g1 : g1 ≠ w1.heap.size := by omega); (try have hj1_g1 : w1.heap.size ≠ g1 := by omega); (try have hk1_g1 : g1 < w1.heap.size + 1 := by omega); (try have hg1_g2 : g2 < w1.heap.size := by omega); (try have hi1_g2 : g2 ≠ w1.heap.size := by omega); (try have hj1_g2 : w1.heap.size ≠ g2 := by omega); (try have hk1_g2 : g2 < w1.heap.size + 1 := by omega))
    refine (HL.out _).mono ?_
    intro e w2 h2
    obtain ⟨v2, rfl, ho2, hb2⟩ := h2.below
    go_wp2
    go_ret2
    rw [E.out]
    exact ⟨_, rfl, ho2.mono (by (first | (go_size; done) | ((try simp only [World.size_alloc, World.size_setCell, World.size_drew, World.heap_drewN]); omega))), by (repeat' (first | (with_reducible exact Below.refl _ _) | (with_reducible assumption) | (with_reducible refine Below.drew ?_) | (with_reducible refine belowDrewN ?_ _) | (with_reducible refine Below.alloc ?_ ?_ _) | (with_reducible refine Below.setCell ?_ ?_ _) | (with_reducible refine belowStep (by assumption) ?_ ?_) | (with_reducible exact Below.size (by assumption)) | go_size))⟩
theorem gexO_one {n d : Int} (h : atMostB n d = true) : gexO n d = lstO (stG pick1) expB 24 1 n d := by
  obtain ⟨hg, hle⟩ := atMostB_yes h
  unfold gexO
  rw [if_pos h]
  unfold lstO
  rw [walk_pick 24 (l := 1) (l' := 0) hg hle (fun hn => (ucd_facts hn (good_bounds hg).2.2.1).1)]
set_option maxHeartbeats 2000000 in
theorem spec_greedyExp_any (n d : Int) (w : World) : Calls Tryz.prog 34 #[.agg #[.int .i64 n, .int .i64 d]] w (RetRB ((gexO n d).getD []) (gexO n d).isSome w) := by
  cases h : atMostB n d with
  | false =>
    have E : Hid (gexO n d = none) := Lib.hid (by unfold gexO; rw [h]; rfl)
    go_enter Tryz.func34, Tryz.ntmps34
    go_wp2_with (go_at_call 58; refine (grAtMost_any _ _ _).mono ?_; rintro e w1 ⟨rfl, hb1⟩; obtain ⟨hc1, hf1⟩ := bcellB hb1; have hz1 := hb1.size; (try simp only [World.size_alloc] at hc1 hf1 hz1); (try have hy1_r_0 : wr.heap.size < w1.heap.size := by omega); (try have hn1_r_0 : wr.heap.size ≠ w1.heap.size := by omega); (try have hm1_r_0 : w1.heap.size ≠ wr.heap.size := by omega); (try have hy1_r_1 : wr.heap.size + 1 < w1.heap.size := by omega); (try have hn1_r_1 : wr.heap.size + 1 ≠ w1.heap.size := by omega); (try have hm1_r_1 : w1.heap.size ≠ wr.heap.size + 1 := by omega); (try have hy1_r_2 : wr.heap.size + 1 + 1 < w1.heap.size := by omega); (try have hp1_r_1 : wr.heap.size < w1.heap.size + 1 := by omega); (try have hp1_r_2 : wr.heap.size < w1.heap.size + 1 + 1 := by omega); (try have hy1_0_0 : w.heap.size < w1.heap.size := by omega); (try have hn1_0_0 : w.heap.size ≠ w1.heap.size := by omega); (try have hm1_0_0 : w1.heap.size ≠ w.heap.size := by omega); (try have hy1_0_1 : w.heap.size + 1 < w1.heap.size := by omega); (try have hn1_0_1 : w.heap.size + 1 ≠ w1.heap.size := by omega); (try have hm1_0_1 : w1.heap.size ≠ w.heap.size + 1 := by omega); (try have hy1_0_2 : w.heap.size + 1 + 1 < w1.heap.size := by omega); (try have hp1_0_1 : w.heap.size < w1.heap.size + 1 := by omega); (try have hp1_0_2 : w.heap.size < w1.heap.size + 1 + 1 := by omega); (try have hg1_g1 : g1 < w1.heap.size := by omega); (try have hi1_g1 : g1 ≠ w1.heap.size := by omega); (try have hj1_g1 : w1.heap.size ≠ g1 := by omega); (try have hk1_g1 : g1 < w1.heap.size + 1 := by omega); (try have hg1_g2 : g2 < w1.heap.size := by omega); (try have hi1_g2 : g2 ≠ w1.heap.size := by omega); (try have hj1_g2 : w1.heap.size ≠ g2 := by omega); (try have hk1_g2 : g2 < w1.heap.size + 1 := by omega))
    go_ret2
    rw [E.out]
    exact ret_rnil' (by (repeat' (first | (with_reducible exact Below.refl _ _) | (with_reducible assumption) | (with_reducible refine Below.drew ?_) | (with_reducible refine belowDrewN ?_ _) | (with_reducible refine Below.alloc ?_ ?_ _) | (with_reducible refine Below.setCell ?_ ?_ _) | (with_reducible refine belowStep (by assumption) ?_ ?_) | (with_reducible exact Below.size (by assumption)) | go_size)))
  | true =>
    obtain ⟨hg, hle⟩ := atMostB_yes h
    have E := Lib.hid (gexO_one h)
    have HG := Lib.hid fun (w : World) => grFrom1_any 1 n d 24 w hg (by omega) (by omega) (by omega)
    go_enter Tryz.func34, Tryz.ntmps34
    go_wp2_with (go_at_call 58; refine (grAtMost_any _ _ _).mono ?_; rintro e w1 ⟨rfl, hb1⟩; obtain ⟨hc1, hf1⟩ := bcellB hb1; have hz1 := hb1.size; (try simp only [World.size_alloc] at hc1 hf1 hz1); (try have hy1_r_0 : wr.heap.size < w1.heap.size := by omega); (try have hn1_r_0 : wr.heap.size ≠ w1.heap.size := by omega); (try have hm1_r_0 : w1.heap.size ≠ wr.heap.size := by omega); (try have hy1_r_1 : wr.heap.size + 1 < w1.heap.size := by omega); (try have hn1_r_1 : wr.heap.size + 1 ≠ w1.heap.size := by omega); (try have hm1_r_1 : w1.heap.size ≠ wr.heap.size + 1 := by omega); (try have hy1_r_2 : wr.heap.size + 1 + 1 < w1.heap.size := by omega); (try have hp1_r_1 : wr.heap.size < w1.heap.size + 1 := by omega); (try have hp1_r_2 : wr.heap.size < w1.heap.size + 1 + 1 := by omega); (try have hy1_0_0 : w.heap.size < w1.heap.size := by omega); (try have hn1_0_0 : w.heap.size ≠ w1.heap.size := by omega); (try have hm1_0_0 : w1.heap.size ≠ w.heap.size := by omega); (try have hy1_0_1 : w.heap.size + 1 < w1.heap.size := by omega); (try have hn1_0_1 : w.heap.size + 1 ≠ w1.heap.size := by omega); (try have hm1_0_1 : w1.heap.size ≠ w.heap.size + 1 := by omega); (try have hy1_0_2 : w.heap.size + 1 + 1 < w1.heap.size := by omega); (try have hp1_0_1 : w.heap.size < w1.heap.size + 1 := by omega); (try have hp1_0_2 : w.heap.size < w1.heap.size + 1 + 1 := by omega); (try have hg1_g1 : g1 < w1.heap.size := by omega); (try have hi1_g1 : g1 ≠ w1.heap.size := by omega); (try have hj1_g1 : w1.heap.size ≠ g1 := by omega); (try have hk1_g1 : g1 < w1.heap.size + 1 := by omega); (try have hg1_g2 : g2 < w1.heap.size := by omega); (try have hi1_g2 : g2 ≠ w1.heap.size := by omega); (try have hj1_g2 : w1.heap.size ≠ g2 := by omega); (try have hk1_g2 : g2 < w1.heap.size + 1 := by omega))
    refine (HG.out _).mono ?_
    rintro e w2 ⟨A2, c2, rfl, hr2, hb2⟩
    go_wp2
    go_ret2
    rw [E.out]
    exact ⟨_, _, rfl, hr2, by (repeat' (first | (with_reducible exact Below.refl _ _) | (with_reducible assumption) | (with_reducible refine Below.drew ?_) | (with_reducible refine belowDrewN ?_ _) | (with_reducible refine Below.alloc ?_ ?_ _) | (with_reducible refine Below.setCell ?_ ?_ _) | (with_reducible refine belowStep (by assumption) ?_ ?_) | (with_reducible exact Below.size (by assumption)) | go_size))⟩
end Go.Proofs.YtbjblkfibinenadGreatDoor


/-
  The map of methods that the program makes: what a name leads to.
-/
namespace Go.Proofs.YtbjblkfibinenadGreatDoor
open Go.RowKit
open Go.Maps Go.WideMaps
/-- a method's value reads as the number of its type -/
def mR (v : Value) : Option (DataW Unit × List MemPlace) := match v with
  | .iface t (.agg cs) => if cs.size = 0 then some (.lit (.int .i64 ((t : Nat) : Int)), []) else none
  | _ => none
theorem mR_mk (t : Nat) : mR (.iface t (.agg #[])) = some (.lit (.int .i64 (t : Int)), []) := rfl
theorem mR_inv {v : Value} {t : Nat} {ps : List MemPlace} (h : mR v = some (.lit (.int .i64 (t : Int)), ps)) : v = .iface t (.agg #[]) := by
  unfold mR at h
  split at h
  · rename_i t' cs
    split at h
    · rename_i hs
      have hcs : cs = #[] := Array.eq_empty_of_size_eq_zero hs
      subst hcs
      simp only [Option.some.injEq, Prod.mk.injEq, DataW.lit.injEq, Lit.int.injEq] at h
      obtain ⟨⟨_, h2⟩, _⟩ := h
      have : t' = t := Int.ofNat_inj.1 h2
      rw [this]
    · cases h
  · cases h
theorem keyLaw : Keyed Tryz.prog 9 := Go.Maps.string_keyed Tryz.underlying9
def nameL (l : List UInt8) : Value := .string ⟨l.toArray⟩
def mD : DataW Unit := ((((((((DataW.map []).put (.string [103, 114, 101, 101, 100, 121]) (.lit (.int .i64 78))).put (.string [103, 111, 108, 111, 109, 98]) (.lit (.int .i64 79))).put (.string [98, 105, 110, 97, 114, 121]) (.lit (.int .i64 80))).put (.string [102, 97, 99, 116, 111, 114, 105, 97, 108]) (.lit (.int .i64 81))).put (.string [112, 97, 105, 114]) (.lit (.int .i64 82))).put (.string [115, 112, 108, 105, 116]) (.lit (.int .i64 83))).put (.string [101, 110, 103, 101, 108]) (.lit (.int .i64 84)))
theorem look_meth {w : World} {b n : Nat} {D : DataW Unit} (h : w.ownsMap Tryz.prog 9 mR b n D) {s : ByteArray} (hs : s.size ≤ maxLen) (T : Nat) (hD : ∀ zd, D.atKey (.string s.data.toList) zd = .lit (.int .i64 (T : Int)))
    (hz : (zeroValue 52).run Tryz.prog w = .ok .nilIface w) :
    (Instr.lookup 54 (.map (some b)) (.string s) true).run Tryz.prog w = .ok (.tuple #[.iface T (.agg #[]), .bool true]) w := by
  obtain ⟨es, clock, hb, F, _, rfl⟩ := h
  rcases Go.Maps.fit_look true keyLaw Tryz.underlying54 hz hb F (keyOf_string_mk Tryz.underlying9 hs) with ⟨_, _, hat⟩ | ⟨e0, y, _, _, hrun, hRv, hat, _⟩
  · have h1 := hat (.lit (.int .i64 (-1)))
    rw [hD] at h1
    simp only [DataW.lit.injEq, Lit.int.injEq] at h1
    omega
  · have h1 := hat (.lit (.int .i64 (-1)))
    rw [hD] at h1
    obtain ⟨y1, y2⟩ := y
    simp only at h1
    rw [← h1] at hRv
    rw [hrun, mR_inv hRv]
    rfl
theorem wpList_insert_own {H : Type} {P : Program} (w : World) {ops : Array Oper} {rest : List Oper} {o : Oper} {a : Act} {Q : Exit → Act → World → Prop}
    (hg : o.guard = none) (m x v : Operand) (t : TypeId) (hop : o.op = Op.insert t m x v)
    (k e : TypeId) (K : Keyed P k) (ht : P.underlying t = some (.map k e)) (R : Value → Option (DataW H × List MemPlace)) (b n : Nat) (D : DataW H)
    (hm : a.eval m = .map (some b)) (hown : w.ownsMap P k R b n D) (hn : n < maxLen) (key val : Value) (kl : Lit) (hx : a.eval x = key) (hv : a.eval v = val) (hkey : keyOf P k key = some kl)
    (d : DataW H) (ps : List MemPlace) (hval : R val = some (d, ps))
    (hK : ∀ w', w'.ownsMap P k R b (n + 1) (D.put kl d) → w.grownBy w' (some b) → wpList P ops Q rest (a.put o.dst undef) w') :
    wpList P ops Q (o :: rest) a w := by
  refine wpList_plain hg fun K' hK' => ?_
  obtain ⟨w', hrun, r1, r2⟩ := hown.update K ht hn hkey hval
  unfold Oper.wp
  simp [execOp, hop, hm, hx, hv, hrun, Result.andThen]
  exact hK' _ _ (hK w' r1 r2)
set_option maxRecDepth 100000 in
set_option maxHeartbeats 4000000 in
theorem methods_any (w : World) : Calls Tryz.prog 41 #[] w (fun e w' => ∃ b, e = .returned (.map (some b)) ∧ w'.ownsMap Tryz.prog 9 mR b 7 mD ∧ Below w.heap.size w w') := by
  have hmm := @run_makeMap Tryz.prog
  have h0 := World.ownsMap_made w Tryz.prog 9 mR
  go_enter Tryz.func41, Tryz.ntmps41
  go_wp2_with (first | (refine wpList_insert_own _ rfl _ _ _ 54 rfl 9 52 keyLaw Tryz.underlying54 mR w.heap.size 0 _ rfl h0 (by unfold maxLen; omega) _ _ _ rfl rfl (keyOf_string_mk Tryz.underlying9 (by decide)) _ [] (mR_mk _) ?_; intro w1 h1 g1) | (refine wpList_insert_own _ rfl _ _ _ 54 rfl 9 52 keyLaw Tryz.underlying54 mR w.heap.size 1 _ rfl h1 (by unfold maxLen; omega) _ _ _ rfl rfl (keyOf_string_mk Tryz.underlying9 (by decide)) _ [] (mR_mk _) ?_; intro w2 h2 g2) | (refine wpList_insert_own _ rfl _ _ _ 54 rfl 9 52 keyLaw Tryz.underlying54 mR w.heap.size 2 _ rfl h2 (by unfold maxLen; omega) _ _ _ rfl rfl (keyOf_string_mk Tryz.underlying9 (by decide)) _ [] (mR_mk _) ?_; intro w3 h3 g3) | (refine wpList_insert_own _ rfl _ _ _ 54 rfl 9 52 keyLaw Tryz.underlying54 mR w.heap.size 3 _ rfl h3 (by unfold maxLen; omega) _ _ _ rfl rfl (keyOf_string_mk Tryz.underlying9 (by decide)) _ [] (mR_mk _) ?_; intro w4 h4 g4) | (refine wpList_insert_own _ rfl _ _ _ 54 rfl 9 52 keyLaw Tryz.underlying54 mR w.heap.size 4 _ rfl h4 (by unfold maxLen; omega) _ _ _ rfl rfl (keyOf_string_mk Tryz.underlying9 (by decide)) _ [] (mR_mk _) ?_; intro w5 h5 g5) | (refine wpList_insert_own _ rfl _ _ _ 54 rfl 9 52 keyLaw Tryz.underlying54 mR w.heap.size 5 _ rfl h5 (by unfold maxLen; omega) _ _ _ rfl rfl (keyOf_string_mk Tryz.underlying9 (by decide)) _ [] (mR_mk _) ?_; intro w6 h6 g6) | (refine wpList_insert_own _ rfl _ _ _ 54 rfl 9 52 keyLaw Tryz.underlying54 mR w.heap.size 6 _ rfl h6 (by unfold maxLen; omega) _ _ _ rfl rfl (keyOf_string_mk Tryz.underlying9 (by decide)) _ [] (mR_mk _) ?_; intro w7 h7 g7))
  go_ret
  refine ⟨_, rfl, h7, ?_⟩
  have hb : ∀ {a b : World}, a.grownBy b (some w.heap.size) → w.heap.size ≤ a.heap.size → Below w.heap.size a b := fun h1 h2 => (Below.refl _ _).grown h1 h2 (fun k hk => by injection hk with hk; omega)
  have b0 : Below w.heap.size w (w.alloc (.map #[] 0)) := by (repeat' (first | (with_reducible exact Below.refl _ _) | (with_reducible assumption) | (with_reducible refine Below.drew ?_) | (with_reducible refine belowDrewN ?_ _) | (with_reducible refine Below.alloc ?_ ?_ _) | (with_reducible refine Below.setCell ?_ ?_ _) | (with_reducible refine belowStep (by assumption) ?_ ?_) | (with_reducible exact Below.size (by assumption)) | go_size))
  have b1 := b0.trans (hb g1 b0.size)
  have b2 := b1.trans (hb g2 b1.size)
  have b3 := b2.trans (hb g3 b2.size)
  have b4 := b3.trans (hb g4 b3.size)
  have b5 := b4.trans (hb g5 b4.size)
  have b6 := b5.trans (hb g6 b5.size)
  exact b6.trans (hb g7 b6.size)
end Go.Proofs.YtbjblkfibinenadGreatDoor

/-
  Contracts of library functions at this program, one application each.
-/
namespace Go.Proofs
open Go.Shelf
def Tryz.lays189_ren : Go.Shelf.Ren := ⟨fun | 189 => 42 | 125 => 70 | 257 => 69 | 128 => 96 | 129 => 97 | 294 => 87 | 295 => 88 | 296 => 89 | 297 => 90 | 298 => 91 | 299 => 92 | 216 => 93 | 300 => 94 | 301 => 95 | 328 => 103 | 329 => 104 | 330 => 105 | 331 => 106 | 332 => 107 | 215 => 108 | 343 => 111 | n => n, fun | 28 => 24 | 3 => 3 | 46 => 87 | 0 => 0 | 51 => 106 | 53 => 42 | 4 => 4 | 183 => 99 | 182 => 98 | 131 => 103 | 5 => 5 | 9 => 9 | 218 => 109 | 222 => 113 | 228 => 115 | 229 => 116 | n => n, fun | n => n⟩
theorem Tryz.lays189 : Go.Proofs.Lays.n189 Tryz.prog Tryz.lays189_ren := {
  mixed := by kernel_rfl
  f125 := Tryz.func70.trans (congrArg some (by kernel_rfl))
  f128 := Tryz.func96.trans (congrArg some (by kernel_rfl))
  f129 := Tryz.func97.trans (congrArg some (by kernel_rfl))
  f189 := Tryz.func42.trans (congrArg some (by kernel_rfl))
  f215 := Tryz.func108.trans (congrArg some (by kernel_rfl))
  f216 := Tryz.func93.trans (congrArg some (by kernel_rfl))
  f257 := Tryz.func69.trans (congrArg some (by kernel_rfl))
  f294 := Tryz.func87.trans (congrArg some (by kernel_rfl))
  f295 := Tryz.func88.trans (congrArg some (by kernel_rfl))
  f296 := Tryz.func89.trans (congrArg some (by kernel_rfl))
  f297 := Tryz.func90.trans (congrArg some (by kernel_rfl))
  f298 := Tryz.func91.trans (congrArg some (by kernel_rfl))
  f299 := Tryz.func92.trans (congrArg some (by kernel_rfl))
  f300 := Tryz.func94.trans (congrArg some (by kernel_rfl))
  f301 := Tryz.func95.trans (congrArg some (by kernel_rfl))
  f328 := Tryz.func103.trans (congrArg some (by kernel_rfl))
  f329 := Tryz.func104.trans (congrArg some (by kernel_rfl))
  f330 := Tryz.func105.trans (congrArg some (by kernel_rfl))
  f331 := Tryz.func106.trans (congrArg some (by kernel_rfl))
  f332 := Tryz.func107.trans (congrArg some (by kernel_rfl))
  f343 := Tryz.func111.trans (congrArg some (by kernel_rfl))
  t0 := Tryz.underlying0
  a0 := Tryz.isAgg0
  z0 := Tryz.sizeOf0
  v0 := Tryz.zeroValue0
  t3 := Tryz.underlying3
  a3 := Tryz.isAgg3
  z3 := Tryz.sizeOf3
  v3 := Tryz.zeroValue3
  t4 := Tryz.underlying4
  a4 := Tryz.isAgg4
  z4 := Tryz.sizeOf4
  v4 := Tryz.zeroValue4
  t5 := Tryz.underlying5
  a5 := Tryz.isAgg5
  z5 := Tryz.sizeOf5
  v5 := Tryz.zeroValue5
  t9 := Tryz.underlying9
  a9 := Tryz.isAgg9
  z9 := Tryz.sizeOf9
  v9 := Tryz.zeroValue9
  t28 := Tryz.underlying24
  a28 := Tryz.isAgg24
  z28 := Tryz.sizeOf24
  v28 := Tryz.zeroValue24
  t46 := Tryz.underlying87
  a46 := Tryz.isAgg87
  z46 := Tryz.sizeOf87
  v46 := Tryz.zeroValue87
  t51 := Tryz.underlying106
  a51 := Tryz.isAgg106
  z51 := Tryz.sizeOf106
  v51 := Tryz.zeroValue106
  t53 := Tryz.underlying42
  a53 := Tryz.isAgg42
  z53 := Tryz.sizeOf42
  v53 := Tryz.zeroValue42
  t131 := Tryz.underlying103
  a131 := Tryz.isAgg103
  z131 := Tryz.sizeOf103
  v131 := Tryz.zeroValue103
  t182 := Tryz.underlying98
  a182 := Tryz.isAgg98
  z182 := Tryz.sizeOf98
  v182 := Tryz.zeroValue98
  t183 := Tryz.underlying99
  a183 := Tryz.isAgg99
  z183 := Tryz.sizeOf99
  v183 := Tryz.zeroValue99
  t218 := Tryz.underlying109
  a218 := Tryz.isAgg109
  z218 := Tryz.sizeOf109
  v218 := Tryz.zeroValue109
  t222 := Tryz.underlying113
  a222 := Tryz.isAgg113
  z222 := Tryz.sizeOf113
  v222 := Tryz.zeroValue113
  t228 := Tryz.underlying115
  a228 := Tryz.isAgg115
  z228 := Tryz.sizeOf115
  v228 := Tryz.zeroValue115
  t229 := Tryz.underlying116
  a229 := Tryz.isAgg116
  z229 := Tryz.sizeOf116
  v229 := Tryz.zeroValue116 }
open Go.Sort Go.RowKit in
theorem Tryz.slices_Sort_int (blk off cap : Nat) (zs : List Int) (w : World) (hH : Holds (Value.int .i64) w blk off zs.toArray) (hblk : blk < w.heap.size) (hsz : zs.length < 4611686018427387904) :
    Calls Tryz.prog 42 #[.slice (some ⟨blk, off, none⟩) zs.length cap] w fun e w' =>
      e = .returned (.tuple #[]) ∧ ∃ n os, w' = grow (putRow (Value.int .i64) (Sort.ahead w n) blk off (zs.mergeSort fun x y => decide (x ≤ y)).toArray) os := Any.slices_Sort_int Tryz.lays189 blk off cap zs w hH hblk hsz
def Tryz.lays212_ren : Go.Shelf.Ren := ⟨fun | 212 => 148 | 263 => 149 | 264 => 150 | n => n, fun | 46 => 87 | 51 => 106 | 146 => 145 | 53 => 42 | 148 => 147 | n => n, fun | n => n⟩
theorem Tryz.lays212 : Go.Proofs.Lays.n212 Tryz.prog Tryz.lays212_ren := {
  mixed := by kernel_rfl
  f212 := Tryz.func148.trans (congrArg some (by kernel_rfl))
  f263 := Tryz.func149.trans (congrArg some (by kernel_rfl))
  f264 := Tryz.func150.trans (congrArg some (by kernel_rfl))
  t46 := Tryz.underlying87
  a46 := Tryz.isAgg87
  z46 := Tryz.sizeOf87
  v46 := Tryz.zeroValue87
  t51 := Tryz.underlying106
  a51 := Tryz.isAgg106
  z51 := Tryz.sizeOf106
  v51 := Tryz.zeroValue106
  t53 := Tryz.underlying42
  a53 := Tryz.isAgg42
  z53 := Tryz.sizeOf42
  v53 := Tryz.zeroValue42
  t146 := Tryz.underlying145
  a146 := Tryz.isAgg145
  z146 := Tryz.sizeOf145
  v146 := Tryz.zeroValue145
  t148 := Tryz.underlying147
  a148 := Tryz.isAgg147
  z148 := Tryz.sizeOf147
  v148 := Tryz.zeroValue147 }
open Go.RowKit Go.Lib in
theorem Tryz.bits_Mul (x y : Nat) (hx : x < 18446744073709551616) (hy : y < 18446744073709551616) (w : World) :
    Calls Tryz.prog 148 #[.int .u64 x, .int .u64 y] w fun e w' => e = .returned (.tuple #[.int .u64 ((x * y / 18446744073709551616 : Nat) : Int), .int .u64 ((x * y % 18446744073709551616 : Nat) : Int)]) ∧ w' = w := Any.bits_Mul Tryz.lays212 x y hx hy w
def Tryz.lays113_ren : Go.Shelf.Ren := ⟨fun | 113 => 146 | n => n, fun | 28 => 24 | 3 => 3 | 4 => 4 | 9 => 9 | 20 => 20 | 0 => 0 | n => n, fun | n => n⟩
theorem Tryz.lays113 : Go.Proofs.Lays.n113 Tryz.prog Tryz.lays113_ren := {
  mixed := by kernel_rfl
  f113 := Tryz.func146.trans (congrArg some (by kernel_rfl))
  t0 := Tryz.underlying0
  a0 := Tryz.isAgg0
  z0 := Tryz.sizeOf0
  v0 := Tryz.zeroValue0
  t3 := Tryz.underlying3
  a3 := Tryz.isAgg3
  z3 := Tryz.sizeOf3
  v3 := Tryz.zeroValue3
  t4 := Tryz.underlying4
  a4 := Tryz.isAgg4
  z4 := Tryz.sizeOf4
  v4 := Tryz.zeroValue4
  t9 := Tryz.underlying9
  a9 := Tryz.isAgg9
  z9 := Tryz.sizeOf9
  v9 := Tryz.zeroValue9
  t20 := Tryz.underlying20
  a20 := Tryz.isAgg20
  z20 := Tryz.sizeOf20
  v20 := Tryz.zeroValue20
  t28 := Tryz.underlying24
  a28 := Tryz.isAgg24
  z28 := Tryz.sizeOf24
  v28 := Tryz.zeroValue24 }
open Go.Lib in
theorem Tryz.slices_Max_int (b off n c : Nat) (zs : List Int) (w : World) (hn : 0 < n) (hz : n ≤ zs.length) (hbig : n ≤ 9223372036854775807) (hc : ∀ j, j < zs.length → w.cell? ⟨b, off + j, none⟩ = some (.int .i64 (zs.getD j 0))) :
    Calls Tryz.prog 146 #[.slice (some ⟨b, off, none⟩) n c] w fun e w' => e = .returned (.int .i64 (Lib.maxOf (zs.take n))) ∧ w' = w := Any.slices_Max_int Tryz.lays113 b off n c zs w hn hz hbig hc
def Tryz.laysNm223_ren : Go.Shelf.Ren := ⟨fun | 23 => 147 | n => n, fun | 22 => 24 | 3 => 3 | 4 => 4 | 0 => 0 | n => n, fun | n => n⟩
theorem Tryz.laysNm223 : Go.Proofs.Lays2.n23 Tryz.prog Tryz.laysNm223_ren := {
  mixed := by kernel_rfl
  f23 := Tryz.func147.trans (congrArg some (by kernel_rfl))
  t0 := Tryz.underlying0
  a0 := Tryz.isAgg0
  z0 := Tryz.sizeOf0
  v0 := Tryz.zeroValue0
  t3 := Tryz.underlying3
  a3 := Tryz.isAgg3
  z3 := Tryz.sizeOf3
  v3 := Tryz.zeroValue3
  t4 := Tryz.underlying4
  a4 := Tryz.isAgg4
  z4 := Tryz.sizeOf4
  v4 := Tryz.zeroValue4
  t22 := Tryz.underlying24
  a22 := Tryz.isAgg24
  z22 := Tryz.sizeOf24
  v22 := Tryz.zeroValue24
  i3 := by kernel_rfl }
open Go.RowKit Go.Lib Go.Sort in
theorem Tryz.slices_Delete_int (blk off cap i j : Nat) (zs : List Int) (w : World) (hH : Holds (Value.int .i64) w blk off zs.toArray) (hcap : zs.length ≤ cap) (hm : cap ≤ 9223372036854775807) (hij : i ≤ j) (hj : j ≤ zs.length) :
    Calls Tryz.prog 147 #[.slice (some ⟨blk, off, none⟩) zs.length cap, .int .i64 i, .int .i64 j] w fun e w' => e = .returned (.slice (some ⟨blk, off, none⟩) (zs.length - (j - i)) cap) ∧ ∃ q, w' = putRow (Value.int .i64) (Sort.ahead w q) blk off (zs.take i ++ zs.drop j ++ List.replicate (j - i) 0).toArray := Any.slices_Delete_int Tryz.laysNm223 blk off cap i j zs w hH hcap hm hij hj
end Go.Proofs


/-
  The contract of the library's binary search in a rising list.
-/
namespace Go.Proofs.YtbjblkfibinenadGreatDoor
open Go.RowKit
theorem less_yes (a b : Int) (w : World) (h : a < b) : Calls Tryz.prog 93 #[.int .i64 a, .int .i64 b] w (RetQ (.bool true) w) := by
  go_enter Tryz.func93, Tryz.ntmps93
  go_wp2_with (go_at_call 108; refine (isNaN_any _ _).mono ?_; rintro e w1 ⟨rfl, k1, rfl⟩)
  go_ret
  exact ⟨ret_bool (by first | (simp; done) | (simp; omega)), _, rfl⟩
theorem less_no (a b : Int) (w : World) (h : b ≤ a) : Calls Tryz.prog 93 #[.int .i64 a, .int .i64 b] w (RetQ (.bool false) w) := by
  go_enter Tryz.func93, Tryz.ntmps93
  go_wp2_with (go_at_call 108; refine (isNaN_any _ _).mono ?_; rintro e w1 ⟨rfl, k1, rfl⟩)
  go_ret
  exact ⟨ret_bool (by first | (simp; done) | (simp; omega)), _, rfl⟩

end Go.Proofs.YtbjblkfibinenadGreatDoor


/-
  Contracts of putting a number into a rising list.
-/
namespace Go.Proofs.YtbjblkfibinenadGreatDoor
open Go.RowKit
end Go.Proofs.YtbjblkfibinenadGreatDoor
