
/-
  Contracts of greedy terms from a number on, in the program and in the model.
-/
import Derived.Test.YtbjblkfibinenacGrX
namespace Go.Proofs.Ytbjblkfibinenac
open Go.RowKit
/-- a cell of an int that may be written -/
def OneAt (g : Nat) (l : Int) (w : World) : Prop := w.cell? ⟨g, 0, none⟩ = some (.int .i64 l) ∧ w.frozen? ⟨g, 0, none⟩ = false ∧ g < w.heap.size
theorem OneAt.below {g B : Nat} {l : Int} {w w' : World} (h : OneAt g l w) (hb : Below B w w') (hB : g < B) : OneAt g l w' :=
  ⟨(hb.cell (p := ⟨g, 0, none⟩) hB).trans h.1, (hb.frozen (p := ⟨g, 0, none⟩) hB).trans h.2.1, Nat.lt_of_lt_of_le h.2.2 hb.size⟩
theorem OneAt.new (w : World) (l : Int) : OneAt w.heap.size l (w.alloc (.cells #[.int .i64 l] 3)) := ⟨by simp, by simp [go_sem], by simp⟩
def gfrB (n d l : Int) : Bool := goodB n d && decide (1 ≤ l) && decide (l ≤ 1000000000)
theorem gfrB_yes {n d l : Int} (h : gfrB n d l = true) : goodB n d = true ∧ 1 ≤ l ∧ l ≤ 1000000000 := by
  simp only [gfrB, Bool.and_eq_true, decide_eq_true_eq] at h
  exact ⟨h.1.1, h.1.2, h.2⟩
def gfrO (n d l : Int) : Option (List Int) := if gfrB n d l = true then lstO (stG pick1) expB 24 l n d else none
theorem gfrO_len (n d l : Int) : ((gfrO n d l).getD []).length ≤ 24 := by
  unfold gfrO
  split
  · cases h : walkR (stG pick1) 24 l n d with
    | none => rw [lstO_none h]; simp
    | some es =>
      cases hk : expB (takenOf es) with
      | true => rw [lstO_yes h hk]; show (takenOf es).length ≤ 24; exact expB_len hk
      | false => rw [lstO_no h hk]; simp
  · simp
set_option maxHeartbeats 2000000 in
theorem spec_greedyFrom_any (n d l : Int) (w : World) : Calls Try.prog 14 #[.agg #[.int .i64 n, .int .i64 d], .int .i64 l] w (RetRB ((gfrO n d l).getD []) (gfrO n d l).isSome w) := by
  cases hg : goodB n d with
  | false =>
    have E : Hid (gfrO n d l = none) := Lib.hid (by unfold gfrO gfrB; rw [hg]; rfl)
    go_enter Try.func14, Try.ntmps14
    go_wp2_with (go_at_call 53; refine (unGood_any _ _ _).mono ?_; rintro e w1 ⟨rfl, hb1⟩; obtain ⟨hc1, hf1⟩ := bcellB hb1; have hz1 := hb1.size; (try simp only [World.size_alloc] at hc1 hf1 hz1); (try have hy1_r_0 : wr.heap.size < w1.heap.size := by omega); (try have hn1_r_0 : wr.heap.size ≠ w1.heap.size := by omega); (try have hm1_r_0 : w1.heap.size ≠ wr.heap.size := by omega); (try have hy1_r_1 : wr.heap.size + 1 < w1.heap.size := by omega); (try have hn1_r_1 : wr.heap.size + 1 ≠ w1.heap.size := by omega); (try have hm1_r_1 : w1.heap.size ≠ wr.heap.size + 1 := by omega); (try have hy1_r_2 : wr.heap.size + 1 + 1 < w1.heap.size := by omega); (try have hp1_r_1 : wr.heap.size < w1.heap.size + 1 := by omega); (try have hp1_r_2 : wr.heap.size < w1.heap.size + 1 + 1 := by omega); (try have hy1_0_0 : w.heap.size < w1.heap.size := by omega); (try have hn1_0_0 : w.heap.size ≠ w1.heap.size := by omega); (try have hm1_0_0 : w1.heap.size ≠ w.heap.size := by omega); (try have hy1_0_1 : w.heap.size + 1 < w1.heap.size := by omega); (try have hn1_0_1 : w.heap.size + 1 ≠ w1.heap.size := by omega); (try have hm1_0_1 : w1.heap.size ≠ w.heap.size + 1 := by omega); (try have hy1_0_2 : w.heap.size + 1 + 1 < w1.heap.size := by omega); (try have hp1_0_1 : w.heap.size < w1.heap.size + 1 := by omega); (try have hp1_0_2 : w.heap.size < w1.heap.size + 1 + 1 := by omega); (try have hg1_g1 : g1 < w1.heap.size := by omega); (try have hi1_g1 : g1 ≠ w1.heap.size := by omega); (try have hj1_g1 : w1.heap.size ≠ g1 := by omega); (try have hk1_g1 : g1 < w1.heap.size + 1 := by omega); (try have hg1_g2 : g2 < w1.heap.size := by omega); (try have hi1_g2 : g2 ≠ w1.heap.size := by omega); (try have hj1_g2 : w1.heap.size ≠ g2 := by omega); (try have hk1_g2 : g2 < w1.heap.size + 1 := by omega))
    go_ret2
    rw [E.out]
    exact ret_rnil' (by (repeat' (first | (with_reducible exact Below.refl _ _) | (with_reducible assumption) | (with_reducible refine Below.drew ?_) | (with_reducible refine belowDrewN ?_ _) | (with_reducible refine Below.alloc ?_ ?_ _) | (with_reducible refine Below.setCell ?_ ?_ _) | (with_reducible refine belowStep (by assumption) ?_ ?_) | (with_reducible exact Below.size (by assumption)) | go_size)))
  | true =>
    by_cases hl : 1 ≤ l ∧ l ≤ 1000000000
    · have E : Hid (gfrO n d l = lstO (stG pick1) expB 24 l n d) := Lib.hid (by unfold gfrO gfrB; rw [hg, decide_eq_true hl.1, decide_eq_true hl.2]; rfl)
      have HG := Lib.hid fun (w : World) => grFrom1_any l n d 24 w hg hl.1 hl.2 (by omega)
      obtain ⟨h1, h2⟩ := hl
      go_enter Try.func14, Try.ntmps14
      go_wp2_with (first | (go_at_call 53; refine (unGood_any _ _ _).mono ?_; rintro e w1 ⟨rfl, hb1⟩; obtain ⟨hc1, hf1⟩ := bcellB hb1; have hz1 := hb1.size; (try simp only [World.size_alloc] at hc1 hf1 hz1); (try have hy1_r_0 : wr.heap.size < w1.heap.size := by omega); (try have hn1_r_0 : wr.heap.size ≠ w1.heap.size := by omega); (try have hm1_r_0 : w1.heap.size ≠ wr.heap.size := by omega); (try have hy1_r_1 : wr.heap.size + 1 < w1.heap.size := by omega); (try have hn1_r_1 : wr.heap.size + 1 ≠ w1.heap.size := by omega); (try have hm1_r_1 : w1.heap.size ≠ wr.heap.size + 1 := by omega); (try have hy1_r_2 : wr.heap.size + 1 + 1 < w1.heap.size := by omega); (try have hp1_r_1 : wr.heap.size < w1.heap.size + 1 := by omega); (try have hp1_r_2 : wr.heap.size < w1.heap.size + 1 + 1 := by omega); (try have hy1_0_0 : w.heap.size < w1.heap.size := by omega); (try have hn1_0_0 : w.heap.size ≠ w1.heap.size := by omega); (try have hm1_0_0 : w1.heap.size ≠ w.heap.size := by omega); (try have hy1_0_1 : w.heap.size + 1 < w1.heap.size := by omega); (try have hn1_0_1 : w.heap.size + 1 ≠ w1.heap.size := by omega); (try have hm1_0_1 : w1.heap.size ≠ w.heap.size + 1 := by omega); (try have hy1_0_2 : w.heap.size + 1 + 1 < w1.heap.size := by omega); (try have hp1_0_1 : w.heap.size < w1.heap.size + 1 := by omega); (try have hp1_0_2 : w.heap.size < w1.heap.size + 1 + 1 := by omega); (try have hg1_g1 : g1 < w1.heap.size := by omega); (try have hi1_g1 : g1 ≠ w1.heap.size := by omega); (try have hj1_g1 : w1.heap.size ≠ g1 := by omega); (try have hk1_g1 : g1 < w1.heap.size + 1 := by omega); (try have hg1_g2 : g2 < w1.heap.size := by omega); (try have hi1_g2 : g2 ≠ w1.heap.size := by omega); (try have hj1_g2 : w1.heap.size ≠ g2 := by omega); (try have hk1_g2 : g2 < w1.heap.size + 1 := by omega)) | (go_at_call 54; refine (l1In_yes _ _ _ _ h1 h2).mono ?_; rintro e w1 ⟨rfl, k1, rfl⟩))
      refine (HG.out _).mono ?_
      rintro e w2 ⟨A2, c2, rfl, hr2, hb2⟩
      go_wp2
      go_ret2
      rw [E.out]
      exact ⟨_, _, rfl, hr2, by (repeat' (first | (with_reducible exact Below.refl _ _) | (with_reducible assumption) | (with_reducible refine Below.drew ?_) | (with_reducible refine belowDrewN ?_ _) | (with_reducible refine Below.alloc ?_ ?_ _) | (with_reducible refine Below.setCell ?_ ?_ _) | (with_reducible refine belowStep (by assumption) ?_ ?_) | (with_reducible exact Below.size (by assumption)) | go_size))⟩
    · have E : Hid (gfrO n d l = none) := Lib.hid (by
        have : gfrB n d l = false := by
          cases h : gfrB n d l with
          | false => rfl
          | true => exact absurd (gfrB_yes h).2 hl
        unfold gfrO; rw [this]; rfl)
      go_enter Try.func14, Try.ntmps14
      go_wp2_with (first | (go_at_call 53; refine (unGood_any _ _ _).mono ?_; rintro e w1 ⟨rfl, hb1⟩; obtain ⟨hc1, hf1⟩ := bcellB hb1; have hz1 := hb1.size; (try simp only [World.size_alloc] at hc1 hf1 hz1); (try have hy1_r_0 : wr.heap.size < w1.heap.size := by omega); (try have hn1_r_0 : wr.heap.size ≠ w1.heap.size := by omega); (try have hm1_r_0 : w1.heap.size ≠ wr.heap.size := by omega); (try have hy1_r_1 : wr.heap.size + 1 < w1.heap.size := by omega); (try have hn1_r_1 : wr.heap.size + 1 ≠ w1.heap.size := by omega); (try have hm1_r_1 : w1.heap.size ≠ wr.heap.size + 1 := by omega); (try have hy1_r_2 : wr.heap.size + 1 + 1 < w1.heap.size := by omega); (try have hp1_r_1 : wr.heap.size < w1.heap.size + 1 := by omega); (try have hp1_r_2 : wr.heap.size < w1.heap.size + 1 + 1 := by omega); (try have hy1_0_0 : w.heap.size < w1.heap.size := by omega); (try have hn1_0_0 : w.heap.size ≠ w1.heap.size := by omega); (try have hm1_0_0 : w1.heap.size ≠ w.heap.size := by omega); (try have hy1_0_1 : w.heap.size + 1 < w1.heap.size := by omega); (try have hn1_0_1 : w.heap.size + 1 ≠ w1.heap.size := by omega); (try have hm1_0_1 : w1.heap.size ≠ w.heap.size + 1 := by omega); (try have hy1_0_2 : w.heap.size + 1 + 1 < w1.heap.size := by omega); (try have hp1_0_1 : w.heap.size < w1.heap.size + 1 := by omega); (try have hp1_0_2 : w.heap.size < w1.heap.size + 1 + 1 := by omega); (try have hg1_g1 : g1 < w1.heap.size := by omega); (try have hi1_g1 : g1 ≠ w1.heap.size := by omega); (try have hj1_g1 : w1.heap.size ≠ g1 := by omega); (try have hk1_g1 : g1 < w1.heap.size + 1 := by omega); (try have hg1_g2 : g2 < w1.heap.size := by omega); (try have hi1_g2 : g2 ≠ w1.heap.size := by omega); (try have hj1_g2 : w1.heap.size ≠ g2 := by omega); (try have hk1_g2 : g2 < w1.heap.size + 1 := by omega)) | (go_at_call 54; refine (l1In_no _ _ _ _ hl).mono ?_; rintro e w1 ⟨rfl, k1, rfl⟩))
      go_ret2
      rw [E.out]
      exact ret_rnil' (by (repeat' (first | (with_reducible exact Below.refl _ _) | (with_reducible assumption) | (with_reducible refine Below.drew ?_) | (with_reducible refine belowDrewN ?_ _) | (with_reducible refine Below.alloc ?_ ?_ _) | (with_reducible refine Below.setCell ?_ ?_ _) | (with_reducible refine belowStep (by assumption) ?_ ?_) | (with_reducible exact Below.size (by assumption)) | go_size)))
set_option maxHeartbeats 4000000 in
theorem fromStep_R (g : Nat) (l n d : Int) (w : World) (hg : goodB n d = true) (hn : 1 ≤ n) (hl : 0 ≤ l) (hl1 : l ≤ 1000000001) (h1 : OneAt g l w) : Calls Try.prog 57 (#[.agg #[.int .i64 n, .int .i64 d]] ++ #[.pointer (some ⟨g, 0, none⟩)]) w (StepR (stG pick1) (OneAt g) (some g) l n d w) := by
  rw [show (#[.agg #[.int .i64 n, .int .i64 d]] ++ #[Value.pointer (some ⟨g, 0, none⟩)] : Array Value) = #[.agg #[.int .i64 n, .int .i64 d], .pointer (some ⟨g, 0, none⟩)] from rfl]
  obtain ⟨_, n2, d1, d2⟩ := good_bounds hg
  obtain ⟨u1, u2, u3, u4⟩ := ucd_facts hn d1
  have HU := Lib.hid fun (w : World) => leastUnder_any n d w hn n2 d1 d2
  obtain ⟨t, ht⟩ : ∃ t, (if l < ucd n d then ucd n d else l) = t := ⟨_, rfl⟩
  have hp : pick1 l n d = t := by rw [← ht]; unfold pick1; split <;> omega
  have ht1 : 1 ≤ t := by rw [← ht]; split <;> omega
  have ht2 : t ≤ 1000000001 := by rw [← ht]; split <;> omega
  have HT := Lib.hid fun (w : World) => takeUnit_any n d t w hg ht1 (by omega)
  have Hy := Lib.hid fun (h : tB n d t = true) => (by
    have h2 := stG_yes (p := pick1) (l := l) (by rw [hp]; exact h)
    rw [hp] at h2
    exact h2 : stG pick1 l n d = some (t, tN n d t, tD n d t))
  have Hn := Lib.hid fun (h : tB n d t = false) => (stG_no (p := pick1) (l := l) (by rw [hp]; exact h) : stG pick1 l n d = none)
  have Hg := Lib.hid fun (h : tB n d t = true) => tB_good d1 ht1 h
  obtain ⟨c1, f1, z1⟩ := h1
  have hne : w.heap.size ≠ g := by omega
  have hne2 : g ≠ w.heap.size := by omega
  have hlt : g < w.heap.size + 1 := by omega
  have hlt2 : g < w.heap.size + 1 + 1 := by omega
  have hne3 : w.heap.size + 1 ≠ g := by omega
  have hne4 : g ≠ w.heap.size + 1 := by omega
  clear hp
  go_enter Try.func57, Try.ntmps57
  go_wp2_with fail
  go_region_with (go_at_call 58; refine (HU.out _).mono ?_; rintro e w1 ⟨rfl, hb1⟩; obtain ⟨hc1, hf1⟩ := bcellB hb1; have hz1 := hb1.size; (try simp only [World.size_alloc, World.size_drew] at hc1 hf1 hz1); (try have hy1_r_0 : wr.heap.size < w1.heap.size := by omega); (try have hn1_r_0 : wr.heap.size ≠ w1.heap.size := by omega); (try have hm1_r_0 : w1.heap.size ≠ wr.heap.size := by omega); (try have hy1_r_1 : wr.heap.size + 1 < w1.heap.size := by omega); (try have hn1_r_1 : wr.heap.size + 1 ≠ w1.heap.size := by omega); (try have hm1_r_1 : w1.heap.size ≠ wr.heap.size + 1 := by omega); (try have hy1_r_2 : wr.heap.size + 1 + 1 < w1.heap.size := by omega); (try have hp1_r_1 : wr.heap.size < w1.heap.size + 1 := by omega); (try have hp1_r_2 : wr.heap.size < w1.heap.size + 1 + 1 := by omega); (try have hy1_0_0 : w.heap.size < w1.heap.size := by omega); (try have hn1_0_0 : w.heap.size ≠ w1.heap.size := by omega); (try have hm1_0_0 : w1.heap.size ≠ w.heap.size := by omega); (try have hy1_0_1 : w.heap.size + 1 < w1.heap.size := by omega); (try have hn1_0_1 : w.heap.size + 1 ≠ w1.heap.size := by omega); (try have hm1_0_1 : w1.heap.size ≠ w.heap.size + 1 := by omega); (try have hy1_0_2 : w.heap.size + 1 + 1 < w1.heap.size := by omega); (try have hp1_0_1 : w.heap.size < w1.heap.size + 1 := by omega); (try have hp1_0_2 : w.heap.size < w1.heap.size + 1 + 1 := by omega); (try have hg1_g1 : g1 < w1.heap.size := by omega); (try have hi1_g1 : g1 ≠ w1.heap.size := by omega); (try have hj1_g1 : w1.heap.size ≠ g1 := by omega); (try have hk1_g1 : g1 < w1.heap.size + 1 := by omega); (try have hg1_g2 : g2 < w1.heap.size := by omega); (try have hi1_g2 : g2 ≠ w1.heap.size := by omega); (try have hj1_g2 : w1.heap.size ≠ g2 := by omega); (try have hk1_g2 : g2 < w1.heap.size + 1 := by omega))
  all_goals
    have hg1 : g < w1.heap.size := by omega
    go_wp2_with (go_at_call 59; refine (HT.out _).mono ?_; rintro e w2 ⟨rfl, hb2⟩; obtain ⟨hc2, hf2⟩ := bcellB hb2; have hz2 := hb2.size; (try simp only [World.size_setCell] at hc2 hf2 hz2); (try have hy2_r_0 : wr.heap.size < w2.heap.size := by omega); (try have hn2_r_0 : wr.heap.size ≠ w2.heap.size := by omega); (try have hm2_r_0 : w2.heap.size ≠ wr.heap.size := by omega); (try have hy2_r_1 : wr.heap.size + 1 < w2.heap.size := by omega); (try have hn2_r_1 : wr.heap.size + 1 ≠ w2.heap.size := by omega); (try have hm2_r_1 : w2.heap.size ≠ wr.heap.size + 1 := by omega); (try have hy2_r_2 : wr.heap.size + 1 + 1 < w2.heap.size := by omega); (try have hp2_r_1 : wr.heap.size < w2.heap.size + 1 := by omega); (try have hp2_r_2 : wr.heap.size < w2.heap.size + 1 + 1 := by omega); (try have hy2_0_0 : w.heap.size < w2.heap.size := by omega); (try have hn2_0_0 : w.heap.size ≠ w2.heap.size := by omega); (try have hm2_0_0 : w2.heap.size ≠ w.heap.size := by omega); (try have hy2_0_1 : w.heap.size + 1 < w2.heap.size := by omega); (try have hn2_0_1 : w.heap.size + 1 ≠ w2.heap.size := by omega); (try have hm2_0_1 : w2.heap.size ≠ w.heap.size + 1 := by omega); (try have hy2_0_2 : w.heap.size + 1 + 1 < w2.heap.size := by omega); (try have hp2_0_1 : w.heap.size < w2.heap.size + 1 := by omega); (try have hp2_0_2 : w.heap.size < w2.heap.size + 1 + 1 := by omega); (try have hy2_1_0 : w1.heap.size < w2.heap.size := by omega); (try have hn2_1_0 : w1.heap.size ≠ w2.heap.size := by omega); (try have hm2_1_0 : w2.heap.size ≠ w1.heap.size := by omega); (try have hy2_1_1 : w1.heap.size + 1 < w2.heap.size := by omega); (try have hn2_1_1 : w1.heap.size + 1 ≠ w2.heap.size := by omega); (try have hm2_1_1 : w2.heap.size ≠ w1.heap.size + 1 := by omega); (try have hy2_1_2 : w1.heap.size + 1 + 1 < w2.heap.size := by omega); (try have hp2_1_1 : w1.heap.size < w2.heap.size + 1 := by omega); (try have hp2_1_2 : w1.heap.size < w2.heap.size + 1 + 1 := by omega); (try have hg2_g1 : g1 < w2.heap.size := by omega); (try have hi2_g1 : g1 ≠ w2.heap.size := by omega); (try have hj2_g1 : w2.heap.size ≠ g1 := by omega); (try have hk2_g1 : g1 < w2.heap.size + 1 := by omega); (try have hg2_g2 : g2 < w2.heap.size := by omega); (try have hi2_g2 : g2 ≠ w2.heap.size := by omega); (try have hj2_g2 : w2.heap.size ≠ g2 := by omega); (try have hk2_g2 : g2 < w2.heap.size + 1 := by omega))
    refine bodyPost_ret (by simp [results, Try.results57, go_sem, *]; try rfl) rfl ?_
    refine ⟨by (repeat' (first | (with_reducible exact World.grownBy.refl _ _) | (with_reducible refine grownDrewN ?_ _) | (with_reducible refine grownDrew ?_) | (with_reducible refine grownSet ?_ rfl _ _) | (with_reducible refine grownSetNew ?_ ?_ _ _) | (with_reducible refine grownAlloc ?_ ?_ _) | (with_reducible refine grownBelow ?_ ?_ (by assumption)) | go_size)), _, _, _, _, rfl, fun h => ?_, fun h => Hn.out h⟩
    obtain ⟨h1, _, _, h4, _⟩ := tB_parts h
    exact ⟨by rw [h4]; exact Hy.out h, by rw [h4]; exact ⟨by (first | (simp [*, World.cell?_setCell_far]; done) | (simp [go_sem, *]; done)), by (first | (simp [*]; done) | (simp [go_sem, *]; done)), by (first | (go_size; done) | ((try simp only [World.size_alloc, World.size_setCell, World.size_drew, World.heap_drewN]); omega))⟩, Hg.out h, by rw [h4]; omega, by rw [h4]; omega⟩
set_option maxRecDepth 100000 in
set_option maxHeartbeats 4000000 in
theorem greedyFrom_any (n d l : Int) (w : World) (rn : -9223372036854775808 ≤ n ∧ n ≤ 9223372036854775807) (rd : -9223372036854775808 ≤ d ∧ d ≤ 9223372036854775807) (rl : -9223372036854775808 ≤ l ∧ l ≤ 9223372036854775807) : Calls Try.prog 16 #[.agg #[.int .i64 n, .int .i64 d], .int .i64 l] w (RetLB ((gfrO n d l).getD []) (gfrO n d l).isSome w) := by
  have hlt0 : w.heap.size < w.heap.size + 1 + 1 := by omega
  cases hg : goodB n d with
  | false =>
    have E : Hid (gfrO n d l = none) := Lib.hid (by unfold gfrO gfrB; rw [hg]; rfl)
    go_enter Try.func16, Try.ntmps16
    go_wp2_with (go_at_call 56; refine (isFraction_any _ _ _ (by omega) (by omega) (by omega) (by omega)).mono ?_; rintro e w1 ⟨rfl, hb1⟩; obtain ⟨hc1, hf1⟩ := bcellB hb1; have hz1 := hb1.size; (try simp only [World.size_alloc] at hc1 hf1 hz1); (try have hy1_r_0 : wr.heap.size < w1.heap.size := by omega); (try have hn1_r_0 : wr.heap.size ≠ w1.heap.size := by omega); (try have hm1_r_0 : w1.heap.size ≠ wr.heap.size := by omega); (try have hy1_r_1 : wr.heap.size + 1 < w1.heap.size := by omega); (try have hn1_r_1 : wr.heap.size + 1 ≠ w1.heap.size := by omega); (try have hm1_r_1 : w1.heap.size ≠ wr.heap.size + 1 := by omega); (try have hy1_r_2 : wr.heap.size + 1 + 1 < w1.heap.size := by omega); (try have hp1_r_1 : wr.heap.size < w1.heap.size + 1 := by omega); (try have hp1_r_2 : wr.heap.size < w1.heap.size + 1 + 1 := by omega); (try have hy1_0_0 : w.heap.size < w1.heap.size := by omega); (try have hn1_0_0 : w.heap.size ≠ w1.heap.size := by omega); (try have hm1_0_0 : w1.heap.size ≠ w.heap.size := by omega); (try have hy1_0_1 : w.heap.size + 1 < w1.heap.size := by omega); (try have hn1_0_1 : w.heap.size + 1 ≠ w1.heap.size := by omega); (try have hm1_0_1 : w1.heap.size ≠ w.heap.size + 1 := by omega); (try have hy1_0_2 : w.heap.size + 1 + 1 < w1.heap.size := by omega); (try have hp1_0_1 : w.heap.size < w1.heap.size + 1 := by omega); (try have hp1_0_2 : w.heap.size < w1.heap.size + 1 + 1 := by omega); (try have hg1_g1 : g1 < w1.heap.size := by omega); (try have hi1_g1 : g1 ≠ w1.heap.size := by omega); (try have hj1_g1 : w1.heap.size ≠ g1 := by omega); (try have hk1_g1 : g1 < w1.heap.size + 1 := by omega); (try have hg1_g2 : g2 < w1.heap.size := by omega); (try have hi1_g2 : g2 ≠ w1.heap.size := by omega); (try have hj1_g2 : w1.heap.size ≠ g2 := by omega); (try have hk1_g2 : g2 < w1.heap.size + 1 := by omega))
    go_ret2
    rw [E.out]
    exact ⟨_, rfl, OwnI.empty _ _, by (repeat' (first | (with_reducible exact Below.refl _ _) | (with_reducible assumption) | (with_reducible refine Below.drew ?_) | (with_reducible refine belowDrewN ?_ _) | (with_reducible refine Below.alloc ?_ ?_ _) | (with_reducible refine Below.setCell ?_ ?_ _) | (with_reducible refine belowStep (by assumption) ?_ ?_) | (with_reducible exact Below.size (by assumption)) | go_size))⟩
  | true =>
    by_cases hl : 1 ≤ l ∧ l ≤ 1000000000
    · have E : Hid (gfrO n d l = lstO (stG pick1) expB 24 l n d) := Lib.hid (by unfold gfrO gfrB; rw [hg, decide_eq_true hl.1, decide_eq_true hl.2]; rfl)
      obtain ⟨h1, h2⟩ := hl
      have HL := Lib.hid fun (w : World) (g : Nat) (h0 : OneAt g l w) => listBy_any 57 61 #[.pointer (some ⟨g, 0, none⟩)] (stG pick1) expB (OneAt g) (some g) l n d w (fun k hk => by injection hk with hk; subst hk; exact h0.2.2) (fun l w1 w2 h hb => h.below hb h0.2.2) (fun _ _ => rfl) (fun _ _ => rfl) (fun l n d w1 hg hn hl hl1 hI => fromStep_R g l n d w1 hg hn hl hl1 hI) small_G1 readSum hg (by omega) (by omega) h0
      have HO := Lib.hid (OneAt.new (w.alloc (.cells #[.int .i64 n, .int .i64 d] 27)) l)
      rw [World.size_alloc] at HO
      go_enter Try.func16, Try.ntmps16
      go_wp2_with (go_at_call 56; refine (isFraction_any _ _ _ (by omega) (by omega) (by omega) (by omega)).mono ?_; rintro e w1 ⟨rfl, hb1⟩; obtain ⟨hc1, hf1⟩ := bcellB hb1; have hz1 := hb1.size; (try simp only [World.size_alloc] at hc1 hf1 hz1); (try have hy1_r_0 : wr.heap.size < w1.heap.size := by omega); (try have hn1_r_0 : wr.heap.size ≠ w1.heap.size := by omega); (try have hm1_r_0 : w1.heap.size ≠ wr.heap.size := by omega); (try have hy1_r_1 : wr.heap.size + 1 < w1.heap.size := by omega); (try have hn1_r_1 : wr.heap.size + 1 ≠ w1.heap.size := by omega); (try have hm1_r_1 : w1.heap.size ≠ wr.heap.size + 1 := by omega); (try have hy1_r_2 : wr.heap.size + 1 + 1 < w1.heap.size := by omega); (try have hp1_r_1 : wr.heap.size < w1.heap.size + 1 := by omega); (try have hp1_r_2 : wr.heap.size < w1.heap.size + 1 + 1 := by omega); (try have hy1_0_0 : w.heap.size < w1.heap.size := by omega); (try have hn1_0_0 : w.heap.size ≠ w1.heap.size := by omega); (try have hm1_0_0 : w1.heap.size ≠ w.heap.size := by omega); (try have hy1_0_1 : w.heap.size + 1 < w1.heap.size := by omega); (try have hn1_0_1 : w.heap.size + 1 ≠ w1.heap.size := by omega); (try have hm1_0_1 : w1.heap.size ≠ w.heap.size + 1 := by omega); (try have hy1_0_2 : w.heap.size + 1 + 1 < w1.heap.size := by omega); (try have hp1_0_1 : w.heap.size < w1.heap.size + 1 := by omega); (try have hp1_0_2 : w.heap.size < w1.heap.size + 1 + 1 := by omega); (try have hg1_g1 : g1 < w1.heap.size := by omega); (try have hi1_g1 : g1 ≠ w1.heap.size := by omega); (try have hj1_g1 : w1.heap.size ≠ g1 := by omega); (try have hk1_g1 : g1 < w1.heap.size + 1 := by omega); (try have hg1_g2 : g2 < w1.heap.size := by omega); (try have hi1_g2 : g2 ≠ w1.heap.size := by omega); (try have hj1_g2 : w1.heap.size ≠ g2 := by omega); (try have hk1_g2 : g2 < w1.heap.size + 1 := by omega))
      refine (HL.out _ (w.heap.size + 1) (HO.out.below (by assumption) (by (first | (go_size; done) | ((try simp only [World.size_alloc, World.size_setCell, World.size_drew, World.heap_drewN]); omega))))).mono ?_
      rintro e w2 ⟨v2, rfl, ho2, hg2⟩
      have hb2 : Below w.heap.size w1 w2 := (Below.refl _ _).grown hg2 (by (first | (go_size; done) | ((try simp only [World.size_alloc, World.size_setCell, World.size_drew, World.heap_drewN]); omega))) (fun k hk => by injection hk with hk; omega)
      go_wp2
      go_ret2
      rw [E.out]
      exact ⟨_, rfl, ho2.mono (by (first | (go_size; done) | ((try simp only [World.size_alloc, World.size_setCell, World.size_drew, World.heap_drewN]); omega))), by (repeat' (first | (with_reducible exact Below.refl _ _) | (with_reducible assumption) | (with_reducible refine Below.drew ?_) | (with_reducible refine belowDrewN ?_ _) | (with_reducible refine Below.alloc ?_ ?_ _) | (with_reducible refine Below.setCell ?_ ?_ _) | (with_reducible refine belowStep (by assumption) ?_ ?_) | (with_reducible exact Below.size (by assumption)) | go_size))⟩
    · have E : Hid (gfrO n d l = none) := Lib.hid (by
        have : gfrB n d l = false := by
          cases h : gfrB n d l with
          | false => rfl
          | true => exact absurd (gfrB_yes h).2 hl
        unfold gfrO; rw [this]; rfl)
      by_cases h1 : l < 1
      · go_enter Try.func16, Try.ntmps16
        go_wp2_with (go_at_call 56; refine (isFraction_any _ _ _ (by omega) (by omega) (by omega) (by omega)).mono ?_; rintro e w1 ⟨rfl, hb1⟩; obtain ⟨hc1, hf1⟩ := bcellB hb1; have hz1 := hb1.size; (try simp only [World.size_alloc] at hc1 hf1 hz1); (try have hy1_r_0 : wr.heap.size < w1.heap.size := by omega); (try have hn1_r_0 : wr.heap.size ≠ w1.heap.size := by omega); (try have hm1_r_0 : w1.heap.size ≠ wr.heap.size := by omega); (try have hy1_r_1 : wr.heap.size + 1 < w1.heap.size := by omega); (try have hn1_r_1 : wr.heap.size + 1 ≠ w1.heap.size := by omega); (try have hm1_r_1 : w1.heap.size ≠ wr.heap.size + 1 := by omega); (try have hy1_r_2 : wr.heap.size + 1 + 1 < w1.heap.size := by omega); (try have hp1_r_1 : wr.heap.size < w1.heap.size + 1 := by omega); (try have hp1_r_2 : wr.heap.size < w1.heap.size + 1 + 1 := by omega); (try have hy1_0_0 : w.heap.size < w1.heap.size := by omega); (try have hn1_0_0 : w.heap.size ≠ w1.heap.size := by omega); (try have hm1_0_0 : w1.heap.size ≠ w.heap.size := by omega); (try have hy1_0_1 : w.heap.size + 1 < w1.heap.size := by omega); (try have hn1_0_1 : w.heap.size + 1 ≠ w1.heap.size := by omega); (try have hm1_0_1 : w1.heap.size ≠ w.heap.size + 1 := by omega); (try have hy1_0_2 : w.heap.size + 1 + 1 < w1.heap.size := by omega); (try have hp1_0_1 : w.heap.size < w1.heap.size + 1 := by omega); (try have hp1_0_2 : w.heap.size < w1.heap.size + 1 + 1 := by omega); (try have hg1_g1 : g1 < w1.heap.size := by omega); (try have hi1_g1 : g1 ≠ w1.heap.size := by omega); (try have hj1_g1 : w1.heap.size ≠ g1 := by omega); (try have hk1_g1 : g1 < w1.heap.size + 1 := by omega); (try have hg1_g2 : g2 < w1.heap.size := by omega); (try have hi1_g2 : g2 ≠ w1.heap.size := by omega); (try have hj1_g2 : w1.heap.size ≠ g2 := by omega); (try have hk1_g2 : g2 < w1.heap.size + 1 := by omega))
        go_ret2
        rw [E.out]
        exact ⟨_, rfl, OwnI.empty _ _, by (repeat' (first | (with_reducible exact Below.refl _ _) | (with_reducible assumption) | (with_reducible refine Below.drew ?_) | (with_reducible refine belowDrewN ?_ _) | (with_reducible refine Below.alloc ?_ ?_ _) | (with_reducible refine Below.setCell ?_ ?_ _) | (with_reducible refine belowStep (by assumption) ?_ ?_) | (with_reducible exact Below.size (by assumption)) | go_size))⟩
      · have h2 : 1000000000 < l := by omega
        go_enter Try.func16, Try.ntmps16
        go_wp2_with (go_at_call 56; refine (isFraction_any _ _ _ (by omega) (by omega) (by omega) (by omega)).mono ?_; rintro e w1 ⟨rfl, hb1⟩; obtain ⟨hc1, hf1⟩ := bcellB hb1; have hz1 := hb1.size; (try simp only [World.size_alloc] at hc1 hf1 hz1); (try have hy1_r_0 : wr.heap.size < w1.heap.size := by omega); (try have hn1_r_0 : wr.heap.size ≠ w1.heap.size := by omega); (try have hm1_r_0 : w1.heap.size ≠ wr.heap.size := by omega); (try have hy1_r_1 : wr.heap.size + 1 < w1.heap.size := by omega); (try have hn1_r_1 : wr.heap.size + 1 ≠ w1.heap.size := by omega); (try have hm1_r_1 : w1.heap.size ≠ wr.heap.size + 1 := by omega); (try have hy1_r_2 : wr.heap.size + 1 + 1 < w1.heap.size := by omega); (try have hp1_r_1 : wr.heap.size < w1.heap.size + 1 := by omega); (try have hp1_r_2 : wr.heap.size < w1.heap.size + 1 + 1 := by omega); (try have hy1_0_0 : w.heap.size < w1.heap.size := by omega); (try have hn1_0_0 : w.heap.size ≠ w1.heap.size := by omega); (try have hm1_0_0 : w1.heap.size ≠ w.heap.size := by omega); (try have hy1_0_1 : w.heap.size + 1 < w1.heap.size := by omega); (try have hn1_0_1 : w.heap.size + 1 ≠ w1.heap.size := by omega); (try have hm1_0_1 : w1.heap.size ≠ w.heap.size + 1 := by omega); (try have hy1_0_2 : w.heap.size + 1 + 1 < w1.heap.size := by omega); (try have hp1_0_1 : w.heap.size < w1.heap.size + 1 := by omega); (try have hp1_0_2 : w.heap.size < w1.heap.size + 1 + 1 := by omega); (try have hg1_g1 : g1 < w1.heap.size := by omega); (try have hi1_g1 : g1 ≠ w1.heap.size := by omega); (try have hj1_g1 : w1.heap.size ≠ g1 := by omega); (try have hk1_g1 : g1 < w1.heap.size + 1 := by omega); (try have hg1_g2 : g2 < w1.heap.size := by omega); (try have hi1_g2 : g2 ≠ w1.heap.size := by omega); (try have hj1_g2 : w1.heap.size ≠ g2 := by omega); (try have hk1_g2 : g2 < w1.heap.size + 1 := by omega))
        go_ret2
        rw [E.out]
        exact ⟨_, rfl, OwnI.empty _ _, by (repeat' (first | (with_reducible exact Below.refl _ _) | (with_reducible assumption) | (with_reducible refine Below.drew ?_) | (with_reducible refine belowDrewN ?_ _) | (with_reducible refine Below.alloc ?_ ?_ _) | (with_reducible refine Below.setCell ?_ ?_ _) | (with_reducible refine belowStep (by assumption) ?_ ?_) | (with_reducible exact Below.size (by assumption)) | go_size))⟩
end Go.Proofs.Ytbjblkfibinenac
