
/-
  Contracts of the steps of Engel and of Pierce lists, and of the program's lists by them.
-/
import Derived.Test.YtbjblkfibinenabGrX
import Derived.Test.YtbjblkfibinenabEngel
import Derived.Test.YtbjblkfibinenabPierceS
import Derived.Test.YtbjblkfibinenabEngP
namespace Go.Proofs.Ytbjblkfibinenab
open Go.RowKit
theorem small_E : Small stE := by
  intro l n d t n' d' hg hn hl h
  have hf := stE_facts hg hn
  obtain ⟨_, _, d1, d2⟩ := good_bounds hg
  simp only [stE, Option.some.injEq, Prod.mk.injEq] at h
  obtain ⟨rfl, rfl, rfl⟩ := h
  exact ⟨by omega, by omega, hf.2.2.2.1⟩
theorem small_P : Small stP := by
  intro l n d t n' d' hg hn hl h
  have hf := stP_facts hg hn
  obtain ⟨_, _, d1, d2⟩ := good_bounds hg
  simp only [stP, Option.some.injEq, Prod.mk.injEq] at h
  obtain ⟨rfl, rfl, rfl⟩ := h
  exact ⟨by omega, by omega, hf.2.2.2.1⟩
def engO (n d : Int) : Option (List Int) := if belowB n d = true then lstO stE engB 24 0 n d else none
def pieO (n d : Int) : Option (List Int) := if atMostB n d = true then lstO stP pieB 24 0 n d else none
theorem engB_len {xs : List Int} (h : engB xs = true) : xs.length ≤ 24 := (engB_parts h).1
theorem pieB_len {xs : List Int} (h : pieB xs = true) : xs.length ≤ 24 := (pieB_parts h).1
theorem lstO_some {st : Stp} {ok : List Int → Bool} {m : Nat} {l n d : Int} {xs : List Int} (h : lstO st ok m l n d = some xs) : ∃ es, walkR st m l n d = some es ∧ takenOf es = xs ∧ ok xs = true := by
  unfold lstO at h
  cases hw : walkR st m l n d with
  | none => rw [hw] at h; cases h
  | some es =>
    rw [hw] at h
    simp only [Option.bind_some] at h
    split at h
    · rename_i hk
      injection h with h
      subst h
      exact ⟨es, rfl, rfl, hk⟩
    · cases h
theorem engO_len (n d : Int) : ((engO n d).getD []).length ≤ 24 := by
  cases h : engO n d with
  | none => simp
  | some xs =>
    unfold engO at h
    split at h
    · obtain ⟨es, _, _, hk⟩ := lstO_some h
      exact engB_len hk
    · cases h
theorem pieO_len (n d : Int) : ((pieO n d).getD []).length ≤ 24 := by
  cases h : pieO n d with
  | none => simp
  | some xs =>
    unfold pieO at h
    split at h
    · obtain ⟨es, _, _, hk⟩ := lstO_some h
      exact pieB_len hk
    · cases h
/-- one step more allowed, and lists that are too long refused -/
theorem lstO_of25 {st : Stp} {ok : List Int → Bool} (hok : ∀ ys, ok ys = true → ys.length ≤ 24) {l n d : Int} {es : List (Int × Int × Int)} (h : walkR st 25 l n d = some es) : lstO st ok 24 l n d = if ok (takenOf es) = true then some (takenOf es) else none := by
  by_cases hl : es.length ≤ 24
  · have := walkR_fit h hl
    simp [lstO, this]
  · have h1 := (walkR_more h).2
    have h2 := walkR_long h (by omega)
    rw [lstO_none h2, if_neg]
    intro hk
    have := hok _ hk
    rw [takenOf_len] at this
    omega
theorem lstO_out25 {st : Stp} {ok : List Int → Bool} {l n d : Int} (h : walkR st 25 l n d = none) : lstO st ok 24 l n d = none := lstO_none (walkR_less h)
set_option maxHeartbeats 2000000 in
theorem engelStep_R (l n d : Int) (w : World) (hg : goodB n d = true) (hn : 1 ≤ n) : Calls Try.prog 39 (#[.agg #[.int .i64 n, .int .i64 d]] ++ #[]) w (StepR stE (fun _ _ => True) none l n d w) := by
  rw [Array.append_empty]
  obtain ⟨_, n2, d1, d2⟩ := good_bounds hg
  obtain ⟨⟨u1, u2⟩, ⟨r1, r2⟩, hb, hgd, _⟩ := stE_facts hg hn
  have HU := Lib.hid fun (w : World) => leastUnder_any n d w hn n2 d1 d2
  have HRd := Lib.hid fun (w : World) => reduce_any (n * ucd n d - d) d w r1 d1 (by omega) (by omega)
  rw [hb] at HRd
  have Hst : Hid (stE l n d = some (ucd n d, redN (n * ucd n d - d) d, redD (n * ucd n d - d) d)) := Lib.hid rfl
  have hm := mul_bounds (a := ucd n d) (b := n) (by omega) (by omega) (by omega) n2
  have HG := Lib.hid hgd
  clear hb hgd hg
  generalize ucd n d = u at *
  generalize redN (n * u - d) d = N at *
  generalize redD (n * u - d) d = D at *
  rw [Int.mul_comm n u] at HRd r1 r2
  go_enter Try.func39, Try.ntmps39
  go_wp2_with (first | (go_at_call 56; refine (HU.out _).mono ?_; rintro e w1 ⟨rfl, hb1⟩; obtain ⟨hc1, hf1⟩ := bcellB hb1; have hz1 := hb1.size; (try simp only [World.size_alloc] at hc1 hf1 hz1); (try have hy1_r_0 : wr.heap.size < w1.heap.size := by omega); (try have hn1_r_0 : wr.heap.size ≠ w1.heap.size := by omega); (try have hm1_r_0 : w1.heap.size ≠ wr.heap.size := by omega); (try have hy1_r_1 : wr.heap.size + 1 < w1.heap.size := by omega); (try have hn1_r_1 : wr.heap.size + 1 ≠ w1.heap.size := by omega); (try have hm1_r_1 : w1.heap.size ≠ wr.heap.size + 1 := by omega); (try have hy1_r_2 : wr.heap.size + 1 + 1 < w1.heap.size := by omega); (try have hp1_r_1 : wr.heap.size < w1.heap.size + 1 := by omega); (try have hp1_r_2 : wr.heap.size < w1.heap.size + 1 + 1 := by omega); (try have hy1_0_0 : w.heap.size < w1.heap.size := by omega); (try have hn1_0_0 : w.heap.size ≠ w1.heap.size := by omega); (try have hm1_0_0 : w1.heap.size ≠ w.heap.size := by omega); (try have hy1_0_1 : w.heap.size + 1 < w1.heap.size := by omega); (try have hn1_0_1 : w.heap.size + 1 ≠ w1.heap.size := by omega); (try have hm1_0_1 : w1.heap.size ≠ w.heap.size + 1 := by omega); (try have hy1_0_2 : w.heap.size + 1 + 1 < w1.heap.size := by omega); (try have hp1_0_1 : w.heap.size < w1.heap.size + 1 := by omega); (try have hp1_0_2 : w.heap.size < w1.heap.size + 1 + 1 := by omega); (try have hg1_g1 : g1 < w1.heap.size := by omega); (try have hi1_g1 : g1 ≠ w1.heap.size := by omega); (try have hj1_g1 : w1.heap.size ≠ g1 := by omega); (try have hk1_g1 : g1 < w1.heap.size + 1 := by omega); (try have hg1_g2 : g2 < w1.heap.size := by omega); (try have hi1_g2 : g2 ≠ w1.heap.size := by omega); (try have hj1_g2 : w1.heap.size ≠ g2 := by omega); (try have hk1_g2 : g2 < w1.heap.size + 1 := by omega)) | (go_at_call 57; refine (HRd.out _).mono ?_; rintro e w2 ⟨rfl, hb2⟩; obtain ⟨hc2, hf2⟩ := bcellB hb2; have hz2 := hb2.size; (try simp only [World.size_alloc, World.size_setCell, World.size_drew, World.heap_drewN] at hc2 hf2 hz2); (try have hy2_r_0 : wr.heap.size < w2.heap.size := by omega); (try have hn2_r_0 : wr.heap.size ≠ w2.heap.size := by omega); (try have hm2_r_0 : w2.heap.size ≠ wr.heap.size := by omega); (try have hy2_r_1 : wr.heap.size + 1 < w2.heap.size := by omega); (try have hn2_r_1 : wr.heap.size + 1 ≠ w2.heap.size := by omega); (try have hm2_r_1 : w2.heap.size ≠ wr.heap.size + 1 := by omega); (try have hy2_r_2 : wr.heap.size + 1 + 1 < w2.heap.size := by omega); (try have hp2_r_1 : wr.heap.size < w2.heap.size + 1 := by omega); (try have hp2_r_2 : wr.heap.size < w2.heap.size + 1 + 1 := by omega); (try have hy2_0_0 : w.heap.size < w2.heap.size := by omega); (try have hn2_0_0 : w.heap.size ≠ w2.heap.size := by omega); (try have hm2_0_0 : w2.heap.size ≠ w.heap.size := by omega); (try have hy2_0_1 : w.heap.size + 1 < w2.heap.size := by omega); (try have hn2_0_1 : w.heap.size + 1 ≠ w2.heap.size := by omega); (try have hm2_0_1 : w2.heap.size ≠ w.heap.size + 1 := by omega); (try have hy2_0_2 : w.heap.size + 1 + 1 < w2.heap.size := by omega); (try have hp2_0_1 : w.heap.size < w2.heap.size + 1 := by omega); (try have hp2_0_2 : w.heap.size < w2.heap.size + 1 + 1 := by omega); (try have hy2_1_0 : w1.heap.size < w2.heap.size := by omega); (try have hn2_1_0 : w1.heap.size ≠ w2.heap.size := by omega); (try have hm2_1_0 : w2.heap.size ≠ w1.heap.size := by omega); (try have hy2_1_1 : w1.heap.size + 1 < w2.heap.size := by omega); (try have hn2_1_1 : w1.heap.size + 1 ≠ w2.heap.size := by omega); (try have hm2_1_1 : w2.heap.size ≠ w1.heap.size + 1 := by omega); (try have hy2_1_2 : w1.heap.size + 1 + 1 < w2.heap.size := by omega); (try have hp2_1_1 : w1.heap.size < w2.heap.size + 1 := by omega); (try have hp2_1_2 : w1.heap.size < w2.heap.size + 1 + 1 := by omega); (try have hg2_g1 : g1 < w2.heap.size := by omega); (try have hi2_g1 : g1 ≠ w2.heap.size := by omega); (try have hj2_g1 : w2.heap.size ≠ g1 := by omega); (try have hk2_g1 : g1 < w2.heap.size + 1 := by omega); (try have hg2_g2 : g2 < w2.heap.size := by omega); (try have hi2_g2 : g2 ≠ w2.heap.size := by omega); (try have hj2_g2 : w2.heap.size ≠ g2 := by omega); (try have hk2_g2 : g2 < w2.heap.size + 1 := by omega)))
  go_region
  all_goals
    go_wp2
    refine bodyPost_ret (by simp [results, Try.results39, go_sem, *]; try rfl) rfl ?_
    exact ⟨grownBelow (World.grownBy.refl _ _) (Nat.le_refl _) (by (repeat' (first | (with_reducible exact Below.refl _ _) | (with_reducible assumption) | (with_reducible refine Below.drew ?_) | (with_reducible refine belowDrewN ?_ _) | (with_reducible refine Below.alloc ?_ ?_ _) | (with_reducible refine Below.setCell ?_ ?_ _) | (with_reducible refine belowStep (by assumption) ?_ ?_) | (with_reducible exact Below.size (by assumption)) | go_size))), _, _, _, _, rfl, fun _ => ⟨Hst.out, trivial, HG.out, by omega, by omega⟩, fun h => by cases h⟩
theorem readEngel (w : World) (A : Option Addr) (c : Nat) (xs : List Int) (h : Reads w A xs) (hl : xs.length ≤ 24) (h64 : In64 xs) : Calls Try.prog 18 #[.slice A xs.length c] w (fun e w' => ∃ p q : Int, e = .returned (.tuple #[.agg #[.int .i64 p, .int .i64 q], .bool (engB xs)]) ∧ Below w.heap.size w w') := by
  refine (fromEngel_any w A c xs h (by omega) h64).mono ?_
  rintro e w' ⟨rfl, hb⟩
  exact ⟨_, _, rfl, hb⟩
set_option maxRecDepth 100000 in
set_option maxHeartbeats 2000000 in
theorem engelOf_any (n d : Int) (w : World) (rn : -9223372036854775808 ≤ n ∧ n ≤ 9223372036854775807) (rd : -9223372036854775808 ≤ d ∧ d ≤ 9223372036854775807) : Calls Try.prog 12 #[.agg #[.int .i64 n, .int .i64 d]] w (RetLB ((engO n d).getD []) (engO n d).isSome w) := by
  cases h : belowB n d with
  | false =>
    have E : Hid (engO n d = none) := Lib.hid (by unfold engO; rw [h]; rfl)
    go_enter Try.func12, Try.ntmps12
    go_wp2_with (go_at_call 37; refine (isBelowOne_any _ _ _ rn rd).mono ?_; rintro e w1 ⟨rfl, hb1⟩; obtain ⟨hc1, hf1⟩ := bcellB hb1; have hz1 := hb1.size; (try simp only [World.size_alloc] at hc1 hf1 hz1); (try have hy1_r_0 : wr.heap.size < w1.heap.size := by omega); (try have hn1_r_0 : wr.heap.size ≠ w1.heap.size := by omega); (try have hm1_r_0 : w1.heap.size ≠ wr.heap.size := by omega); (try have hy1_r_1 : wr.heap.size + 1 < w1.heap.size := by omega); (try have hn1_r_1 : wr.heap.size + 1 ≠ w1.heap.size := by omega); (try have hm1_r_1 : w1.heap.size ≠ wr.heap.size + 1 := by omega); (try have hy1_r_2 : wr.heap.size + 1 + 1 < w1.heap.size := by omega); (try have hp1_r_1 : wr.heap.size < w1.heap.size + 1 := by omega); (try have hp1_r_2 : wr.heap.size < w1.heap.size + 1 + 1 := by omega); (try have hy1_0_0 : w.heap.size < w1.heap.size := by omega); (try have hn1_0_0 : w.heap.size ≠ w1.heap.size := by omega); (try have hm1_0_0 : w1.heap.size ≠ w.heap.size := by omega); (try have hy1_0_1 : w.heap.size + 1 < w1.heap.size := by omega); (try have hn1_0_1 : w.heap.size + 1 ≠ w1.heap.size := by omega); (try have hm1_0_1 : w1.heap.size ≠ w.heap.size + 1 := by omega); (try have hy1_0_2 : w.heap.size + 1 + 1 < w1.heap.size := by omega); (try have hp1_0_1 : w.heap.size < w1.heap.size + 1 := by omega); (try have hp1_0_2 : w.heap.size < w1.heap.size + 1 + 1 := by omega); (try have hg1_g1 : g1 < w1.heap.size := by omega); (try have hi1_g1 : g1 ≠ w1.heap.size := by omega); (try have hj1_g1 : w1.heap.size ≠ g1 := by omega); (try have hk1_g1 : g1 < w1.heap.size + 1 := by omega); (try have hg1_g2 : g2 < w1.heap.size := by omega); (try have hi1_g2 : g2 ≠ w1.heap.size := by omega); (try have hj1_g2 : w1.heap.size ≠ g2 := by omega); (try have hk1_g2 : g2 < w1.heap.size + 1 := by omega))
    go_ret2
    rw [E.out]
    exact ⟨_, rfl, OwnI.empty _ _, by (repeat' (first | (with_reducible exact Below.refl _ _) | (with_reducible assumption) | (with_reducible refine Below.drew ?_) | (with_reducible refine belowDrewN ?_ _) | (with_reducible refine Below.alloc ?_ ?_ _) | (with_reducible refine Below.setCell ?_ ?_ _) | (with_reducible refine belowStep (by assumption) ?_ ?_) | (with_reducible exact Below.size (by assumption)) | go_size))⟩
  | true =>
    obtain ⟨hg, hlt⟩ := belowB_yes h
    have E : Hid (engO n d = lstO stE engB 24 0 n d) := Lib.hid (by unfold engO; rw [if_pos h])
    have HL := Lib.hid fun (w : World) => listBy_any 39 18 #[] stE engB (fun _ _ => True) none 0 n d w (by simp) (fun _ _ _ _ _ => trivial) (fun _ _ => rfl) (fun _ _ => rfl) (fun l n d w1 hg hn _ _ _ => engelStep_R l n d w1 hg hn) small_E readEngel hg (by omega) (by omega) trivial
    go_enter Try.func12, Try.ntmps12
    go_wp2_with (go_at_call 37; refine (isBelowOne_any _ _ _ rn rd).mono ?_; rintro e w1 ⟨rfl, hb1⟩; obtain ⟨hc1, hf1⟩ := bcellB hb1; have hz1 := hb1.size; (try simp only [World.size_alloc] at hc1 hf1 hz1); (try have hy1_r_0 : wr.heap.size < w1.heap.size := by omega); (try have hn1_r_0 : wr.heap.size ≠ w1.heap.size := by omega); (try have hm1_r_0 : w1.heap.size ≠ wr.heap.size := by omega); (try have hy1_r_1 : wr.heap.size + 1 < w1.heap.size := by omega); (try have hn1_r_1 : wr.heap.size + 1 ≠ w1.heap.size := by omega); (try have hm1_r_1 : w1.heap.size ≠ wr.heap.size + 1 := by omega); (try have hy1_r_2 : wr.heap.size + 1 + 1 < w1.heap.size := by omega); (try have hp1_r_1 : wr.heap.size < w1.heap.size + 1 := by omega); (try have hp1_r_2 : wr.heap.size < w1.heap.size + 1 + 1 := by omega); (try have hy1_0_0 : w.heap.size < w1.heap.size := by omega); (try have hn1_0_0 : w.heap.size ≠ w1.heap.size := by omega); (try have hm1_0_0 : w1.heap.size ≠ w.heap.size := by omega); (try have hy1_0_1 : w.heap.size + 1 < w1.heap.size := by omega); (try have hn1_0_1 : w.heap.size + 1 ≠ w1.heap.size := by omega); (try have hm1_0_1 : w1.heap.size ≠ w.heap.size + 1 := by omega); (try have hy1_0_2 : w.heap.size + 1 + 1 < w1.heap.size := by omega); (try have hp1_0_1 : w.heap.size < w1.heap.size + 1 := by omega); (try have hp1_0_2 : w.heap.size < w1.heap.size + 1 + 1 := by omega); (try have hg1_g1 : g1 < w1.heap.size := by omega); (try have hi1_g1 : g1 ≠ w1.heap.size := by omega); (try have hj1_g1 : w1.heap.size ≠ g1 := by omega); (try have hk1_g1 : g1 < w1.heap.size + 1 := by omega); (try have hg1_g2 : g2 < w1.heap.size := by omega); (try have hi1_g2 : g2 ≠ w1.heap.size := by omega); (try have hj1_g2 : w1.heap.size ≠ g2 := by omega); (try have hk1_g2 : g2 < w1.heap.size + 1 := by omega))
    refine (HL.out _).mono ?_
    intro e w2 h2
    obtain ⟨v2, rfl, ho2, hb2⟩ := h2.below
    go_wp2
    go_ret2
    rw [E.out]
    exact ⟨_, rfl, ho2.mono (by (first | (go_size; done) | ((try simp only [World.size_alloc, World.size_setCell, World.size_drew, World.heap_drewN]); omega))), by (repeat' (first | (with_reducible exact Below.refl _ _) | (with_reducible assumption) | (with_reducible refine Below.drew ?_) | (with_reducible refine belowDrewN ?_ _) | (with_reducible refine Below.alloc ?_ ?_ _) | (with_reducible refine Below.setCell ?_ ?_ _) | (with_reducible refine belowStep (by assumption) ?_ ?_) | (with_reducible exact Below.size (by assumption)) | go_size))⟩
end Go.Proofs.Ytbjblkfibinenab
