
/-
  Contracts of what the steps by inverses leave, in the program and in the model.
-/
import Derived.Test.YtbjblkfibinenadGreatGolM
import Derived.Test.YtbjblkfibinenadGreatFracS
import Derived.Test.YtbjblkfibinenadGreatOwn
import Derived.Test.YtbjblkfibinenadGreatUnite
namespace Go.Proofs.YtbjblkfibinenadGreat
open Go.RowKit
/-- the step from a proper fraction leaves a proper one, or 0 -/
theorem goN_small {n d : Int} (h : proB n d = true) : goodB (goN n d) (goD n d) = true ∧ goN n d < goD n d ∧ goN n d < n ∧ goD n d < d ∧ 0 ≤ goN n d ∧ 1 ≤ goD n d ∧ 0 ≤ goT n d ∧ goT n d ≤ 1000000000000000000 := by
  obtain ⟨n1, n2, d1, d2, hnd, hg, hgc, hi⟩ := proB_bounds h
  have G := gol h
  obtain ⟨e1, e2, e3⟩ := goR h
  rw [e1, e2, e3]
  have p2 := mul_bounds (a := d) (b := invI n d) (by omega) d2 (by have := G.s1; omega) (by have := G.sd; omega)
  exact ⟨G.gd, G.rs, G.rn, G.sd, G.r0, G.s1, p2.1, p2.2⟩
/-- of the program and of the model: the rests, if there are so few -/
def grsO (n d : Int) : Option (List (Int × Int)) := if proB n d = true then (walkR stI 300 0 n d).map fun es => (n, d) :: es.map (·.2) else none
theorem walkR_len {st : Stp} : ∀ (k : Nat) {l n d : Int} {es : List (Int × Int × Int)}, walkR st k l n d = some es → es.length ≤ k
  | 0, l, n, d, es, h => by
    by_cases h0 : n ≤ 0
    · rw [walkR_end h0] at h; injection h with h; subst h; simp
    · rw [walkR_out (by omega)] at h; cases h
  | k + 1, l, n, d, es, h => by
    by_cases h0 : n ≤ 0
    · rw [walkR_end h0] at h; injection h with h; subst h; simp
    · cases hs : st l n d with
      | none => rw [walkR_none (by omega) hs] at h; cases h
      | some p =>
        obtain ⟨t, n', d'⟩ := p
        rw [walkR_some (by omega) hs] at h
        cases hr : walkR st k (t + 1) n' d' with
        | none => rw [hr] at h; cases h
        | some es' =>
          rw [hr] at h
          injection h with h
          subst h
          have := walkR_len k hr
          simp; omega
theorem grsO_len (n d : Int) : ((grsO n d).getD []).length ≤ 301 := by
  unfold grsO
  split
  · cases h : walkR stI 300 0 n d with
    | none => simp
    | some es =>
      have := walkR_len 300 h
      simp
      omega
  · simp
theorem golombStep_R (I : Int → World → Prop) (hI : ∀ l w1 w2, I l w1 → Below w1.heap.size w1 w2 → ∀ l', I l' w2) (l n d : Int) (w : World) (hg : goodB n d = true) (hn : 1 ≤ n) (hi : I l w) : Calls Tryz.prog 14 (#[.agg #[.int .i64 n, .int .i64 d]] ++ #[]) w (StepB 1000000000000000000 stI I none l n d w) := by
  obtain ⟨b1, b2, b3, b4⟩ := good_bounds hg
  refine (golombStep_any n d w ⟨by omega, by omega⟩ ⟨by omega, by omega⟩).mono ?_
  rintro e w' ⟨rfl, hb⟩
  refine ⟨⟨hb.os, hb.tape, hb.output, hb.size, fun k hk _ => hb.block k hk⟩, _, _, _, _, rfl, fun h => ?_, fun h => stI_no h⟩
  have G := goN_small h
  exact ⟨stI_yes h, hI _ _ _ hi hb _, G.1, G.2.2.2.2.2.2.1, G.2.2.2.2.2.2.2⟩
def RetFO (o : Option (List (Int × Int))) (w : World) (e : Ending) (w' : World) : Prop := ∃ v, e = .returned (.tuple #[v, .bool o.isSome]) ∧ OwnF w' w.heap.size v (o.getD []) ∧ Below w.heap.size w w'
set_option maxRecDepth 100000 in
set_option maxHeartbeats 2000000 in
theorem golombRests_any (n d : Int) (w : World) (rn : -9223372036854775808 ≤ n ∧ n ≤ 9223372036854775807) (rd : -9223372036854775808 ≤ d ∧ d ≤ 9223372036854775807) : Calls Tryz.prog 8 #[.agg #[.int .i64 n, .int .i64 d]] w (RetFO (grsO n d) w) := by
  cases h : proB n d with
  | false =>
    have E : Hid (grsO n d = none) := Lib.hid (by unfold grsO; rw [h]; rfl)
    go_enter Tryz.func8, Tryz.ntmps8
    go_wp2_with fail
    refine (isProper_any _ _ _ rn rd).mono ?_; rintro e w1 ⟨rfl, hb1⟩; obtain ⟨hc1, hf1⟩ := bcellB hb1; have hz1 := hb1.size; (try simp only [World.size_alloc] at hc1 hf1 hz1); (try have hy1_r_0 : wr.heap.size < w1.heap.size := by omega); (try have hn1_r_0 : wr.heap.size ≠ w1.heap.size := by omega); (try have hm1_r_0 : w1.heap.size ≠ wr.heap.size := by omega); (try have hy1_r_1 : wr.heap.size + 1 < w1.heap.size := by omega); (try have hn1_r_1 : wr.heap.size + 1 ≠ w1.heap.size := by omega); (try have hm1_r_1 : w1.heap.size ≠ wr.heap.size + 1 := by omega); (try have hy1_r_2 : wr.heap.size + 1 + 1 < w1.heap.size := by omega); (try have hp1_r_1 : wr.heap.size < w1.heap.size + 1 := by omega); (try have hp1_r_2 : wr.heap.size < w1.heap.size + 1 + 1 := by omega); (try have hy1_0_0 : w.heap.size < w1.heap.size := by omega); (try have hn1_0_0 : w.heap.size ≠ w1.heap.size := by omega); (try have hm1_0_0 : w1.heap.size ≠ w.heap.size := by omega); (try have hy1_0_1 : w.heap.size + 1 < w1.heap.size := by omega); (try have hn1_0_1 : w.heap.size + 1 ≠ w1.heap.size := by omega); (try have hm1_0_1 : w1.heap.size ≠ w.heap.size + 1 := by omega); (try have hy1_0_2 : w.heap.size + 1 + 1 < w1.heap.size := by omega); (try have hp1_0_1 : w.heap.size < w1.heap.size + 1 := by omega); (try have hp1_0_2 : w.heap.size < w1.heap.size + 1 + 1 := by omega); (try have hg1_g1 : g1 < w1.heap.size := by omega); (try have hi1_g1 : g1 ≠ w1.heap.size := by omega); (try have hj1_g1 : w1.heap.size ≠ g1 := by omega); (try have hk1_g1 : g1 < w1.heap.size + 1 := by omega); (try have hg1_g2 : g2 < w1.heap.size := by omega); (try have hi1_g2 : g2 ≠ w1.heap.size := by omega); (try have hj1_g2 : w1.heap.size ≠ g2 := by omega); (try have hk1_g2 : g2 < w1.heap.size + 1 := by omega)
    rw [h]
    go_wp2
    go_ret2
    rw [E.out]
    exact ⟨_, rfl, OwnF.empty _ _, by (repeat' (first | (with_reducible exact Below.refl _ _) | (with_reducible assumption) | (with_reducible refine Below.drew ?_) | (with_reducible refine belowDrewN ?_ _) | (with_reducible refine Below.alloc ?_ ?_ _) | (with_reducible refine Below.setCell ?_ ?_ _) | (with_reducible refine belowStep (by assumption) ?_ ?_) | (with_reducible exact Below.size (by assumption)) | go_size))⟩
  | true =>
    have hg := ((proB_iff n d).1 h).1
    have EN : Hid (walkR stI 300 0 n d = none → grsO n d = none) := Lib.hid (fun hw => by unfold grsO; rw [if_pos h, hw]; rfl)
    have ES : Hid (∀ es, walkR stI 300 0 n d = some es → grsO n d = some ((n, d) :: es.map (·.2))) := Lib.hid (fun es hw => by unfold grsO; rw [if_pos h, hw]; rfl)
    have HW := Lib.hid fun (w : World) => walkM_any 1000000000000000000 300 (by omega) (by omega) 14 #[] stI (fun _ _ => True) none 0 n d w (by simp) (fun _ _ _ _ _ => trivial) (fun _ _ => rfl) (fun l n d w1 hg hn _ _ _ => golombStep_R (fun _ _ => True) (fun _ _ _ _ _ _ => trivial) l n d w1 hg hn trivial) hg (by omega) (by omega) trivial
    go_enter Tryz.func8, Tryz.ntmps8
    go_wp2_with fail
    refine (isProper_any _ _ _ rn rd).mono ?_; rintro e w1 ⟨rfl, hb1⟩; obtain ⟨hc1, hf1⟩ := bcellB hb1; have hz1 := hb1.size; (try simp only [World.size_alloc] at hc1 hf1 hz1); (try have hy1_r_0 : wr.heap.size < w1.heap.size := by omega); (try have hn1_r_0 : wr.heap.size ≠ w1.heap.size := by omega); (try have hm1_r_0 : w1.heap.size ≠ wr.heap.size := by omega); (try have hy1_r_1 : wr.heap.size + 1 < w1.heap.size := by omega); (try have hn1_r_1 : wr.heap.size + 1 ≠ w1.heap.size := by omega); (try have hm1_r_1 : w1.heap.size ≠ wr.heap.size + 1 := by omega); (try have hy1_r_2 : wr.heap.size + 1 + 1 < w1.heap.size := by omega); (try have hp1_r_1 : wr.heap.size < w1.heap.size + 1 := by omega); (try have hp1_r_2 : wr.heap.size < w1.heap.size + 1 + 1 := by omega); (try have hy1_0_0 : w.heap.size < w1.heap.size := by omega); (try have hn1_0_0 : w.heap.size ≠ w1.heap.size := by omega); (try have hm1_0_0 : w1.heap.size ≠ w.heap.size := by omega); (try have hy1_0_1 : w.heap.size + 1 < w1.heap.size := by omega); (try have hn1_0_1 : w.heap.size + 1 ≠ w1.heap.size := by omega); (try have hm1_0_1 : w1.heap.size ≠ w.heap.size + 1 := by omega); (try have hy1_0_2 : w.heap.size + 1 + 1 < w1.heap.size := by omega); (try have hp1_0_1 : w.heap.size < w1.heap.size + 1 := by omega); (try have hp1_0_2 : w.heap.size < w1.heap.size + 1 + 1 := by omega); (try have hg1_g1 : g1 < w1.heap.size := by omega); (try have hi1_g1 : g1 ≠ w1.heap.size := by omega); (try have hj1_g1 : w1.heap.size ≠ g1 := by omega); (try have hk1_g1 : g1 < w1.heap.size + 1 := by omega); (try have hg1_g2 : g2 < w1.heap.size := by omega); (try have hi1_g2 : g2 ≠ w1.heap.size := by omega); (try have hj1_g2 : w1.heap.size ≠ g2 := by omega); (try have hk1_g2 : g2 < w1.heap.size + 1 := by omega)
    rw [h]
    go_wp2_with fail
    refine (HW.out _).mono ?_
    rintro e w2 ⟨hg2, h2⟩
    have hb2 : Below w1.heap.size w1 w2 := (Below.refl _ _).grown hg2 (Nat.le_refl _) (by simp)
    have hz2 := hb2.size
    clear hg2
    rcases h2 with ⟨es, v1, v2, hw, hl, rfl, ho1, ho2⟩ | ⟨hw, rfl⟩
    · have E := Lib.hid (ES.out es hw)
      have Ho2 := Lib.hid ho2
      clear ho1 ho2 hw
      go_wp2
      go_ret2
      rw [E.out]
      exact ⟨_, rfl, Ho2.out.mono (by (first | (go_size; done) | ((try simp only [World.size_alloc, World.size_setCell, World.size_drew, World.heap_drewN]); omega))), by (repeat' (first | (with_reducible exact Below.refl _ _) | (with_reducible assumption) | (with_reducible refine Below.drew ?_) | (with_reducible refine belowDrewN ?_ _) | (with_reducible refine Below.alloc ?_ ?_ _) | (with_reducible refine Below.setCell ?_ ?_ _) | (with_reducible refine belowStep (by assumption) ?_ ?_) | (with_reducible exact Below.size (by assumption)) | go_size))⟩
    · have E := Lib.hid (EN.out hw)
      go_wp2
      go_ret2
      rw [E.out]
      exact ⟨_, rfl, OwnF.empty _ _, by (repeat' (first | (with_reducible exact Below.refl _ _) | (with_reducible assumption) | (with_reducible refine Below.drew ?_) | (with_reducible refine belowDrewN ?_ _) | (with_reducible refine Below.alloc ?_ ?_ _) | (with_reducible refine Below.setCell ?_ ?_ _) | (with_reducible refine belowStep (by assumption) ?_ ?_) | (with_reducible exact Below.size (by assumption)) | go_size))⟩
/-- what the model's steps leave: the numbers, put in order, and the rests -/
def TermsP (m : Nat) (n d : Int) (w : World) (e : Ending) (w' : World) : Prop :=
  Below w.heap.size w w' ∧ ((∃ es v1 v2, walkR stI m 0 n d = some es ∧ e = .returned (.tuple #[v1, v2, .bool true]) ∧ OwnI w' w.heap.size v1 (putAll [] (takenOf es)) ∧ OwnF w' w.heap.size v2 ((n, d) :: es.map (·.2))) ∨ (walkR stI m 0 n d = none ∧ e = .returned (.tuple #[.slice none 0 0, .slice none 0 0, .bool false])))
/-- the numbers that are taken fall -/
theorem goT_less {n d : Int} (h : proB n d = true) : goT n d < d * d ∧ goD n d * goD n d < goT n d ∧ goD n d * goD n d < d * d := by
  obtain ⟨n1, n2, d1, d2, hnd, hg, hgc, hi⟩ := proB_bounds h
  have G := gol h
  obtain ⟨e1, e2, e3⟩ := goR h
  rw [e1, e3]
  have s1 := G.s1
  have sd := G.sd
  generalize invI n d = s at *
  have h1 : d * s < d * d := Int.mul_lt_mul_of_pos_left sd (by omega)
  have h2 : s * s < d * s := Int.mul_lt_mul_of_pos_right sd (by omega)
  exact ⟨h1, h2, by omega⟩
theorem has_no {xs : List Int} {v b : Int} (h : ∀ x ∈ xs, b < x) (hv : v < b) : ¬ hasB xs v = true := fun hh => by
  have := h v ((hasB_iff xs v).1 hh)
  omega
theorem put_more {xs : List Int} {v b c : Int} (h : ∀ x ∈ xs, b < x) (hc : c < b) (hv : c < v) : ∀ x ∈ putL xs v, c < x := fun x hx => by
  unfold putL at hx
  split at hx
  · have := h x hx; omega
  · rcases ins_mem.1 hx with h1 | h1
    · omega
    · have := h x h1; omega
set_option maxRecDepth 100000 in
set_option maxHeartbeats 8000000 in
theorem meTerms_any (m : Nat) (hm : m ≤ 1000) (n0 d0 : Int) (w : World) (h : proB n0 d0 = true) : Calls Tryz.prog 38 #[.agg #[.int .i64 n0, .int .i64 d0], .int .i64 (m : Int)] w (TermsP m n0 d0 w) := by
  have H := Lib.hid h
  clear h
  have F0 := Lib.hid (OwnF.one (w.alloc (.cells #[.int .i64 n0, .int .i64 d0] 25)) (w.heap.size + 1) n0 d0 (by simp))
  have T0 := Lib.hid (TwoAt.new w n0 d0 25)
  go_enter Tryz.func38, Tryz.ntmps38
  go_wp2
  go_loopw [7, 8] (fun v7 v8 wr => ∃ (es : List (Int × Int × Int)) (xs : List Int) (l n d : Int) (A7 A8 : Option Addr) (c7 c8 : Nat), v7 = .slice A7 xs.length c7 ∧ v8 = .slice A8 (es.length + 1) c8 ∧ putAll [] (takenOf es) = xs ∧ xs.length ≤ es.length ∧ es.length ≤ xs.length ∧ (∀ x ∈ xs, d * d < x) ∧ Rising xs ∧ Walked stI m 0 n0 d0 es l n d ∧ goodB n d = true ∧ n < d ∧ OwnI wr (w.heap.size + 1) (.slice A7 xs.length c7) xs ∧ OwnF wr (w.heap.size + 1) (.slice A8 (es.length + 1) c8) ((n0, d0) :: es.map (·.2)) ∧ TwoAt wr w.heap.size n d ∧ Below w.heap.size w wr) (fun _ v8 _ => m + 1 - slen v8)
  case atStart =>
    have hp := (proB_iff n0 d0).1 H.out
    exact ⟨[], [], 0, n0, d0, none, some ⟨w.heap.size + 1, 0, none⟩, 0, 1, rfl, (by simp), rfl, by simp, by simp, (by simp), List.Pairwise.nil, Walked.start _ _ _ _ _, hp.1, hp.2.2, OwnI.empty _ _, (by simpa using F0.out), (by (refine ⟨?_, ?_, ?_, ?_, ?_⟩ <;> first | (simp only [World.size_alloc]; omega) | (first | (simp [*, World.cell?_alloc_some]; done) | (simp [go_sem, *]; done)))), by (repeat' (first | (with_reducible exact Below.refl _ _) | (with_reducible assumption) | (with_reducible refine Below.drew ?_) | (with_reducible refine belowDrewN ?_ _) | (with_reducible refine Below.alloc ?_ ?_ _) | (with_reducible refine Below.setCell ?_ ?_ _) | (with_reducible refine belowStep (by assumption) ?_ ?_) | (with_reducible exact Below.size (by assumption)) | go_size))⟩
  case round =>
    obtain ⟨es, xs, l, n, d, A7, A8, c7, c8, rfl, rfl, hxs, hl1, hl2, hbig, hri, hwk, hgd, hnd, ho7, ho8, hq, hbr⟩ := hrel
    have Hxs := Lib.hid hxs
    have Hbig := Lib.hid hbig
    have Hri := Lib.hid hri
    have Hwk := Lib.hid hwk
    have Hgd := Lib.hid hgd
    have Ho7 := Lib.hid ho7
    have Ho8 := Lib.hid ho8
    have Hq := Lib.hid hq
    have hzr := hbr.size
    have hle : es.length ≤ m := hwk.1
    obtain ⟨n1, n2, d1, d2⟩ := good_bounds hgd
    clear hxs hbig hri hwk hgd ho7 ho8
    obtain ⟨q1, q2, q3, q4, q5⟩ := hq
    by_cases hn : 0 < n
    · have hp : proB n d = true := (proB_iff n d).2 ⟨Hgd.out, by omega, hnd⟩
      by_cases hfull : xs.length = m
      · have hfi : ((xs.length : Nat) : Int) = (m : Int) := by omega
        go_wp2
        go_ret3
        exact ⟨by (repeat' (first | (with_reducible exact Below.refl _ _) | (with_reducible assumption) | (with_reducible refine Below.drew ?_) | (with_reducible refine belowDrewN ?_ _) | (with_reducible refine Below.alloc ?_ ?_ _) | (with_reducible refine Below.setCell ?_ ?_ _) | (with_reducible refine belowStep (by assumption) ?_ ?_) | (with_reducible exact Below.size (by assumption)) | go_size)), .inr ⟨Hwk.out.full hn (by omega), rfl⟩⟩
      · have hfi : (((xs.length : Nat) : Int) == (m : Int)) = false := by simp; omega
        have hfd : ((xs.length : Nat) : Int) ≠ (m : Int) := by omega
        have G := Lib.hid (goN_small hp)
        have L := Lib.hid (goT_less hp)
        have Hst := Lib.hid (Hwk.out.step (by omega) hn (stI_yes (l := l) hp))
        have HM := Lib.hid fun (w : World) => meGolomb_any n d w hp
        have Hput : Hid (Rising (putL xs (goT n d)) ∧ (putL xs (goT n d)).length = xs.length + 1 ∧ ∀ x ∈ putL xs (goT n d), goD n d * goD n d < x) := Lib.hid ⟨Hri.out.put _, by
          rw [put_no Hri.out (has_no Hbig.out L.out.1), ins_len _ _ _ (pos_le _ _)], put_more Hbig.out L.out.2.2 L.out.2.1⟩
        have g0 := G.out.2.2.2.2.2.2.1
        clear hp
        generalize goT n d = t at *
        generalize goN n d = N at *
        generalize goD n d = D at *
        go_wp2_with fail
        refine (HM.out _).mono ?_; rintro e w2 ⟨rfl, hb2⟩; obtain ⟨hc2, hf2⟩ := bcellB hb2; have hz2 := hb2.size; (try simp only [World.size_alloc, World.size_setCell, World.size_drew, World.heap_drewN] at hc2 hf2 hz2); (try have hy2_00 : w.heap.size < w2.heap.size := by omega); (try have hn2_00 : w.heap.size ≠ w2.heap.size := by omega); (try have hm2_00 : w2.heap.size ≠ w.heap.size := by omega); (try have hp2_00 : w.heap.size < w2.heap.size + 1 := by omega); (try have hy2_01 : w.heap.size + 1 < w2.heap.size := by omega); (try have hn2_01 : w.heap.size + 1 ≠ w2.heap.size := by omega); (try have hm2_01 : w2.heap.size ≠ w.heap.size + 1 := by omega); (try have hp2_01 : w.heap.size + 1 < w2.heap.size + 1 := by omega)
        have Ho7b := Lib.hid (Ho7.out.below hb2)
        have Ho8b := Lib.hid (Ho8.out.below hb2)
        go_wp2_with fail
        refine (l1Put_own _ t (w.heap.size + 1) A7 c7 xs (Ho7b.out.below (by (repeat' (first | (with_reducible exact Below.refl _ _) | (with_reducible assumption) | (with_reducible refine Below.drew ?_) | (with_reducible refine belowDrewN ?_ _) | (with_reducible refine Below.alloc ?_ ?_ _) | (with_reducible refine Below.setCell ?_ ?_ _) | (with_reducible refine belowStep (by assumption) ?_ ?_) | (with_reducible exact Below.size (by assumption)) | go_size)))) (by omega) (by (first | (go_size; done) | ((try simp only [World.size_alloc, World.size_setCell, World.size_drew, World.heap_drewN]); omega)))).mono ?_; rintro e w3 ⟨v3, rfl, ho3, hb3⟩; obtain ⟨hc3, hf3⟩ := bcellB hb3; have hz3 := hb3.size; (try simp only [World.size_alloc] at hc3 hf3 hz3); (try have hy3_00 : w.heap.size < w3.heap.size := by omega); (try have hn3_00 : w.heap.size ≠ w3.heap.size := by omega); (try have hm3_00 : w3.heap.size ≠ w.heap.size := by omega); (try have hp3_00 : w.heap.size < w3.heap.size + 1 := by omega); (try have hy3_01 : w.heap.size + 1 < w3.heap.size := by omega); (try have hn3_01 : w.heap.size + 1 ≠ w3.heap.size := by omega); (try have hm3_01 : w3.heap.size ≠ w.heap.size + 1 := by omega); (try have hp3_01 : w.heap.size + 1 < w3.heap.size + 1 := by omega); (try have hy3_10 : w2.heap.size < w3.heap.size := by omega); (try have hn3_10 : w2.heap.size ≠ w3.heap.size := by omega); (try have hm3_10 : w3.heap.size ≠ w2.heap.size := by omega); (try have hp3_10 : w2.heap.size < w3.heap.size + 1 := by omega); (try have hy3_11 : w2.heap.size + 1 < w3.heap.size := by omega); (try have hn3_11 : w2.heap.size + 1 ≠ w3.heap.size := by omega); (try have hm3_11 : w3.heap.size ≠ w2.heap.size + 1 := by omega); (try have hp3_11 : w2.heap.size + 1 < w3.heap.size + 1 := by omega)
        have Ho3 := Lib.hid ho3
        have Ho8c := Lib.hid (Ho8b.out.below (show Below w2.heap.size w2 w3 by (repeat' (first | (with_reducible exact Below.refl _ _) | (with_reducible assumption) | (with_reducible refine Below.drew ?_) | (with_reducible refine belowDrewN ?_ _) | (with_reducible refine Below.alloc ?_ ?_ _) | (with_reducible refine Below.setCell ?_ ?_ _) | (with_reducible refine belowStep (by assumption) ?_ ?_) | (with_reducible exact Below.size (by assumption)) | go_size))))
        clear ho3
        have TR := Lib.hid (((TwoAt.new w2 N D 25).below hb3).below ((Below.refl _ _).alloc (Nat.le_refl _) (.cells #[.int .i64 N, .int .i64 D] 25)))
        have TA := Lib.hid ((((Hq.out.below hb2).below ((Below.refl _ _).alloc (Nat.le_refl _) (.cells #[.int .i64 N, .int .i64 D] 25))).below hb3).below ((Below.refl _ _).alloc (Nat.le_refl _) (.cells #[.int .i64 N, .int .i64 D] 25)))
        obtain ⟨r1, r2, r3, r4, r5⟩ := (TwoAt.new w2 N D 25).below hb3
        have Hb8 := Lib.hid fun k hk => Ho8.out.block k hk
        have hne2 : w2.heap.size ≠ w.heap.size := by omega
        have hne2' : w.heap.size ≠ w2.heap.size := by omega
        have Hne3 : Hid (v3.ownBlock ≠ some w.heap.size) := Lib.hid fun e => by have := (Ho3.out.block _ e).1; omega
        go_wp2_with (at_builtin; refine wpList_appF rfl _ _ rfl rfl (OwnF.below Ho8c.out (by (repeat' (first | (with_reducible exact Below.refl _ _) | (with_reducible assumption) | (with_reducible refine Below.drew ?_) | (with_reducible refine belowDrewN ?_ _) | (with_reducible refine Below.alloc ?_ ?_ _) | (with_reducible refine Below.setCell ?_ ?_ _) | (with_reducible refine belowStep (by assumption) ?_ ?_) | (with_reducible exact Below.size (by assumption)) | go_size)))) w3.heap.size N D rfl (by (first | (simp [*]; done) | (simp [go_sem, *]; done))) (by (first | (simp [*]; done) | (simp [go_sem, *]; done))) (by simp; omega) (by (first | (go_size; done) | ((try simp only [World.size_alloc, World.size_setCell, World.size_drew, World.heap_drewN]); omega))) ?_; intro v5 w5 ho5 hg5 ht5; obtain ⟨s1, s2, s3, s4, s5⟩ := keptAt hg5 (fun e => by have := Hb8.out _ e; omega) TR.out; obtain ⟨p1, p2, p3, p4, p5⟩ := keptAt hg5 (fun e => by have := Hb8.out _ e; omega) TA.out)
        have Ho5 := Lib.hid ho5
        have Ho35 := Lib.hid (OwnI.keptF (OwnI.below Ho3.out ((Below.refl _ _).alloc (Nat.le_refl _) _)) (OwnF.below Ho8c.out ((Below.refl _ _).alloc (Nat.le_refl _) _)) hg5)
        have hb5 : Below w.heap.size w w5 := Below.trans (show Below w.heap.size w (w3.alloc (.cells #[.int .i64 N, .int .i64 D] 25)) by (repeat' (first | (with_reducible exact Below.refl _ _) | (with_reducible assumption) | (with_reducible refine Below.drew ?_) | (with_reducible refine belowDrewN ?_ _) | (with_reducible refine Below.alloc ?_ ?_ _) | (with_reducible refine Below.setCell ?_ ?_ _) | (with_reducible refine belowStep (by assumption) ?_ ?_) | (with_reducible exact Below.size (by assumption)) | go_size))) (belowOf hg5 (by (first | (go_size; done) | ((try simp only [World.size_alloc, World.size_setCell, World.size_drew, World.heap_drewN]); omega))) (fun k hk => by have := (Hb8.out k hk).1; omega))
        have hz5 := hg5.size
        simp only [World.size_alloc] at hz5
        have Hne5 : Hid (v5.ownBlock ≠ some w.heap.size) := Lib.hid fun e => by have := (Ho5.out.block _ e).1; omega
        clear ho5 hg5 ht5
        obtain ⟨A3, c3, e3, _⟩ := Ho3.out.form
        obtain ⟨A5, c5, e5⟩ := Ho5.out.form
        have hl5 : (((n0, d0) :: es.map (·.2)) ++ [(N, D)]).length = es.length + 1 + 1 := by simp
        rw [hl5] at e5
        subst e3 e5
        go_wp2
        go_roundw
        case rel =>
          have hle5 : (es ++ [(t, N, D)]).length = es.length + 1 := by simp
          refine ⟨es ++ [(t, N, D)], putL xs t, t + 1, N, D, A3, A5, c3, c5, rfl, by rw [hle5], by rw [takenOf_snoc, putAll_snoc, Hxs.out], by rw [Hput.out.2.1]; omega, by rw [Hput.out.2.1]; omega, Hput.out.2.2, Hput.out.1, Hst.out, G.out.1, G.out.2.1, ?_, ?_, ?_, ?_⟩
          · exact (Ho35.out.setO _ 0 _ Hne3.out).setO _ 1 _ Hne3.out
          · rw [hle5, List.map_append]
            exact (Ho5.out.setO _ 0 _ Hne5.out).setO _ 1 _ Hne5.out
          · (refine ⟨?_, ?_, ?_, ?_, ?_⟩ <;> first | (first | (simp [*]; done) | (simp [go_sem, *]; done)) | (first | (go_size; done) | ((try simp only [World.size_alloc, World.size_setCell, World.size_drew, World.heap_drewN]); omega)))
          · (repeat' (first | (with_reducible exact Below.refl _ _) | (with_reducible assumption) | (with_reducible refine Below.drew ?_) | (with_reducible refine belowDrewN ?_ _) | (with_reducible refine Below.alloc ?_ ?_ _) | (with_reducible refine Below.setCell ?_ ?_ _) | (with_reducible refine belowStep (by assumption) ?_ ?_) | (with_reducible exact Below.size (by assumption)) | go_size))
        case measure => simp [slen]; omega
    · have hn0 : n = 0 := by omega
      have hdn := Hwk.out.done (by omega)
      go_wp2
      go_ret3
      exact ⟨by (repeat' (first | (with_reducible exact Below.refl _ _) | (with_reducible assumption) | (with_reducible refine Below.drew ?_) | (with_reducible refine belowDrewN ?_ _) | (with_reducible refine Below.alloc ?_ ?_ _) | (with_reducible refine Below.setCell ?_ ?_ _) | (with_reducible refine belowStep (by assumption) ?_ ?_) | (with_reducible exact Below.size (by assumption)) | go_size)), .inl ⟨es, _, _, hdn, rfl, by rw [Hxs.out]; exact Ho7.out.mono (by omega), Ho8.out.mono (by omega)⟩⟩
set_option maxHeartbeats 2000000 in
theorem spec_golombRests_any (n d : Int) (w : World) : Calls Tryz.prog 9 #[.agg #[.int .i64 n, .int .i64 d]] w (RetFO (grsO n d) w) := by
  cases h : proB n d with
  | false =>
    have E : Hid (grsO n d = none) := Lib.hid (by unfold grsO; rw [h]; rfl)
    go_enter Tryz.func9, Tryz.ntmps9
    go_wp2_with fail
    refine (meProper_any _ _ _).mono ?_; rintro e w1 ⟨rfl, hb1⟩; obtain ⟨hc1, hf1⟩ := bcellB hb1; have hz1 := hb1.size; (try simp only [World.size_alloc] at hc1 hf1 hz1); (try have hy1_r_0 : wr.heap.size < w1.heap.size := by omega); (try have hn1_r_0 : wr.heap.size ≠ w1.heap.size := by omega); (try have hm1_r_0 : w1.heap.size ≠ wr.heap.size := by omega); (try have hy1_r_1 : wr.heap.size + 1 < w1.heap.size := by omega); (try have hn1_r_1 : wr.heap.size + 1 ≠ w1.heap.size := by omega); (try have hm1_r_1 : w1.heap.size ≠ wr.heap.size + 1 := by omega); (try have hy1_r_2 : wr.heap.size + 1 + 1 < w1.heap.size := by omega); (try have hp1_r_1 : wr.heap.size < w1.heap.size + 1 := by omega); (try have hp1_r_2 : wr.heap.size < w1.heap.size + 1 + 1 := by omega); (try have hy1_0_0 : w.heap.size < w1.heap.size := by omega); (try have hn1_0_0 : w.heap.size ≠ w1.heap.size := by omega); (try have hm1_0_0 : w1.heap.size ≠ w.heap.size := by omega); (try have hy1_0_1 : w.heap.size + 1 < w1.heap.size := by omega); (try have hn1_0_1 : w.heap.size + 1 ≠ w1.heap.size := by omega); (try have hm1_0_1 : w1.heap.size ≠ w.heap.size + 1 := by omega); (try have hy1_0_2 : w.heap.size + 1 + 1 < w1.heap.size := by omega); (try have hp1_0_1 : w.heap.size < w1.heap.size + 1 := by omega); (try have hp1_0_2 : w.heap.size < w1.heap.size + 1 + 1 := by omega); (try have hg1_g1 : g1 < w1.heap.size := by omega); (try have hi1_g1 : g1 ≠ w1.heap.size := by omega); (try have hj1_g1 : w1.heap.size ≠ g1 := by omega); (try have hk1_g1 : g1 < w1.heap.size + 1 := by omega); (try have hg1_g2 : g2 < w1.heap.size := by omega); (try have hi1_g2 : g2 ≠ w1.heap.size := by omega); (try have hj1_g2 : w1.heap.size ≠ g2 := by omega); (try have hk1_g2 : g2 < w1.heap.size + 1 := by omega)
    rw [h]
    go_wp2
    go_ret2
    rw [E.out]
    exact ⟨_, rfl, OwnF.empty _ _, by (repeat' (first | (with_reducible exact Below.refl _ _) | (with_reducible assumption) | (with_reducible refine Below.drew ?_) | (with_reducible refine belowDrewN ?_ _) | (with_reducible refine Below.alloc ?_ ?_ _) | (with_reducible refine Below.setCell ?_ ?_ _) | (with_reducible refine belowStep (by assumption) ?_ ?_) | (with_reducible exact Below.size (by assumption)) | go_size))⟩
  | true =>
    have EN : Hid (walkR stI 300 0 n d = none → grsO n d = none) := Lib.hid (fun hw => by unfold grsO; rw [if_pos h, hw]; rfl)
    have ES : Hid (∀ es, walkR stI 300 0 n d = some es → grsO n d = some ((n, d) :: es.map (·.2))) := Lib.hid (fun es hw => by unfold grsO; rw [if_pos h, hw]; rfl)
    have HM := Lib.hid fun (w : World) => meTerms_any 300 (by omega) n d w h
    go_enter Tryz.func9, Tryz.ntmps9
    go_wp2_with fail
    refine (meProper_any _ _ _).mono ?_; rintro e w1 ⟨rfl, hb1⟩; obtain ⟨hc1, hf1⟩ := bcellB hb1; have hz1 := hb1.size; (try simp only [World.size_alloc] at hc1 hf1 hz1); (try have hy1_r_0 : wr.heap.size < w1.heap.size := by omega); (try have hn1_r_0 : wr.heap.size ≠ w1.heap.size := by omega); (try have hm1_r_0 : w1.heap.size ≠ wr.heap.size := by omega); (try have hy1_r_1 : wr.heap.size + 1 < w1.heap.size := by omega); (try have hn1_r_1 : wr.heap.size + 1 ≠ w1.heap.size := by omega); (try have hm1_r_1 : w1.heap.size ≠ wr.heap.size + 1 := by omega); (try have hy1_r_2 : wr.heap.size + 1 + 1 < w1.heap.size := by omega); (try have hp1_r_1 : wr.heap.size < w1.heap.size + 1 := by omega); (try have hp1_r_2 : wr.heap.size < w1.heap.size + 1 + 1 := by omega); (try have hy1_0_0 : w.heap.size < w1.heap.size := by omega); (try have hn1_0_0 : w.heap.size ≠ w1.heap.size := by omega); (try have hm1_0_0 : w1.heap.size ≠ w.heap.size := by omega); (try have hy1_0_1 : w.heap.size + 1 < w1.heap.size := by omega); (try have hn1_0_1 : w.heap.size + 1 ≠ w1.heap.size := by omega); (try have hm1_0_1 : w1.heap.size ≠ w.heap.size + 1 := by omega); (try have hy1_0_2 : w.heap.size + 1 + 1 < w1.heap.size := by omega); (try have hp1_0_1 : w.heap.size < w1.heap.size + 1 := by omega); (try have hp1_0_2 : w.heap.size < w1.heap.size + 1 + 1 := by omega); (try have hg1_g1 : g1 < w1.heap.size := by omega); (try have hi1_g1 : g1 ≠ w1.heap.size := by omega); (try have hj1_g1 : w1.heap.size ≠ g1 := by omega); (try have hk1_g1 : g1 < w1.heap.size + 1 := by omega); (try have hg1_g2 : g2 < w1.heap.size := by omega); (try have hi1_g2 : g2 ≠ w1.heap.size := by omega); (try have hj1_g2 : w1.heap.size ≠ g2 := by omega); (try have hk1_g2 : g2 < w1.heap.size + 1 := by omega)
    rw [h]
    go_wp2_with fail
    refine (HM.out _).mono ?_
    rintro e w2 ⟨hb2, h2⟩
    have hz2 := hb2.size
    rcases h2 with ⟨es, v1, v2, hw, rfl, ho1, ho2⟩ | ⟨hw, rfl⟩
    · have E := Lib.hid (ES.out es hw)
      have Ho2 := Lib.hid ho2
      clear ho1 ho2 hw
      go_wp2
      go_ret2
      rw [E.out]
      exact ⟨_, rfl, Ho2.out.mono (by (first | (go_size; done) | ((try simp only [World.size_alloc, World.size_setCell, World.size_drew, World.heap_drewN]); omega))), by (repeat' (first | (with_reducible exact Below.refl _ _) | (with_reducible assumption) | (with_reducible refine Below.drew ?_) | (with_reducible refine belowDrewN ?_ _) | (with_reducible refine Below.alloc ?_ ?_ _) | (with_reducible refine Below.setCell ?_ ?_ _) | (with_reducible refine belowStep (by assumption) ?_ ?_) | (with_reducible exact Below.size (by assumption)) | go_size))⟩
    · have E := Lib.hid (EN.out hw)
      go_wp2
      go_ret2
      rw [E.out]
      exact ⟨_, rfl, OwnF.empty _ _, by (repeat' (first | (with_reducible exact Below.refl _ _) | (with_reducible assumption) | (with_reducible refine Below.drew ?_) | (with_reducible refine belowDrewN ?_ _) | (with_reducible refine Below.alloc ?_ ?_ _) | (with_reducible refine Below.setCell ?_ ?_ _) | (with_reducible refine belowStep (by assumption) ?_ ?_) | (with_reducible exact Below.size (by assumption)) | go_size))⟩
end Go.Proofs.YtbjblkfibinenadGreat
