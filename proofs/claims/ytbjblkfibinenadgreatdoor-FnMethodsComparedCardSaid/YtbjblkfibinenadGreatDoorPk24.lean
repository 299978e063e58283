import Derived.Test.YtbjblkfibinenadGreatDoorPk23

/-
  Contracts of the program's and the model's functions on Engel lists.
-/
namespace Go.Proofs.YtbjblkfibinenadGreatDoor
open Go.RowKit
set_option maxHeartbeats 2000000 in
theorem fromEngel_any (w : World) (Axs : Option Addr) (cxs : Nat) (xs : List Int) (hxs : Reads w Axs xs) (lxs : xs.length ≤ 1048576) (r64 : In64 xs) : Calls Tryz.prog 55 #[.slice Axs xs.length cxs] w (Ret (.tuple #[.agg #[.int .i64 (engN xs), .int .i64 (engD xs)], .bool (engB xs)]) w) := by
  have Hxs := Lib.hid hxs
  have Hr64 := Lib.hid r64
  clear hxs r64
  cases hup : (decide (xs.length ≤ 24) && up 0 2 xs) with
  | false =>
    have E : Hid (engB xs = false) := Lib.hid (by unfold engB; rw [hup]; rfl)
    have E2 := Lib.hid (eng_no E.out)
    have Hup := Lib.hid hup
    clear hup
    go_enter Tryz.func55, Tryz.ntmps55
    go_wp2_with fail
    refine (isRising_any _ 2 0 _ _ _ (Hxs.out.below (by (repeat' (first | (with_reducible exact Below.refl _ _) | (with_reducible assumption) | (with_reducible refine Below.drew ?_) | (with_reducible refine belowDrewN ?_ _) | (with_reducible refine Below.alloc ?_ ?_ _) | (with_reducible refine Below.setCell ?_ ?_ _) | (with_reducible refine belowStep (by assumption) ?_ ?_) | (with_reducible exact Below.size (by assumption)) | go_size)))) lxs Hr64.out (by omega) (by omega) (by omega) (by omega)).mono ?_; rintro e w1 ⟨rfl, k1, rfl⟩
    rw [Hup.out]
    go_wp2
    refine bodyPost_ret (by simp [results, Tryz.results55, go_sem, *]; try rfl) rfl ?_
    exact ⟨ret_fr E2.out.1.symm E2.out.2.symm E.out.symm, by (repeat' (first | (with_reducible exact Below.refl _ _) | (with_reducible assumption) | (with_reducible refine Below.drew ?_) | (with_reducible refine belowDrewN ?_ _) | (with_reducible refine Below.alloc ?_ ?_ _) | (with_reducible refine Below.setCell ?_ ?_ _) | (with_reducible refine belowStep (by assumption) ?_ ?_) | (with_reducible exact Below.size (by assumption)) | go_size))⟩
  | true =>
    have h2 : xs.length ≤ 24 ∧ up 0 2 xs = true := by simpa using hup
    have Hup := Lib.hid hup
    have H2 := Lib.hid h2.2
    have hl := h2.1
    have Hin := Lib.hid fun (x : Int) (hx : x ∈ xs) => (by have := up_in (by omega) h2.2 x hx; omega : 1 ≤ x ∧ x ≤ 1000000000)
    clear hup h2
    cases hp : prodL 1 xs with
    | none =>
      have P := Lib.hid (prod_none hp)
      have E : Hid (engB xs = false) := Lib.hid (engB_none (by unfold engS; rw [hp]; rfl))
      have E2 := Lib.hid (eng_no E.out)
      clear hp
      go_enter Tryz.func55, Tryz.ntmps55
      go_wp2_with fail
      refine (isRising_any _ 2 0 _ _ _ (Hxs.out.below (by (repeat' (first | (with_reducible exact Below.refl _ _) | (with_reducible assumption) | (with_reducible refine Below.drew ?_) | (with_reducible refine belowDrewN ?_ _) | (with_reducible refine Below.alloc ?_ ?_ _) | (with_reducible refine Below.setCell ?_ ?_ _) | (with_reducible refine belowStep (by assumption) ?_ ?_) | (with_reducible exact Below.size (by assumption)) | go_size)))) lxs Hr64.out (by omega) (by omega) (by omega) (by omega)).mono ?_; rintro e w1 ⟨rfl, k1, rfl⟩
      rw [Hup.out]
      go_wp2_with fail
      refine (products_any _ _ _ _ (Hxs.out.below (by (repeat' (first | (with_reducible exact Below.refl _ _) | (with_reducible assumption) | (with_reducible refine Below.drew ?_) | (with_reducible refine belowDrewN ?_ _) | (with_reducible refine Below.alloc ?_ ?_ _) | (with_reducible refine Below.setCell ?_ ?_ _) | (with_reducible refine belowStep (by assumption) ?_ ?_) | (with_reducible exact Below.size (by assumption)) | go_size)))) lxs Hin.out hl).mono ?_; rintro e w2 ⟨v2, rfl, ho2, hb2⟩; have hz2 := hb2.size; (try simp only [World.size_alloc, World.heap_drewN] at hz2)
      rw [P.out.1]
      obtain ⟨hc2, hf2⟩ := bcellB hb2; have hz2 := hb2.size; (try simp only [World.size_alloc, World.heap_drewN] at hc2 hf2 hz2); (try have hy2_r_0 : wr.heap.size < w2.heap.size := by omega); (try have hn2_r_0 : wr.heap.size ≠ w2.heap.size := by omega); (try have hm2_r_0 : w2.heap.size ≠ wr.heap.size := by omega); (try have hy2_r_1 : wr.heap.size + 1 < w2.heap.size := by omega); (try have hn2_r_1 : wr.heap.size + 1 ≠ w2.heap.size := by omega); (try have hm2_r_1 : w2.heap.size ≠ wr.heap.size + 1 := by omega); (try have hy2_r_2 : wr.heap.size + 1 + 1 < w2.heap.size := by omega); (try have hp2_r_1 : wr.heap.size < w2.heap.size + 1 := by omega); (try have hp2_r_2 : wr.heap.size < w2.heap.size + 1 + 1 := by omega); (try have hy2_0_0 : w.heap.size < w2.heap.size := by omega); (try have hn2_0_0 : w.heap.size ≠ w2.heap.size := by omega); (try have hm2_0_0 : w2.heap.size ≠ w.heap.size := by omega); (try have hy2_0_1 : w.heap.size + 1 < w2.heap.size := by omega); (try have hn2_0_1 : w.heap.size + 1 ≠ w2.heap.size := by omega); (try have hm2_0_1 : w2.heap.size ≠ w.heap.size + 1 := by omega); (try have hy2_0_2 : w.heap.size + 1 + 1 < w2.heap.size := by omega); (try have hp2_0_1 : w.heap.size < w2.heap.size + 1 := by omega); (try have hp2_0_2 : w.heap.size < w2.heap.size + 1 + 1 := by omega); (try have hy2_1_0 : w1.heap.size < w2.heap.size := by omega); (try have hn2_1_0 : w1.heap.size ≠ w2.heap.size := by omega); (try have hm2_1_0 : w2.heap.size ≠ w1.heap.size := by omega); (try have hy2_1_1 : w1.heap.size + 1 < w2.heap.size := by omega); (try have hn2_1_1 : w1.heap.size + 1 ≠ w2.heap.size := by omega); (try have hm2_1_1 : w2.heap.size ≠ w1.heap.size + 1 := by omega); (try have hy2_1_2 : w1.heap.size + 1 + 1 < w2.heap.size := by omega); (try have hp2_1_1 : w1.heap.size < w2.heap.size + 1 := by omega); (try have hp2_1_2 : w1.heap.size < w2.heap.size + 1 + 1 := by omega); (try have hg2_g1 : g1 < w2.heap.size := by omega); (try have hi2_g1 : g1 ≠ w2.heap.size := by omega); (try have hj2_g1 : w2.heap.size ≠ g1 := by omega); (try have hk2_g1 : g1 < w2.heap.size + 1 := by omega); (try have hg2_g2 : g2 < w2.heap.size := by omega); (try have hi2_g2 : g2 ≠ w2.heap.size := by omega); (try have hj2_g2 : w2.heap.size ≠ g2 := by omega); (try have hk2_g2 : g2 < w2.heap.size + 1 := by omega)
      go_wp2
      refine bodyPost_ret (by simp [results, Tryz.results55, go_sem, *]; try rfl) rfl ?_
      exact ⟨ret_fr E2.out.1.symm E2.out.2.symm E.out.symm, by (repeat' (first | (with_reducible exact Below.refl _ _) | (with_reducible assumption) | (with_reducible refine Below.drew ?_) | (with_reducible refine belowDrewN ?_ _) | (with_reducible refine Below.alloc ?_ ?_ _) | (with_reducible refine Below.setCell ?_ ?_ _) | (with_reducible refine belowStep (by assumption) ?_ ?_) | (with_reducible exact Below.size (by assumption)) | go_size))⟩
    | some ps =>
      have P := Lib.hid (prod_some hp)
      have He := Lib.hid (eng_exp hl H2.out hp)
      have h64 : In64 ps := In64.of_mem fun q hq => by have := prodL_in (by omega) (fun x hx => (Hin.out x hx).1) hp q hq; omega
      have H64 := Lib.hid h64
      have hpl := prodL_len hp
      have hS : engS xs = sumL 0 1 ps := by unfold engS; rw [hp]; rfl
      have E : Hid (engB xs = expB ps ∧ engN xs = eN ps ∧ engD xs = eD ps) := Lib.hid (by
        rw [He.out]
        cases hs : sumL 0 1 ps with
        | none =>
          have hb := engB_none (by rw [hS, hs] : engS xs = none)
          have he : expB ps = false := by rw [He.out, hs]; rfl
          exact ⟨by rw [hb]; rfl, by rw [(eng_no hb).1, eN_no he], by rw [(eng_no hb).2, eD_no he]⟩
        | some q =>
          have hb := engB_yes hl H2.out (by rw [hS, hs] : engS xs = some (q.1, q.2))
          have he : expB ps = true := by rw [He.out, hs]; rfl
          have hx := expB_parts he
          have hq := eng_of hb (by rw [hS, hs] : engS xs = some (q.1, q.2))
          exact ⟨by rw [hb]; rfl, by rw [hq.1, eN, if_pos he, sumN_of (hs : sumL 0 1 ps = some (q.1, q.2))], by rw [hq.2, eD, if_pos he, sumD_of (hs : sumL 0 1 ps = some (q.1, q.2))]⟩)
      have hpl24 : ps.length ≤ 1048576 := by omega
      clear hp h64 hS hpl
      go_enter Tryz.func55, Tryz.ntmps55
      go_wp2_with fail
      refine (isRising_any _ 2 0 _ _ _ (Hxs.out.below (by (repeat' (first | (with_reducible exact Below.refl _ _) | (with_reducible assumption) | (with_reducible refine Below.drew ?_) | (with_reducible refine belowDrewN ?_ _) | (with_reducible refine Below.alloc ?_ ?_ _) | (with_reducible refine Below.setCell ?_ ?_ _) | (with_reducible refine belowStep (by assumption) ?_ ?_) | (with_reducible exact Below.size (by assumption)) | go_size)))) lxs Hr64.out (by omega) (by omega) (by omega) (by omega)).mono ?_; rintro e w1 ⟨rfl, k1, rfl⟩
      rw [Hup.out]
      go_wp2_with fail
      refine (products_any _ _ _ _ (Hxs.out.below (by (repeat' (first | (with_reducible exact Below.refl _ _) | (with_reducible assumption) | (with_reducible refine Below.drew ?_) | (with_reducible refine belowDrewN ?_ _) | (with_reducible refine Below.alloc ?_ ?_ _) | (with_reducible refine Below.setCell ?_ ?_ _) | (with_reducible refine belowStep (by assumption) ?_ ?_) | (with_reducible exact Below.size (by assumption)) | go_size)))) lxs Hin.out hl).mono ?_; rintro e w2 ⟨v2, rfl, ho2, hb2⟩; have hz2 := hb2.size; (try simp only [World.size_alloc, World.heap_drewN] at hz2)
      rw [P.out.1]
      rw [P.out.2] at ho2
      obtain ⟨A2, c2, rfl, hr2⟩ := ho2.form
      have Hr2 := Lib.hid hr2
      clear ho2 hr2
      obtain ⟨hc2, hf2⟩ := bcellB hb2; have hz2 := hb2.size; (try simp only [World.size_alloc, World.heap_drewN] at hc2 hf2 hz2); (try have hy2_r_0 : wr.heap.size < w2.heap.size := by omega); (try have hn2_r_0 : wr.heap.size ≠ w2.heap.size := by omega); (try have hm2_r_0 : w2.heap.size ≠ wr.heap.size := by omega); (try have hy2_r_1 : wr.heap.size + 1 < w2.heap.size := by omega); (try have hn2_r_1 : wr.heap.size + 1 ≠ w2.heap.size := by omega); (try have hm2_r_1 : w2.heap.size ≠ wr.heap.size + 1 := by omega); (try have hy2_r_2 : wr.heap.size + 1 + 1 < w2.heap.size := by omega); (try have hp2_r_1 : wr.heap.size < w2.heap.size + 1 := by omega); (try have hp2_r_2 : wr.heap.size < w2.heap.size + 1 + 1 := by omega); (try have hy2_0_0 : w.heap.size < w2.heap.size := by omega); (try have hn2_0_0 : w.heap.size ≠ w2.heap.size := by omega); (try have hm2_0_0 : w2.heap.size ≠ w.heap.size := by omega); (try have hy2_0_1 : w.heap.size + 1 < w2.heap.size := by omega); (try have hn2_0_1 : w.heap.size + 1 ≠ w2.heap.size := by omega); (try have hm2_0_1 : w2.heap.size ≠ w.heap.size + 1 := by omega); (try have hy2_0_2 : w.heap.size + 1 + 1 < w2.heap.size := by omega); (try have hp2_0_1 : w.heap.size < w2.heap.size + 1 := by omega); (try have hp2_0_2 : w.heap.size < w2.heap.size + 1 + 1 := by omega); (try have hy2_1_0 : w1.heap.size < w2.heap.size := by omega); (try have hn2_1_0 : w1.heap.size ≠ w2.heap.size := by omega); (try have hm2_1_0 : w2.heap.size ≠ w1.heap.size := by omega); (try have hy2_1_1 : w1.heap.size + 1 < w2.heap.size := by omega); (try have hn2_1_1 : w1.heap.size + 1 ≠ w2.heap.size := by omega); (try have hm2_1_1 : w2.heap.size ≠ w1.heap.size + 1 := by omega); (try have hy2_1_2 : w1.heap.size + 1 + 1 < w2.heap.size := by omega); (try have hp2_1_1 : w1.heap.size < w2.heap.size + 1 := by omega); (try have hp2_1_2 : w1.heap.size < w2.heap.size + 1 + 1 := by omega); (try have hg2_g1 : g1 < w2.heap.size := by omega); (try have hi2_g1 : g1 ≠ w2.heap.size := by omega); (try have hj2_g1 : w2.heap.size ≠ g1 := by omega); (try have hk2_g1 : g1 < w2.heap.size + 1 := by omega); (try have hg2_g2 : g2 < w2.heap.size := by omega); (try have hi2_g2 : g2 ≠ w2.heap.size := by omega); (try have hj2_g2 : w2.heap.size ≠ g2 := by omega); (try have hk2_g2 : g2 < w2.heap.size + 1 := by omega)
      go_wp2_with fail
      refine (sumOf_any _ _ _ _ Hr2.out hpl24 H64.out).mono ?_; rintro e w3 ⟨rfl, hb3⟩; have hz3 := hb3.size; (try simp only [World.size_alloc, World.size_setCell, World.size_drew, World.heap_drewN] at hz3)
      obtain ⟨hc3, hf3⟩ := bcellB hb3; have hz3 := hb3.size; (try simp only [World.size_alloc, World.size_setCell, World.size_drew, World.heap_drewN] at hc3 hf3 hz3); (try have hy3_r_0 : wr.heap.size < w3.heap.size := by omega); (try have hn3_r_0 : wr.heap.size ≠ w3.heap.size := by omega); (try have hm3_r_0 : w3.heap.size ≠ wr.heap.size := by omega); (try have hy3_r_1 : wr.heap.size + 1 < w3.heap.size := by omega); (try have hn3_r_1 : wr.heap.size + 1 ≠ w3.heap.size := by omega); (try have hm3_r_1 : w3.heap.size ≠ wr.heap.size + 1 := by omega); (try have hy3_r_2 : wr.heap.size + 1 + 1 < w3.heap.size := by omega); (try have hp3_r_1 : wr.heap.size < w3.heap.size + 1 := by omega); (try have hp3_r_2 : wr.heap.size < w3.heap.size + 1 + 1 := by omega); (try have hy3_0_0 : w.heap.size < w3.heap.size := by omega); (try have hn3_0_0 : w.heap.size ≠ w3.heap.size := by omega); (try have hm3_0_0 : w3.heap.size ≠ w.heap.size := by omega); (try have hy3_0_1 : w.heap.size + 1 < w3.heap.size := by omega); (try have hn3_0_1 : w.heap.size + 1 ≠ w3.heap.size := by omega); (try have hm3_0_1 : w3.heap.size ≠ w.heap.size + 1 := by omega); (try have hy3_0_2 : w.heap.size + 1 + 1 < w3.heap.size := by omega); (try have hp3_0_1 : w.heap.size < w3.heap.size + 1 := by omega); (try have hp3_0_2 : w.heap.size < w3.heap.size + 1 + 1 := by omega); (try have hy3_1_0 : w1.heap.size < w3.heap.size := by omega); (try have hn3_1_0 : w1.heap.size ≠ w3.heap.size := by omega); (try have hm3_1_0 : w3.heap.size ≠ w1.heap.size := by omega); (try have hy3_1_1 : w1.heap.size + 1 < w3.heap.size := by omega); (try have hn3_1_1 : w1.heap.size + 1 ≠ w3.heap.size := by omega); (try have hm3_1_1 : w3.heap.size ≠ w1.heap.size + 1 := by omega); (try have hy3_1_2 : w1.heap.size + 1 + 1 < w3.heap.size := by omega); (try have hp3_1_1 : w1.heap.size < w3.heap.size + 1 := by omega); (try have hp3_1_2 : w1.heap.size < w3.heap.size + 1 + 1 := by omega); (try have hy3_2_0 : w2.heap.size < w3.heap.size := by omega); (try have hn3_2_0 : w2.heap.size ≠ w3.heap.size := by omega); (try have hm3_2_0 : w3.heap.size ≠ w2.heap.size := by omega); (try have hy3_2_1 : w2.heap.size + 1 < w3.heap.size := by omega); (try have hn3_2_1 : w2.heap.size + 1 ≠ w3.heap.size := by omega); (try have hm3_2_1 : w3.heap.size ≠ w2.heap.size + 1 := by omega); (try have hy3_2_2 : w2.heap.size + 1 + 1 < w3.heap.size := by omega); (try have hp3_2_1 : w2.heap.size < w3.heap.size + 1 := by omega); (try have hp3_2_2 : w2.heap.size < w3.heap.size + 1 + 1 := by omega); (try have hg3_g1 : g1 < w3.heap.size := by omega); (try have hi3_g1 : g1 ≠ w3.heap.size := by omega); (try have hj3_g1 : w3.heap.size ≠ g1 := by omega); (try have hk3_g1 : g1 < w3.heap.size + 1 := by omega); (try have hg3_g2 : g2 < w3.heap.size := by omega); (try have hi3_g2 : g2 ≠ w3.heap.size := by omega); (try have hj3_g2 : w3.heap.size ≠ g2 := by omega); (try have hk3_g2 : g2 < w3.heap.size + 1 := by omega)
      go_wp2
      refine bodyPost_ret (by simp [results, Tryz.results55, go_sem, *]; try rfl) rfl ?_
      exact ⟨ret_fr E.out.2.1.symm E.out.2.2.symm E.out.1.symm, by (repeat' (first | (with_reducible exact Below.refl _ _) | (with_reducible assumption) | (with_reducible refine Below.drew ?_) | (with_reducible refine belowDrewN ?_ _) | (with_reducible refine Below.alloc ?_ ?_ _) | (with_reducible refine Below.setCell ?_ ?_ _) | (with_reducible refine belowStep (by assumption) ?_ ?_) | (with_reducible exact Below.size (by assumption)) | go_size))⟩
/-- the sum of the unit fractions of the products, from p on and n / d on -/
def engF (p n d : Int) (xs : List Int) : Option (Int × Int) := (prodL p xs).bind (sumL n d)
theorem engF_out {p n d x : Int} {xs : List Int} (h : ¬ p * x ≤ 1000000000) : engF p n d (x :: xs) = none := by unfold engF; rw [prodL_no h]; rfl
theorem engF_no {p n d x : Int} {xs : List Int} (h : p * x ≤ 1000000000) (hr : redB (n * (p * x) + d) (d * (p * x)) = false) : engF p n d (x :: xs) = none := by
  unfold engF
  rw [prodL_yes h]
  cases prodL (p * x) xs with
  | none => rfl
  | some ps => exact sumL_no hr
theorem engF_yes {p n d x : Int} {xs : List Int} (h : p * x ≤ 1000000000) (hr : redB (n * (p * x) + d) (d * (p * x)) = true) : engF p n d (x :: xs) = engF (p * x) (redN (n * (p * x) + d) (d * (p * x))) (redD (n * (p * x) + d) (d * (p * x))) xs := by
  unfold engF
  rw [prodL_yes h]
  cases prodL (p * x) xs with
  | none => rfl
  | some ps => exact sumL_yes hr
def fN (o : Option (Int × Int)) : Int := (o.getD (0, 0)).1
def fD (o : Option (Int × Int)) : Int := (o.getD (0, 0)).2
set_option maxHeartbeats 4000000 in
theorem grEngelSum_any (w : World) (Axs : Option Addr) (cxs : Nat) (xs : List Int) (hxs : Reads w Axs xs) (lxs : xs.length ≤ 1048576) (hin : ∀ x ∈ xs, 1 ≤ x ∧ x ≤ 1000000000) : Calls Tryz.prog 102 #[.slice Axs xs.length cxs] w (Ret (.tuple #[.agg #[.int .i64 (fN (engS xs)), .int .i64 (fD (engS xs))], .bool ((engS xs).isSome)]) w) := by
  have Hxs := Lib.hid hxs
  have Hin := Lib.hid hin
  have E0 : Hid (engS xs = engF 1 0 1 xs) := Lib.hid rfl
  clear hxs hin
  have lt02 : w.heap.size < w.heap.size + 1 + 1 := by omega
  have lt03 : w.heap.size < w.heap.size + 1 + 1 + 1 := by omega
  have ne02 : w.heap.size ≠ w.heap.size + 1 + 1 := by omega
  have ne20 : w.heap.size + 1 + 1 ≠ w.heap.size := by omega
  have ne03 : w.heap.size ≠ w.heap.size + 1 + 1 + 1 := by omega
  have ne30 : w.heap.size + 1 + 1 + 1 ≠ w.heap.size := by omega
  have lt13 : w.heap.size + 1 < w.heap.size + 1 + 1 + 1 := by omega
  go_enter Tryz.func102, Tryz.ntmps102
  go_wp2
  go_loopw [5, 11] (fun v5 v11 wr => ∃ (k : Nat) (p n d : Int), k ≤ xs.length ∧ v5 = .int .i64 p ∧ v11 = .int .i64 k ∧ 1 ≤ p ∧ p ≤ 1000000000 ∧ goodB n d = true ∧ engS xs = engF p n d (xs.drop k) ∧ TwoAt wr w.heap.size 0 0 ∧ TwoAt wr (w.heap.size + 1) n d ∧ Below w.heap.size w wr) (fun _ v11 _ => xs.length - (intOf v11).toNat)
  case atStart => exact ⟨0, 1, 0, 1, Nat.zero_le _, rfl, rfl, by omega, by omega, good_zero, rfl, by (refine ⟨?_, ?_, ?_, ?_, ?_⟩ <;> first | (simp only [World.size_alloc]; omega) | (first | (simp [*, World.cell?_alloc_some]; done) | (simp [go_sem, *]; done))), by (refine ⟨?_, ?_, ?_, ?_, ?_⟩ <;> first | (simp only [World.size_alloc]; omega) | (first | (simp [*]; done) | (simp [go_sem, *]; done))), by (repeat' (first | (with_reducible exact Below.refl _ _) | (with_reducible assumption) | (with_reducible refine Below.drew ?_) | (with_reducible refine belowDrewN ?_ _) | (with_reducible refine Below.alloc ?_ ?_ _) | (with_reducible refine Below.setCell ?_ ?_ _) | (with_reducible refine belowStep (by assumption) ?_ ?_) | (with_reducible exact Below.size (by assumption)) | go_size))⟩
  case round =>
    obtain ⟨k, p, n, d, hk, rfl, rfl, p1, p2, hg, hs, ⟨c1, c2, f1, f2, z1⟩, ⟨c3, c4, f3, f4, z2⟩, hbr⟩ := hrel
    have Hg := Lib.hid hg
    have Hs := Lib.hid hs
    obtain ⟨n1, n2, d1, d2⟩ := good_bounds hg
    clear hg hs
    by_cases hlt : k < xs.length
    · obtain ⟨b, o, x, rfl, hb, hx, hcell⟩ := (Hxs.out.below hbr).at_ hlt
      obtain ⟨x1, x2⟩ := Hin.out x (List.mem_of_getElem? hx)
      have Hx := Lib.hid (drop_at hx)
      have hm := mul_bounds (a := p) (b := x) (by omega) p2 (by omega) x2
      have hm1 := mul_pos1 p1 x1
      clear hx
      by_cases hle : p * x ≤ 1000000000
      · have Hno := Lib.hid (engF_no (n := n) (d := d) (xs := xs.drop (k + 1)) hle)
        have Hyes := Lib.hid (engF_yes (n := n) (d := d) (xs := xs.drop (k + 1)) hle)
        go_wp2
        generalize p * x = q at *
        have q1 := mul_bounds n1 n2 (by omega : 0 ≤ q) hle
        have q2 := mul_pos1 d1 hm1
        have hgr := good_red (n := n * q + d) (d := d * q) (by omega) q2
        cases hred : redB (n * q + d) (d * q) with
        | true =>
          rw [hred] at hgr
          have Hred := Lib.hid hred
          have Hst := Lib.hid (Hyes.out hred)
          clear hred Hyes Hno
          go_region_with (first | (go_at_call 80; refine (unUnit_any _ _).mono ?_; rintro e w1 ⟨rfl, hb1⟩; obtain ⟨hc1, hf1⟩ := bcellB hb1; have hz1 := hb1.size; (try simp only [World.size_drew] at hc1 hf1 hz1); (try have hy1_r_0 : wr.heap.size < w1.heap.size := by omega); (try have hn1_r_0 : wr.heap.size ≠ w1.heap.size := by omega); (try have hm1_r_0 : w1.heap.size ≠ wr.heap.size := by omega); (try have hy1_r_1 : wr.heap.size + 1 < w1.heap.size := by omega); (try have hn1_r_1 : wr.heap.size + 1 ≠ w1.heap.size := by omega); (try have hm1_r_1 : w1.heap.size ≠ wr.heap.size + 1 := by omega); (try have hy1_r_2 : wr.heap.size + 1 + 1 < w1.heap.size := by omega); (try have hp1_r_1 : wr.heap.size < w1.heap.size + 1 := by omega); (try have hp1_r_2 : wr.heap.size < w1.heap.size + 1 + 1 := by omega); (try have hy1_0_0 : w.heap.size < w1.heap.size := by omega); (try have hn1_0_0 : w.heap.size ≠ w1.heap.size := by omega); (try have hm1_0_0 : w1.heap.size ≠ w.heap.size := by omega); (try have hy1_0_1 : w.heap.size + 1 < w1.heap.size := by omega); (try have hn1_0_1 : w.heap.size + 1 ≠ w1.heap.size := by omega); (try have hm1_0_1 : w1.heap.size ≠ w.heap.size + 1 := by omega); (try have hy1_0_2 : w.heap.size + 1 + 1 < w1.heap.size := by omega); (try have hp1_0_1 : w.heap.size < w1.heap.size + 1 := by omega); (try have hp1_0_2 : w.heap.size < w1.heap.size + 1 + 1 := by omega); (try have hg1_g1 : g1 < w1.heap.size := by omega); (try have hi1_g1 : g1 ≠ w1.heap.size := by omega); (try have hj1_g1 : w1.heap.size ≠ g1 := by omega); (try have hk1_g1 : g1 < w1.heap.size + 1 := by omega); (try have hg1_g2 : g2 < w1.heap.size := by omega); (try have hi1_g2 : g2 ≠ w1.heap.size := by omega); (try have hj1_g2 : w1.heap.size ≠ g2 := by omega); (try have hk1_g2 : g2 < w1.heap.size + 1 := by omega)) | (go_at_call 110; refine (unAdd_any _ _ _ _ _ (by omega) (by omega) (by omega) (by omega) (by omega) (by omega) (by omega) (by omega)).mono ?_; rintro e w2 ⟨rfl, hb2⟩; obtain ⟨hc2, hf2⟩ := bcellB hb2; have hz2 := hb2.size; (try simp only [World.size_alloc, World.size_setCell, World.size_drew, World.heap_drewN] at hc2 hf2 hz2); (try have hy2_r_0 : wr.heap.size < w2.heap.size := by omega); (try have hn2_r_0 : wr.heap.size ≠ w2.heap.size := by omega); (try have hm2_r_0 : w2.heap.size ≠ wr.heap.size := by omega); (try have hy2_r_1 : wr.heap.size + 1 < w2.heap.size := by omega); (try have hn2_r_1 : wr.heap.size + 1 ≠ w2.heap.size := by omega); (try have hm2_r_1 : w2.heap.size ≠ wr.heap.size + 1 := by omega); (try have hy2_r_2 : wr.heap.size + 1 + 1 < w2.heap.size := by omega); (try have hp2_r_1 : wr.heap.size < w2.heap.size + 1 := by omega); (try have hp2_r_2 : wr.heap.size < w2.heap.size + 1 + 1 := by omega); (try have hy2_0_0 : w.heap.size < w2.heap.size := by omega); (try have hn2_0_0 : w.heap.size ≠ w2.heap.size := by omega); (try have hm2_0_0 : w2.heap.size ≠ w.heap.size := by omega); (try have hy2_0_1 : w.heap.size + 1 < w2.heap.size := by omega); (try have hn2_0_1 : w.heap.size + 1 ≠ w2.heap.size := by omega); (try have hm2_0_1 : w2.heap.size ≠ w.heap.size + 1 := by omega); (try have hy2_0_2 : w.heap.size + 1 + 1 < w2.heap.size := by omega); (try have hp2_0_1 : w.heap.size < w2.heap.size + 1 := by omega); (try have hp2_0_2 : w.heap.size < w2.heap.size + 1 + 1 := by omega); (try have hy2_1_0 : w1.heap.size < w2.heap.size := by omega); (try have hn2_1_0 : w1.heap.size ≠ w2.heap.size := by omega); (try have hm2_1_0 : w2.heap.size ≠ w1.heap.size := by omega); (try have hy2_1_1 : w1.heap.size + 1 < w2.heap.size := by omega); (try have hn2_1_1 : w1.heap.size + 1 ≠ w2.heap.size := by omega); (try have hm2_1_1 : w2.heap.size ≠ w1.heap.size + 1 := by omega); (try have hy2_1_2 : w1.heap.size + 1 + 1 < w2.heap.size := by omega); (try have hp2_1_1 : w1.heap.size < w2.heap.size + 1 := by omega); (try have hp2_1_2 : w1.heap.size < w2.heap.size + 1 + 1 := by omega); (try have hg2_g1 : g1 < w2.heap.size := by omega); (try have hi2_g1 : g1 ≠ w2.heap.size := by omega); (try have hj2_g1 : w2.heap.size ≠ g1 := by omega); (try have hk2_g1 : g1 < w2.heap.size + 1 := by omega); (try have hg2_g2 : g2 < w2.heap.size := by omega); (try have hi2_g2 : g2 ≠ w2.heap.size := by omega); (try have hj2_g2 : w2.heap.size ≠ g2 := by omega); (try have hk2_g2 : g2 < w2.heap.size + 1 := by omega)))
          all_goals
            go_wp2_with (go_at_call 33; refine (unGood_any _ _ _).mono ?_; rintro e w3 ⟨rfl, hb3⟩; obtain ⟨hc3, hf3⟩ := bcellB hb3; have hz3 := hb3.size; (try simp only [World.size_setCell] at hc3 hf3 hz3); (try have hy3_r_0 : wr.heap.size < w3.heap.size := by omega); (try have hn3_r_0 : wr.heap.size ≠ w3.heap.size := by omega); (try have hm3_r_0 : w3.heap.size ≠ wr.heap.size := by omega); (try have hy3_r_1 : wr.heap.size + 1 < w3.heap.size := by omega); (try have hn3_r_1 : wr.heap.size + 1 ≠ w3.heap.size := by omega); (try have hm3_r_1 : w3.heap.size ≠ wr.heap.size + 1 := by omega); (try have hy3_r_2 : wr.heap.size + 1 + 1 < w3.heap.size := by omega); (try have hp3_r_1 : wr.heap.size < w3.heap.size + 1 := by omega); (try have hp3_r_2 : wr.heap.size < w3.heap.size + 1 + 1 := by omega); (try have hy3_0_0 : w.heap.size < w3.heap.size := by omega); (try have hn3_0_0 : w.heap.size ≠ w3.heap.size := by omega); (try have hm3_0_0 : w3.heap.size ≠ w.heap.size := by omega); (try have hy3_0_1 : w.heap.size + 1 < w3.heap.size := by omega); (try have hn3_0_1 : w.heap.size + 1 ≠ w3.heap.size := by omega); (try have hm3_0_1 : w3.heap.size ≠ w.heap.size + 1 := by omega); (try have hy3_0_2 : w.heap.size + 1 + 1 < w3.heap.size := by omega); (try have hp3_0_1 : w.heap.size < w3.heap.size + 1 := by omega); (try have hp3_0_2 : w.heap.size < w3.heap.size + 1 + 1 := by omega); (try have hy3_1_0 : w1.heap.size < w3.heap.size := by omega); (try have hn3_1_0 : w1.heap.size ≠ w3.heap.size := by omega); (try have hm3_1_0 : w3.heap.size ≠ w1.heap.size := by omega); (try have hy3_1_1 : w1.heap.size + 1 < w3.heap.size := by omega); (try have hn3_1_1 : w1.heap.size + 1 ≠ w3.heap.size := by omega); (try have hm3_1_1 : w3.heap.size ≠ w1.heap.size + 1 := by omega); (try have hy3_1_2 : w1.heap.size + 1 + 1 < w3.heap.size := by omega); (try have hp3_1_1 : w1.heap.size < w3.heap.size + 1 := by omega); (try have hp3_1_2 : w1.heap.size < w3.heap.size + 1 + 1 := by omega); (try have hy3_2_0 : w2.heap.size < w3.heap.size := by omega); (try have hn3_2_0 : w2.heap.size ≠ w3.heap.size := by omega); (try have hm3_2_0 : w3.heap.size ≠ w2.heap.size := by omega); (try have hy3_2_1 : w2.heap.size + 1 < w3.heap.size := by omega); (try have hn3_2_1 : w2.heap.size + 1 ≠ w3.heap.size := by omega); (try have hm3_2_1 : w3.heap.size ≠ w2.heap.size + 1 := by omega); (try have hy3_2_2 : w2.heap.size + 1 + 1 < w3.heap.size := by omega); (try have hp3_2_1 : w2.heap.size < w3.heap.size + 1 := by omega); (try have hp3_2_2 : w2.heap.size < w3.heap.size + 1 + 1 := by omega); (try have hg3_g1 : g1 < w3.heap.size := by omega); (try have hi3_g1 : g1 ≠ w3.heap.size := by omega); (try have hj3_g1 : w3.heap.size ≠ g1 := by omega); (try have hk3_g1 : g1 < w3.heap.size + 1 := by omega); (try have hg3_g2 : g2 < w3.heap.size := by omega); (try have hi3_g2 : g2 ≠ w3.heap.size := by omega); (try have hj3_g2 : w3.heap.size ≠ g2 := by omega); (try have hk3_g2 : g2 < w3.heap.size + 1 := by omega))
            go_roundw
            case rel => exact ⟨k + 1, q, redN (n * q + d) (d * q), redD (n * q + d) (d * q), by omega, rfl, by go_num, hm1, hle, good_of_redB (by omega) q2 Hred.out, by rw [Hs.out, Hx.out, Hst.out], by (refine ⟨?_, ?_, ?_, ?_, ?_⟩ <;> first | (simp only [World.size_alloc, World.size_setCell, World.size_drew, World.heap_drewN]; omega) | (first | (simp [*, World.cell?_setCell_far]; done) | (simp [go_sem, *]; done))), by rw [redN, redD, if_pos Hred.out, if_pos Hred.out]; (refine ⟨?_, ?_, ?_, ?_, ?_⟩ <;> first | (simp only [World.size_alloc, World.size_setCell, World.size_drew, World.heap_drewN]; omega) | (first | (simp [*]; done) | (simp [go_sem, *]; done))), by (repeat' (first | (with_reducible exact Below.refl _ _) | (with_reducible assumption) | (with_reducible refine Below.drew ?_) | (with_reducible refine belowDrewN ?_ _) | (with_reducible refine Below.alloc ?_ ?_ _) | (with_reducible refine Below.setCell ?_ ?_ _) | (with_reducible refine belowStep (by assumption) ?_ ?_) | (with_reducible exact Below.size (by assumption)) | go_size))⟩
            case measure => simp [intOf]; omega
        | false =>
          rw [hred] at hgr
          have Hn : Hid (engS xs = none) := Lib.hid (by rw [Hs.out, Hx.out, Hno.out hred])
          clear hred Hyes Hno
          go_region_with (first | (go_at_call 80; refine (unUnit_any _ _).mono ?_; rintro e w1 ⟨rfl, hb1⟩; obtain ⟨hc1, hf1⟩ := bcellB hb1; have hz1 := hb1.size; (try simp only [World.size_drew] at hc1 hf1 hz1); (try have hy1_r_0 : wr.heap.size < w1.heap.size := by omega); (try have hn1_r_0 : wr.heap.size ≠ w1.heap.size := by omega); (try have hm1_r_0 : w1.heap.size ≠ wr.heap.size := by omega); (try have hy1_r_1 : wr.heap.size + 1 < w1.heap.size := by omega); (try have hn1_r_1 : wr.heap.size + 1 ≠ w1.heap.size := by omega); (try have hm1_r_1 : w1.heap.size ≠ wr.heap.size + 1 := by omega); (try have hy1_r_2 : wr.heap.size + 1 + 1 < w1.heap.size := by omega); (try have hp1_r_1 : wr.heap.size < w1.heap.size + 1 := by omega); (try have hp1_r_2 : wr.heap.size < w1.heap.size + 1 + 1 := by omega); (try have hy1_0_0 : w.heap.size < w1.heap.size := by omega); (try have hn1_0_0 : w.heap.size ≠ w1.heap.size := by omega); (try have hm1_0_0 : w1.heap.size ≠ w.heap.size := by omega); (try have hy1_0_1 : w.heap.size + 1 < w1.heap.size := by omega); (try have hn1_0_1 : w.heap.size + 1 ≠ w1.heap.size := by omega); (try have hm1_0_1 : w1.heap.size ≠ w.heap.size + 1 := by omega); (try have hy1_0_2 : w.heap.size + 1 + 1 < w1.heap.size := by omega); (try have hp1_0_1 : w.heap.size < w1.heap.size + 1 := by omega); (try have hp1_0_2 : w.heap.size < w1.heap.size + 1 + 1 := by omega); (try have hg1_g1 : g1 < w1.heap.size := by omega); (try have hi1_g1 : g1 ≠ w1.heap.size := by omega); (try have hj1_g1 : w1.heap.size ≠ g1 := by omega); (try have hk1_g1 : g1 < w1.heap.size + 1 := by omega); (try have hg1_g2 : g2 < w1.heap.size := by omega); (try have hi1_g2 : g2 ≠ w1.heap.size := by omega); (try have hj1_g2 : w1.heap.size ≠ g2 := by omega); (try have hk1_g2 : g2 < w1.heap.size + 1 := by omega)) | (go_at_call 110; refine (unAdd_any _ _ _ _ _ (by omega) (by omega) (by omega) (by omega) (by omega) (by omega) (by omega) (by omega)).mono ?_; rintro e w2 ⟨rfl, hb2⟩; obtain ⟨hc2, hf2⟩ := bcellB hb2; have hz2 := hb2.size; (try simp only [World.size_alloc, World.size_setCell, World.size_drew, World.heap_drewN] at hc2 hf2 hz2); (try have hy2_r_0 : wr.heap.size < w2.heap.size := by omega); (try have hn2_r_0 : wr.heap.size ≠ w2.heap.size := by omega); (try have hm2_r_0 : w2.heap.size ≠ wr.heap.size := by omega); (try have hy2_r_1 : wr.heap.size + 1 < w2.heap.size := by omega); (try have hn2_r_1 : wr.heap.size + 1 ≠ w2.heap.size := by omega); (try have hm2_r_1 : w2.heap.size ≠ wr.heap.size + 1 := by omega); (try have hy2_r_2 : wr.heap.size + 1 + 1 < w2.heap.size := by omega); (try have hp2_r_1 : wr.heap.size < w2.heap.size + 1 := by omega); (try have hp2_r_2 : wr.heap.size < w2.heap.size + 1 + 1 := by omega); (try have hy2_0_0 : w.heap.size < w2.heap.size := by omega); (try have hn2_0_0 : w.heap.size ≠ w2.heap.size := by omega); (try have hm2_0_0 : w2.heap.size ≠ w.heap.size := by omega); (try have hy2_0_1 : w.heap.size + 1 < w2.heap.size := by omega); (try have hn2_0_1 : w.heap.size + 1 ≠ w2.heap.size := by omega); (try have hm2_0_1 : w2.heap.size ≠ w.heap.size + 1 := by omega); (try have hy2_0_2 : w.heap.size + 1 + 1 < w2.heap.size := by omega); (try have hp2_0_1 : w.heap.size < w2.heap.size + 1 := by omega); (try have hp2_0_2 : w.heap.size < w2.heap.size + 1 + 1 := by omega); (try have hy2_1_0 : w1.heap.size < w2.heap.size := by omega); (try have hn2_1_0 : w1.heap.size ≠ w2.heap.size := by omega); (try have hm2_1_0 : w2.heap.size ≠ w1.heap.size := by omega); (try have hy2_1_1 : w1.heap.size + 1 < w2.heap.size := by omega); (try have hn2_1_1 : w1.heap.size + 1 ≠ w2.heap.size := by omega); (try have hm2_1_1 : w2.heap.size ≠ w1.heap.size + 1 := by omega); (try have hy2_1_2 : w1.heap.size + 1 + 1 < w2.heap.size := by omega); (try have hp2_1_1 : w1.heap.size < w2.heap.size + 1 := by omega); (try have hp2_1_2 : w1.heap.size < w2.heap.size + 1 + 1 := by omega); (try have hg2_g1 : g1 < w2.heap.size := by omega); (try have hi2_g1 : g1 ≠ w2.heap.size := by omega); (try have hj2_g1 : w2.heap.size ≠ g1 := by omega); (try have hk2_g1 : g1 < w2.heap.size + 1 := by omega); (try have hg2_g2 : g2 < w2.heap.size := by omega); (try have hi2_g2 : g2 ≠ w2.heap.size := by omega); (try have hj2_g2 : w2.heap.size ≠ g2 := by omega); (try have hk2_g2 : g2 < w2.heap.size + 1 := by omega)))
          all_goals
            go_wp2_with (go_at_call 33; refine (unGood_any _ _ _).mono ?_; rintro e w3 ⟨rfl, hb3⟩; obtain ⟨hc3, hf3⟩ := bcellB hb3; have hz3 := hb3.size; (try simp only [World.size_setCell] at hc3 hf3 hz3); (try have hy3_r_0 : wr.heap.size < w3.heap.size := by omega); (try have hn3_r_0 : wr.heap.size ≠ w3.heap.size := by omega); (try have hm3_r_0 : w3.heap.size ≠ wr.heap.size := by omega); (try have hy3_r_1 : wr.heap.size + 1 < w3.heap.size := by omega); (try have hn3_r_1 : wr.heap.size + 1 ≠ w3.heap.size := by omega); (try have hm3_r_1 : w3.heap.size ≠ wr.heap.size + 1 := by omega); (try have hy3_r_2 : wr.heap.size + 1 + 1 < w3.heap.size := by omega); (try have hp3_r_1 : wr.heap.size < w3.heap.size + 1 := by omega); (try have hp3_r_2 : wr.heap.size < w3.heap.size + 1 + 1 := by omega); (try have hy3_0_0 : w.heap.size < w3.heap.size := by omega); (try have hn3_0_0 : w.heap.size ≠ w3.heap.size := by omega); (try have hm3_0_0 : w3.heap.size ≠ w.heap.size := by omega); (try have hy3_0_1 : w.heap.size + 1 < w3.heap.size := by omega); (try have hn3_0_1 : w.heap.size + 1 ≠ w3.heap.size := by omega); (try have hm3_0_1 : w3.heap.size ≠ w.heap.size + 1 := by omega); (try have hy3_0_2 : w.heap.size + 1 + 1 < w3.heap.size := by omega); (try have hp3_0_1 : w.heap.size < w3.heap.size + 1 := by omega); (try have hp3_0_2 : w.heap.size < w3.heap.size + 1 + 1 := by omega); (try have hy3_1_0 : w1.heap.size < w3.heap.size := by omega); (try have hn3_1_0 : w1.heap.size ≠ w3.heap.size := by omega); (try have hm3_1_0 : w3.heap.size ≠ w1.heap.size := by omega); (try have hy3_1_1 : w1.heap.size + 1 < w3.heap.size := by omega); (try have hn3_1_1 : w1.heap.size + 1 ≠ w3.heap.size := by omega); (try have hm3_1_1 : w3.heap.size ≠ w1.heap.size + 1 := by omega); (try have hy3_1_2 : w1.heap.size + 1 + 1 < w3.heap.size := by omega); (try have hp3_1_1 : w1.heap.size < w3.heap.size + 1 := by omega); (try have hp3_1_2 : w1.heap.size < w3.heap.size + 1 + 1 := by omega); (try have hy3_2_0 : w2.heap.size < w3.heap.size := by omega); (try have hn3_2_0 : w2.heap.size ≠ w3.heap.size := by omega); (try have hm3_2_0 : w3.heap.size ≠ w2.heap.size := by omega); (try have hy3_2_1 : w2.heap.size + 1 < w3.heap.size := by omega); (try have hn3_2_1 : w2.heap.size + 1 ≠ w3.heap.size := by omega); (try have hm3_2_1 : w3.heap.size ≠ w2.heap.size + 1 := by omega); (try have hy3_2_2 : w2.heap.size + 1 + 1 < w3.heap.size := by omega); (try have hp3_2_1 : w2.heap.size < w3.heap.size + 1 := by omega); (try have hp3_2_2 : w2.heap.size < w3.heap.size + 1 + 1 := by omega); (try have hg3_g1 : g1 < w3.heap.size := by omega); (try have hi3_g1 : g1 ≠ w3.heap.size := by omega); (try have hj3_g1 : w3.heap.size ≠ g1 := by omega); (try have hk3_g1 : g1 < w3.heap.size + 1 := by omega); (try have hg3_g2 : g2 < w3.heap.size := by omega); (try have hi3_g2 : g2 ≠ w3.heap.size := by omega); (try have hj3_g2 : w3.heap.size ≠ g2 := by omega); (try have hk3_g2 : g2 < w3.heap.size + 1 := by omega))
            refine bodyPost_ret (by simp [results, Tryz.results102, go_sem, *]; try rfl) rfl ?_
            exact ⟨ret_fr (by rw [Hn.out]; rfl) (by rw [Hn.out]; rfl) (by rw [Hn.out]; rfl), by (repeat' (first | (with_reducible exact Below.refl _ _) | (with_reducible assumption) | (with_reducible refine Below.drew ?_) | (with_reducible refine belowDrewN ?_ _) | (with_reducible refine Below.alloc ?_ ?_ _) | (with_reducible refine Below.setCell ?_ ?_ _) | (with_reducible refine belowStep (by assumption) ?_ ?_) | (with_reducible exact Below.size (by assumption)) | go_size))⟩
      · have Hn : Hid (engS xs = none) := Lib.hid (by rw [Hs.out, Hx.out, engF_out hle])
        go_wp2
        refine bodyPost_ret (by simp [results, Tryz.results102, go_sem, *]; try rfl) rfl ?_
        exact ⟨ret_fr (by rw [Hn.out]; rfl) (by rw [Hn.out]; rfl) (by rw [Hn.out]; rfl), by (repeat' (first | (with_reducible exact Below.refl _ _) | (with_reducible assumption) | (with_reducible refine Below.drew ?_) | (with_reducible refine belowDrewN ?_ _) | (with_reducible refine Below.alloc ?_ ?_ _) | (with_reducible refine Below.setCell ?_ ?_ _) | (with_reducible refine belowStep (by assumption) ?_ ?_) | (with_reducible exact Below.size (by assumption)) | go_size))⟩
    · obtain rfl : k = xs.length := by omega
      have Hn : Hid (engS xs = some (n, d)) := Lib.hid (by rw [Hs.out, drop_all]; rfl)
      go_wp2
      refine bodyPost_ret (by simp [results, Tryz.results102, go_sem, *]; try rfl) rfl ?_
      exact ⟨ret_fr (by rw [Hn.out]; rfl) (by rw [Hn.out]; rfl) (by rw [Hn.out]; rfl), by (repeat' (first | (with_reducible exact Below.refl _ _) | (with_reducible assumption) | (with_reducible refine Below.drew ?_) | (with_reducible refine belowDrewN ?_ _) | (with_reducible refine Below.alloc ?_ ?_ _) | (with_reducible refine Below.setCell ?_ ?_ _) | (with_reducible refine belowStep (by assumption) ?_ ?_) | (with_reducible exact Below.size (by assumption)) | go_size))⟩
set_option maxHeartbeats 4000000 in
theorem grEngel_any (w : World) (Axs : Option Addr) (cxs : Nat) (xs : List Int) (hxs : Reads w Axs xs) (lxs : xs.length ≤ 1048576) : Calls Tryz.prog 86 #[.slice Axs xs.length cxs] w (Ret (.bool (engB xs)) w) := by
  have Hxs := Lib.hid hxs
  clear hxs
  go_enter Tryz.func86, Tryz.ntmps86
  go_wp2
  go_loopw [9] (fun v9 wr => ∃ (k : Nat) (l : Int), k ≤ xs.length ∧ v9 = .int .i64 k ∧ 2 ≤ l ∧ (∀ j y, k = j + 1 → xs[j]? = some y → l = y) ∧ (k = 0 → l = 2) ∧ up 0 2 xs = up 0 l (xs.drop k) ∧ ∃ n, wr = w.drewN n) (fun v9 _ => xs.length - (intOf v9).toNat)
  case atStart => exact ⟨0, 2, Nat.zero_le _, rfl, by omega, fun j y h => by omega, fun _ => rfl, rfl, 0, rfl⟩
  case round =>
    obtain ⟨k, l, hk, rfl, l2, hj, hz, hr, n, rfl⟩ := hrel
    have Hr := Lib.hid hr
    clear hr
    by_cases hlt : k < xs.length
    · rcases k with _ | j
      · obtain ⟨b, o, x, rfl, hb, hx, hcell⟩ := Hxs.out.at_ hlt
        rw [Nat.add_zero] at hcell
        rw [show ((0 : Nat) : Int) = 0 from rfl]
        obtain rfl := hz rfl
        have Hx := Lib.hid (drop_at hx)
        have Hat := Lib.hid hx
        clear hx hj hz
        by_cases hin : 2 ≤ x ∧ x ≤ 1000000000
        · go_wp2_with (go_at_call 56; refine (l1In_yes _ _ _ _ hin.1 hin.2).mono ?_; rintro e w1 ⟨rfl, k1, rfl⟩)
          go_roundw
          case rel => exact ⟨1, x, by omega, by go_num, by omega, fun j y h e => by
              obtain rfl : j = 0 := by omega
              rw [Hat.out] at e
              injection e, fun h => by omega, by rw [Hr.out, Hx.out, up_yes hin.1 hin.2, Int.add_zero], _, rfl⟩
          case measure => simp [intOf]; omega
        · have E : Hid (engB xs = false) := Lib.hid (engB_up (by rw [Hr.out, Hx.out, up_no hin]))
          go_wp2_with (go_at_call 56; refine (l1In_no _ _ _ _ hin).mono ?_; rintro e w1 ⟨rfl, k1, rfl⟩)
          go_ret
          exact ⟨ret_bool E.out.symm, by (repeat' (first | (with_reducible exact Below.refl _ _) | (with_reducible assumption) | (with_reducible refine Below.drew ?_) | (with_reducible refine belowDrewN ?_ _) | (with_reducible refine Below.alloc ?_ ?_ _) | (with_reducible refine Below.setCell ?_ ?_ _) | (with_reducible refine belowStep (by assumption) ?_ ?_) | (with_reducible exact Below.size (by assumption)) | go_size))⟩
      · obtain ⟨b, o, x, y, rfl, hb, hx, hy, hcell, hcell2⟩ := Hxs.out.at2 hlt (show j < xs.length by omega)
        obtain rfl := hj j y rfl hy
        have Hx := Lib.hid (drop_at hx)
        have Hat := Lib.hid hx
        clear hx hy hj hz
        by_cases hin : 2 ≤ x ∧ x ≤ 1000000000
        · by_cases hlt2 : x < l
          · have E : Hid (engB xs = false) := Lib.hid (engB_up (by rw [Hr.out, Hx.out, up_no (by omega)]))
            go_wp2_with (go_at_call 56; refine (l1In_yes _ _ _ _ hin.1 hin.2).mono ?_; rintro e w1 ⟨rfl, k1, rfl⟩)
            go_ret
            exact ⟨ret_bool E.out.symm, by (repeat' (first | (with_reducible exact Below.refl _ _) | (with_reducible assumption) | (with_reducible refine Below.drew ?_) | (with_reducible refine belowDrewN ?_ _) | (with_reducible refine Below.alloc ?_ ?_ _) | (with_reducible refine Below.setCell ?_ ?_ _) | (with_reducible refine belowStep (by assumption) ?_ ?_) | (with_reducible exact Below.size (by assumption)) | go_size))⟩
          · go_wp2_with (go_at_call 56; refine (l1In_yes _ _ _ _ hin.1 hin.2).mono ?_; rintro e w1 ⟨rfl, k1, rfl⟩)
            go_roundw
            case rel => exact ⟨j + 1 + 1, x, by omega, by go_num, by omega, fun i y h e => by
                obtain rfl : i = j + 1 := by omega
                rw [Hat.out] at e
                injection e, fun h => by omega, by rw [Hr.out, Hx.out, up_yes (by omega) hin.2, Int.add_zero], _, rfl⟩
            case measure => simp [intOf]; omega
        · have E : Hid (engB xs = false) := Lib.hid (engB_up (by rw [Hr.out, Hx.out, up_no (by omega)]))
          go_wp2_with (go_at_call 56; refine (l1In_no _ _ _ _ hin).mono ?_; rintro e w1 ⟨rfl, k1, rfl⟩)
          go_ret
          exact ⟨ret_bool E.out.symm, by (repeat' (first | (with_reducible exact Below.refl _ _) | (with_reducible assumption) | (with_reducible refine Below.drew ?_) | (with_reducible refine belowDrewN ?_ _) | (with_reducible refine Below.alloc ?_ ?_ _) | (with_reducible refine Below.setCell ?_ ?_ _) | (with_reducible refine belowStep (by assumption) ?_ ?_) | (with_reducible exact Below.size (by assumption)) | go_size))⟩
    · obtain rfl : k = xs.length := by omega
      clear hj hz
      have hu : up 0 2 xs = true := by rw [Hr.out, drop_all]; rfl
      by_cases h24 : xs.length ≤ 24
      · have Hin := Lib.hid fun (x : Int) (hx : x ∈ xs) => (by have := up_in (by omega) hu x hx; omega : 1 ≤ x ∧ x ≤ 1000000000)
        have E : Hid (engB xs = (engS xs).isSome) := Lib.hid (by simp [engB, h24, hu])
        clear hu
        go_wp2_with fail
        refine (grEngelSum_any _ _ _ _ (Hxs.out.below (by (repeat' (first | (with_reducible exact Below.refl _ _) | (with_reducible assumption) | (with_reducible refine Below.drew ?_) | (with_reducible refine belowDrewN ?_ _) | (with_reducible refine Below.alloc ?_ ?_ _) | (with_reducible refine Below.setCell ?_ ?_ _) | (with_reducible refine belowStep (by assumption) ?_ ?_) | (with_reducible exact Below.size (by assumption)) | go_size)))) lxs Hin.out).mono ?_; rintro e w1 ⟨rfl, hb1⟩; have hz1 := hb1.size; (try simp only [World.heap_drewN] at hz1)
        obtain ⟨hc1, hf1⟩ := bcellB hb1; have hz1 := hb1.size; (try simp only [World.heap_drewN] at hc1 hf1 hz1); (try have hy1_r_0 : wr.heap.size < w1.heap.size := by omega); (try have hn1_r_0 : wr.heap.size ≠ w1.heap.size := by omega); (try have hm1_r_0 : w1.heap.size ≠ wr.heap.size := by omega); (try have hy1_r_1 : wr.heap.size + 1 < w1.heap.size := by omega); (try have hn1_r_1 : wr.heap.size + 1 ≠ w1.heap.size := by omega); (try have hm1_r_1 : w1.heap.size ≠ wr.heap.size + 1 := by omega); (try have hy1_r_2 : wr.heap.size + 1 + 1 < w1.heap.size := by omega); (try have hp1_r_1 : wr.heap.size < w1.heap.size + 1 := by omega); (try have hp1_r_2 : wr.heap.size < w1.heap.size + 1 + 1 := by omega); (try have hy1_0_0 : w.heap.size < w1.heap.size := by omega); (try have hn1_0_0 : w.heap.size ≠ w1.heap.size := by omega); (try have hm1_0_0 : w1.heap.size ≠ w.heap.size := by omega); (try have hy1_0_1 : w.heap.size + 1 < w1.heap.size := by omega); (try have hn1_0_1 : w.heap.size + 1 ≠ w1.heap.size := by omega); (try have hm1_0_1 : w1.heap.size ≠ w.heap.size + 1 := by omega); (try have hy1_0_2 : w.heap.size + 1 + 1 < w1.heap.size := by omega); (try have hp1_0_1 : w.heap.size < w1.heap.size + 1 := by omega); (try have hp1_0_2 : w.heap.size < w1.heap.size + 1 + 1 := by omega); (try have hg1_g1 : g1 < w1.heap.size := by omega); (try have hi1_g1 : g1 ≠ w1.heap.size := by omega); (try have hj1_g1 : w1.heap.size ≠ g1 := by omega); (try have hk1_g1 : g1 < w1.heap.size + 1 := by omega); (try have hg1_g2 : g2 < w1.heap.size := by omega); (try have hi1_g2 : g2 ≠ w1.heap.size := by omega); (try have hj1_g2 : w1.heap.size ≠ g2 := by omega); (try have hk1_g2 : g2 < w1.heap.size + 1 := by omega)
        go_wp2
        go_ret
        exact ⟨ret_bool E.out.symm, by (repeat' (first | (with_reducible exact Below.refl _ _) | (with_reducible assumption) | (with_reducible refine Below.drew ?_) | (with_reducible refine belowDrewN ?_ _) | (with_reducible refine Below.alloc ?_ ?_ _) | (with_reducible refine Below.setCell ?_ ?_ _) | (with_reducible refine belowStep (by assumption) ?_ ?_) | (with_reducible exact Below.size (by assumption)) | go_size))⟩
      · have E := Lib.hid (engB_long h24)
        have h24' : 24 < (xs.length : Int) := by omega
        go_wp2
        go_ret
        exact ⟨ret_bool E.out.symm, by (repeat' (first | (with_reducible exact Below.refl _ _) | (with_reducible assumption) | (with_reducible refine Below.drew ?_) | (with_reducible refine belowDrewN ?_ _) | (with_reducible refine Below.alloc ?_ ?_ _) | (with_reducible refine Below.setCell ?_ ?_ _) | (with_reducible refine belowStep (by assumption) ?_ ?_) | (with_reducible exact Below.size (by assumption)) | go_size))⟩
end Go.Proofs.YtbjblkfibinenadGreatDoor
