
/-
  The contract of the model's sums of ranges.
-/
import Derived.Test.YtponpllfojhfiabRngC
namespace Go.Proofs.Ytponpllfojhfiab
open Go.RowKit
set_option maxHeartbeats 400000 in
theorem rgs_no (f u m : Int) (w : World) (HL : Hid (∀ w, Calls Try.prog 52 #[.int .i64 f, .int .i64 1, .int .i64 60] w (RetQ (.bool true) w))) (HM : Hid (∀ w, Calls Try.prog 61 #[.int .i64 60, .int .i64 (f + 5)] w (RetQ (.int .i64 m) w))) (HL2 : Hid (∀ w, Calls Try.prog 52 #[.int .i64 u, .int .i64 f, .int .i64 m] w (RetQ (.bool false) w))) (o : IntKind.i64.wrap (f + 5) = f + 5) : Calls Try.prog 30 #[.int .i64 f, .int .i64 u] w (Ret (.tuple #[.agg #[.int .i64 0, .int .i64 0], .bool false]) w) := by
  go_enter Try.func30, Try.ntmps30
  go_wp2_with fail
  refine (HL.out _).mono ?_; rintro e w1 ⟨rfl, k1, rfl⟩
  go_wp2_with fail
  refine (HM.out _).mono ?_; rintro e w2 ⟨rfl, k2, rfl⟩
  go_wp2_with fail
  refine (HL2.out _).mono ?_; rintro e w3 ⟨rfl, k3, rfl⟩
  go_wp2
  refine bodyPost_ret (by simp [results, Try.results30, go_sem, *]; try rfl) rfl ?_
  exact ⟨rfl, by (repeat' (first | (with_reducible exact Below.refl _ _) | (with_reducible assumption) | (with_reducible refine Below.drew ?_) | (with_reducible refine belowDrewN ?_ _) | (with_reducible refine Below.alloc ?_ ?_ _) | (with_reducible refine Below.setCell ?_ ?_ _) | (with_reducible refine belowStep (by assumption) ?_ ?_) | (with_reducible exact Below.size (by assumption)) | go_size))⟩
set_option maxHeartbeats 4000000 in
theorem spec_rangeSum_any (f u : Int) (w : World) (rf : -9223372036854775808 ≤ f ∧ f ≤ 9223372036854775807) (ru : -9223372036854775808 ≤ u ∧ u ≤ 9223372036854775807) : Calls Try.prog 30 #[.int .i64 f, .int .i64 u] w (Ret (.tuple #[.agg #[.int .i64 ((rgP f u).1), .int .i64 ((rgP f u).2)], .bool (rgT f u)]) w) := by
  have lt02 : w.heap.size < w.heap.size + 1 + 1 := by omega
  have lt03 : w.heap.size < w.heap.size + 1 + 1 + 1 := by omega
  have ne02 : w.heap.size ≠ w.heap.size + 1 + 1 := by omega
  have ne20 : w.heap.size + 1 + 1 ≠ w.heap.size := by omega
  have ne03 : w.heap.size ≠ w.heap.size + 1 + 1 + 1 := by omega
  have ne30 : w.heap.size + 1 + 1 + 1 ≠ w.heap.size := by omega
  have lt13 : w.heap.size + 1 < w.heap.size + 1 + 1 + 1 := by omega
  cases hb : rgB f u with
  | false =>
    have E := Lib.hid (rg_no hb)
    have hn : ¬ (1 ≤ f ∧ f ≤ u ∧ u ≤ 60 ∧ u - f ≤ 5) := fun h => by rw [rg_iff.2 h] at hb; cases hb
    clear hb
    by_cases h1 : 1 ≤ f ∧ f ≤ 60
    · have HL := Lib.hid fun (w : World) => l1In_yes f 1 60 w h1.1 h1.2
      obtain ⟨m, hm⟩ : ∃ m, m = min 60 (f + 5) := ⟨_, rfl⟩
      have HM := Lib.hid fun (w : World) => l1LeastR_any 60 (f + 5) w
      rw [← hm] at HM
      have HL2 := Lib.hid fun (w : World) => l1In_no u f m w (by omega)
      clear hm
      have o : IntKind.i64.wrap (f + 5) = f + 5 := IntWalk.i64_in _ (by omega)
      rw [E.out.1, E.out.2.1, E.out.2.2]
      exact rgs_no f u m w HL HM HL2 o
    · have HL := Lib.hid fun (w : World) => l1In_no f 1 60 w h1
      clear h1 hn
      go_enter Try.func30, Try.ntmps30
      go_wp2_with (go_at_call 52; refine (HL.out _).mono ?_; rintro e w1 ⟨rfl, k1, rfl⟩)
      refine bodyPost_ret (by simp [results, Try.results30, go_sem, *]; try rfl) rfl ?_
      rw [E.out.1, E.out.2.1, E.out.2.2]
      exact ⟨rfl, by (repeat' (first | (with_reducible exact Below.refl _ _) | (with_reducible assumption) | (with_reducible refine Below.drew ?_) | (with_reducible refine belowDrewN ?_ _) | (with_reducible refine Below.alloc ?_ ?_ _) | (with_reducible refine Below.setCell ?_ ?_ _) | (with_reducible refine belowStep (by assumption) ?_ ?_) | (with_reducible exact Below.size (by assumption)) | go_size))⟩
  | true =>
    obtain ⟨r1, r2, r3, r4⟩ := rg_iff.1 hb
    obtain ⟨F, k, hF, hU, f1, f2, k5, fk, e1, e2⟩ := rg_yes hb
    rw [← hF] at hU
    have E := Lib.hid (And.intro e1 e2)
    have hgd := Lib.hid (fun j (hj : j ≤ k) => (show rsB f j = true from hF ▸ range_good f2 f1 (show j ≤ 5 by omega)))
    have HL := Lib.hid fun (w : World) => l1In_yes f 1 60 w (by omega) (by omega)
    obtain ⟨m, hm⟩ : ∃ m, m = min 60 (f + 5) := ⟨_, rfl⟩
    have HM := Lib.hid fun (w : World) => l1LeastR_any 60 (f + 5) w
    rw [← hm] at HM
    have HL2 := Lib.hid fun (w : World) => l1In_yes u f m w (by omega) (by omega)
    clear hm
    have o : IntKind.i64.wrap (f + 5) = f + 5 := IntWalk.i64_in _ (by omega)
    have HU := Lib.hid hU
    clear hb e1 e2 hF hU f1 f2 k5 fk
    go_enter Try.func30, Try.ntmps30
    go_wp2_with fail
    refine (HL.out _).mono ?_; rintro e w5 ⟨rfl, k5, rfl⟩
    go_wp2_with fail
    refine (HM.out _).mono ?_; rintro e w6 ⟨rfl, k6, rfl⟩
    go_wp2_with fail
    refine (HL2.out _).mono ?_; rintro e w7 ⟨rfl, k7, rfl⟩
    go_wp2
    go_loopw [7] (fun v7 wr => ∃ (j : Nat) (i n d : Int), j ≤ k + 1 ∧ v7 = .int .i64 i ∧ i = f + (j : Int) ∧ rs f j = (n, d) ∧ TwoAt wr w.heap.size 0 0 ∧ TwoAt wr (w.heap.size + 1) n d ∧ Below w.heap.size w wr) (fun v7 _ => (u + 1 - intOf v7).toNat)
    case atStart => exact ⟨0, f, 0, 1, Nat.zero_le _, rfl, by omega, rfl, by (refine ⟨?_, ?_, ?_, ?_, ?_⟩ <;> first | (simp only [World.size_alloc, World.size_setCell, World.size_drew, World.heap_drewN]; omega) | (first | (simp [*, World.cell?_alloc_some, World.cell?_setCell_far]; done) | (simp [go_sem, *]; done))), by (refine ⟨?_, ?_, ?_, ?_, ?_⟩ <;> first | (simp only [World.size_alloc, World.size_setCell, World.size_drew, World.heap_drewN]; omega) | (first | (simp [*, World.cell?_alloc_some, World.cell?_setCell_far]; done) | (simp [go_sem, *]; done))), by (repeat' (first | (with_reducible exact Below.refl _ _) | (with_reducible assumption) | (with_reducible refine Below.drew ?_) | (with_reducible refine belowDrewN ?_ _) | (with_reducible refine Below.alloc ?_ ?_ _) | (with_reducible refine Below.setCell ?_ ?_ _) | (with_reducible refine belowStep (by assumption) ?_ ?_) | (with_reducible exact Below.size (by assumption)) | go_size))⟩
    case round =>
      obtain ⟨j, i, n, d, hj, rfl, hi, hp, ⟨c1, c2, q1, q2, z1⟩, ⟨c3, c4, q3, q4, z2⟩, hbr⟩ := hrel
      have i1 : 1 ≤ i := by omega
      have i2 : i ≤ 61 := by have := HU.out; omega
      by_cases hlt : i ≤ u
      · have hjk : j ≤ k := by have := HU.out; omega
        have hg := hgd.out j hjk
        have HA := rs_add (f := f) (k := j)
        unfold rsB at hg
        rw [hp] at hg HA
        rw [← hi] at HA
        obtain ⟨n1, n2, d1, d2⟩ := good_bounds hg
        have HA := Lib.hid HA
        have Hi := Lib.hid hi
        have HAd := Lib.hid fun (w : World) => unAdd_any n d 1 i w n1 n2 d1 d2 (by omega) (by omega) i1 (by omega)
        clear hi hp hg hjk
        go_wp2
        go_region_with (first | (go_at_call 48; refine (unUnit_any _ _).mono ?_; rintro e w1 ⟨rfl, hb1⟩; obtain ⟨hc1, hf1⟩ := bcellB hb1; have hz1 := hb1.size; (try simp only [World.size_alloc, World.size_setCell, World.size_drew, World.heap_drewN] at hc1 hf1 hz1); (try have hy1_r_0 : wr.heap.size < w1.heap.size := by omega); (try have hn1_r_0 : wr.heap.size ≠ w1.heap.size := by omega); (try have hm1_r_0 : w1.heap.size ≠ wr.heap.size := by omega); (try have hy1_r_1 : wr.heap.size + 1 < w1.heap.size := by omega); (try have hn1_r_1 : wr.heap.size + 1 ≠ w1.heap.size := by omega); (try have hm1_r_1 : w1.heap.size ≠ wr.heap.size + 1 := by omega); (try have hy1_r_2 : wr.heap.size + 1 + 1 < w1.heap.size := by omega); (try have hp1_r_1 : wr.heap.size < w1.heap.size + 1 := by omega); (try have hp1_r_2 : wr.heap.size < w1.heap.size + 1 + 1 := by omega); (try have hy1_0_0 : w.heap.size < w1.heap.size := by omega); (try have hn1_0_0 : w.heap.size ≠ w1.heap.size := by omega); (try have hm1_0_0 : w1.heap.size ≠ w.heap.size := by omega); (try have hy1_0_1 : w.heap.size + 1 < w1.heap.size := by omega); (try have hn1_0_1 : w.heap.size + 1 ≠ w1.heap.size := by omega); (try have hm1_0_1 : w1.heap.size ≠ w.heap.size + 1 := by omega); (try have hy1_0_2 : w.heap.size + 1 + 1 < w1.heap.size := by omega); (try have hp1_0_1 : w.heap.size < w1.heap.size + 1 := by omega); (try have hp1_0_2 : w.heap.size < w1.heap.size + 1 + 1 := by omega); (try have hg1_g1 : g1 < w1.heap.size := by omega); (try have hi1_g1 : g1 ≠ w1.heap.size := by omega); (try have hj1_g1 : w1.heap.size ≠ g1 := by omega); (try have hk1_g1 : g1 < w1.heap.size + 1 := by omega); (try have hg1_g2 : g2 < w1.heap.size := by omega); (try have hi1_g2 : g2 ≠ w1.heap.size := by omega); (try have hj1_g2 : w1.heap.size ≠ g2 := by omega); (try have hk1_g2 : g2 < w1.heap.size + 1 := by omega)) | (go_at_call 62; refine (HAd.out _).mono ?_; rintro e w2 ⟨rfl, hb2⟩; obtain ⟨hc2, hf2⟩ := bcellB hb2; have hz2 := hb2.size; (try simp only [World.size_alloc, World.size_setCell, World.size_drew, World.heap_drewN] at hc2 hf2 hz2); (try have hy2_r_0 : wr.heap.size < w2.heap.size := by omega); (try have hn2_r_0 : wr.heap.size ≠ w2.heap.size := by omega); (try have hm2_r_0 : w2.heap.size ≠ wr.heap.size := by omega); (try have hy2_r_1 : wr.heap.size + 1 < w2.heap.size := by omega); (try have hn2_r_1 : wr.heap.size + 1 ≠ w2.heap.size := by omega); (try have hm2_r_1 : w2.heap.size ≠ wr.heap.size + 1 := by omega); (try have hy2_r_2 : wr.heap.size + 1 + 1 < w2.heap.size := by omega); (try have hp2_r_1 : wr.heap.size < w2.heap.size + 1 := by omega); (try have hp2_r_2 : wr.heap.size < w2.heap.size + 1 + 1 := by omega); (try have hy2_0_0 : w.heap.size < w2.heap.size := by omega); (try have hn2_0_0 : w.heap.size ≠ w2.heap.size := by omega); (try have hm2_0_0 : w2.heap.size ≠ w.heap.size := by omega); (try have hy2_0_1 : w.heap.size + 1 < w2.heap.size := by omega); (try have hn2_0_1 : w.heap.size + 1 ≠ w2.heap.size := by omega); (try have hm2_0_1 : w2.heap.size ≠ w.heap.size + 1 := by omega); (try have hy2_0_2 : w.heap.size + 1 + 1 < w2.heap.size := by omega); (try have hp2_0_1 : w.heap.size < w2.heap.size + 1 := by omega); (try have hp2_0_2 : w.heap.size < w2.heap.size + 1 + 1 := by omega); (try have hy2_1_0 : w1.heap.size < w2.heap.size := by omega); (try have hn2_1_0 : w1.heap.size ≠ w2.heap.size := by omega); (try have hm2_1_0 : w2.heap.size ≠ w1.heap.size := by omega); (try have hy2_1_1 : w1.heap.size + 1 < w2.heap.size := by omega); (try have hn2_1_1 : w1.heap.size + 1 ≠ w2.heap.size := by omega); (try have hm2_1_1 : w2.heap.size ≠ w1.heap.size + 1 := by omega); (try have hy2_1_2 : w1.heap.size + 1 + 1 < w2.heap.size := by omega); (try have hp2_1_1 : w1.heap.size < w2.heap.size + 1 := by omega); (try have hp2_1_2 : w1.heap.size < w2.heap.size + 1 + 1 := by omega); (try have hg2_g1 : g1 < w2.heap.size := by omega); (try have hi2_g1 : g1 ≠ w2.heap.size := by omega); (try have hj2_g1 : w2.heap.size ≠ g1 := by omega); (try have hk2_g1 : g1 < w2.heap.size + 1 := by omega); (try have hg2_g2 : g2 < w2.heap.size := by omega); (try have hi2_g2 : g2 ≠ w2.heap.size := by omega); (try have hj2_g2 : w2.heap.size ≠ g2 := by omega); (try have hk2_g2 : g2 < w2.heap.size + 1 := by omega)))
        all_goals
          go_wp2
          go_roundw
          case rel => exact ⟨j + 1, i + 1, _, _, by have := HU.out; have := Hi.out; omega, by go_num, by have := Hi.out; omega, HA.out, by (refine ⟨?_, ?_, ?_, ?_, ?_⟩ <;> first | (simp only [World.size_alloc, World.size_setCell, World.size_drew, World.heap_drewN]; omega) | (first | (simp [*, World.cell?_alloc_some, World.cell?_setCell_far]; done) | (simp [go_sem, *]; done))), by (refine ⟨?_, ?_, ?_, ?_, ?_⟩ <;> first | (simp only [World.size_alloc, World.size_setCell, World.size_drew, World.heap_drewN]; omega) | (first | (simp [*, World.cell?_alloc_some, World.cell?_setCell_far]; done) | (simp [go_sem, *]; done))), by (repeat' (first | (with_reducible exact Below.refl _ _) | (with_reducible assumption) | (with_reducible refine Below.drew ?_) | (with_reducible refine belowDrewN ?_ _) | (with_reducible refine Below.alloc ?_ ?_ _) | (with_reducible refine Below.setCell ?_ ?_ _) | (with_reducible refine belowStep (by assumption) ?_ ?_) | (with_reducible exact Below.size (by assumption)) | go_size))⟩
          case measure => (simp [intOf]) <;> omega
      · obtain rfl : j = k + 1 := by have := HU.out; omega
        have HI := Lib.hid fun (w : World) => unIf_any (rs f (k + 1)).1 (rs f (k + 1)).2 w
        rw [rsO_eq.1, rsO_eq.2] at HI
        have hT : goodB (rs f (k + 1)).1 (rs f (k + 1)).2 = rsB f (k + 1) := rfl
        rw [hT, hp] at HI
        clear hT hp hi
        go_wp2_with (go_at_call 63; refine (HI.out _).mono ?_; rintro e w3 ⟨rfl, hb3⟩; obtain ⟨hc3, hf3⟩ := bcellB hb3; have hz3 := hb3.size; (try simp only [World.size_alloc, World.size_setCell, World.size_drew, World.heap_drewN] at hc3 hf3 hz3); (try have hy3_r_0 : wr.heap.size < w3.heap.size := by omega); (try have hn3_r_0 : wr.heap.size ≠ w3.heap.size := by omega); (try have hm3_r_0 : w3.heap.size ≠ wr.heap.size := by omega); (try have hy3_r_1 : wr.heap.size + 1 < w3.heap.size := by omega); (try have hn3_r_1 : wr.heap.size + 1 ≠ w3.heap.size := by omega); (try have hm3_r_1 : w3.heap.size ≠ wr.heap.size + 1 := by omega); (try have hy3_r_2 : wr.heap.size + 1 + 1 < w3.heap.size := by omega); (try have hp3_r_1 : wr.heap.size < w3.heap.size + 1 := by omega); (try have hp3_r_2 : wr.heap.size < w3.heap.size + 1 + 1 := by omega); (try have hy3_0_0 : w.heap.size < w3.heap.size := by omega); (try have hn3_0_0 : w.heap.size ≠ w3.heap.size := by omega); (try have hm3_0_0 : w3.heap.size ≠ w.heap.size := by omega); (try have hy3_0_1 : w.heap.size + 1 < w3.heap.size := by omega); (try have hn3_0_1 : w.heap.size + 1 ≠ w3.heap.size := by omega); (try have hm3_0_1 : w3.heap.size ≠ w.heap.size + 1 := by omega); (try have hy3_0_2 : w.heap.size + 1 + 1 < w3.heap.size := by omega); (try have hp3_0_1 : w.heap.size < w3.heap.size + 1 := by omega); (try have hp3_0_2 : w.heap.size < w3.heap.size + 1 + 1 := by omega); (try have hy3_1_0 : w1.heap.size < w3.heap.size := by omega); (try have hn3_1_0 : w1.heap.size ≠ w3.heap.size := by omega); (try have hm3_1_0 : w3.heap.size ≠ w1.heap.size := by omega); (try have hy3_1_1 : w1.heap.size + 1 < w3.heap.size := by omega); (try have hn3_1_1 : w1.heap.size + 1 ≠ w3.heap.size := by omega); (try have hm3_1_1 : w3.heap.size ≠ w1.heap.size + 1 := by omega); (try have hy3_1_2 : w1.heap.size + 1 + 1 < w3.heap.size := by omega); (try have hp3_1_1 : w1.heap.size < w3.heap.size + 1 := by omega); (try have hp3_1_2 : w1.heap.size < w3.heap.size + 1 + 1 := by omega); (try have hy3_2_0 : w2.heap.size < w3.heap.size := by omega); (try have hn3_2_0 : w2.heap.size ≠ w3.heap.size := by omega); (try have hm3_2_0 : w3.heap.size ≠ w2.heap.size := by omega); (try have hy3_2_1 : w2.heap.size + 1 < w3.heap.size := by omega); (try have hn3_2_1 : w2.heap.size + 1 ≠ w3.heap.size := by omega); (try have hm3_2_1 : w3.heap.size ≠ w2.heap.size + 1 := by omega); (try have hy3_2_2 : w2.heap.size + 1 + 1 < w3.heap.size := by omega); (try have hp3_2_1 : w2.heap.size < w3.heap.size + 1 := by omega); (try have hp3_2_2 : w2.heap.size < w3.heap.size + 1 + 1 := by omega); (try have hg3_g1 : g1 < w3.heap.size := by omega); (try have hi3_g1 : g1 ≠ w3.heap.size := by omega); (try have hj3_g1 : w3.heap.size ≠ g1 := by omega); (try have hk3_g1 : g1 < w3.heap.size + 1 := by omega); (try have hg3_g2 : g2 < w3.heap.size := by omega); (try have hi3_g2 : g2 ≠ w3.heap.size := by omega); (try have hj3_g2 : w3.heap.size ≠ g2 := by omega); (try have hk3_g2 : g2 < w3.heap.size + 1 := by omega))
        refine bodyPost_ret (by simp [results, Try.results30, go_sem, *]; try rfl) rfl ?_
        rw [E.out.1, E.out.2]
        exact ⟨rfl, by (repeat' (first | (with_reducible exact Below.refl _ _) | (with_reducible assumption) | (with_reducible refine Below.drew ?_) | (with_reducible refine belowDrewN ?_ _) | (with_reducible refine Below.alloc ?_ ?_ _) | (with_reducible refine Below.setCell ?_ ?_ _) | (with_reducible refine belowStep (by assumption) ?_ ?_) | (with_reducible exact Below.size (by assumption)) | go_size))⟩
end Go.Proofs.Ytponpllfojhfiab
