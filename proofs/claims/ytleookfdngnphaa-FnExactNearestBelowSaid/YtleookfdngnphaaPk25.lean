import Derived.Test.YtleookfdngnphaaPk6

/-
  Contracts of the test of a repeated list and of its sum.
-/
namespace Go.Proofs.Ytleookfdngnphaa
open Go.RowKit
theorem l1All_any (w : World) (lo hi : Int) (Axs : Option Addr) (cxs : Nat) (xs : List Int) (hxs : Reads w Axs xs) (lxs : xs.length ≤ 1048576) : Calls Try.prog 119 #[.slice Axs xs.length cxs, .int .i64 lo, .int .i64 hi] w (RetQ (.bool (xs.all fun x => decide (lo ≤ x) && decide (x ≤ hi))) w) := by
  go_enter Try.func119, Try.ntmps119
  go_wp2
  go_loopw [11] (fun v11 wr => ∃ k : Nat, k ≤ xs.length ∧ v11 = .int .i64 k ∧ (xs.all fun x => decide (lo ≤ x) && decide (x ≤ hi)) = ((xs.drop k).all fun x => decide (lo ≤ x) && decide (x ≤ hi)) ∧ ∃ n, wr = w.drewN n) (fun v11 _ => xs.length - (intOf v11).toNat)
  case atStart => exact ⟨0, Nat.zero_le _, rfl, rfl, 0, rfl⟩
  case round =>
    obtain ⟨k, hk, rfl, hr, n, rfl⟩ := hrel
    have Hr := Lib.hid hr
    clear hr
    by_cases hlt : k < xs.length
    · obtain ⟨b, o, x, rfl, hb, hx, hcell⟩ := hxs.at_ hlt
      have Hx := Lib.hid hx
      clear hx
      by_cases hin : lo ≤ x ∧ x ≤ hi
      · go_wp2_with (go_at_call 103; refine (l1In_yes _ _ _ _ hin.1 hin.2).mono ?_; rintro e w1 ⟨rfl, k1, rfl⟩)
        go_roundw
        case rel => exact ⟨k + 1, by omega, by go_num, by rw [Hr.out, drop_at Hx.out, List.all_cons]; simp [hin.1, hin.2], _, rfl⟩
        case measure => simp [intOf]; omega
      · go_wp2_with (go_at_call 103; refine (l1In_no _ _ _ _ hin).mono ?_; rintro e w1 ⟨rfl, k1, rfl⟩)
        go_ret
        exact ⟨ret_bool (by
          rw [Hr.out, drop_at Hx.out, List.all_cons]
          have h2 : (decide (lo ≤ x) && decide (x ≤ hi)) = false := by
            by_cases h1 : lo ≤ x
            · have h2 : ¬ x ≤ hi := fun h2 => hin ⟨h1, h2⟩
              simp [h2]
            · simp [h1]
          rw [h2]; rfl), _, rfl⟩
    · obtain rfl : k = xs.length := by omega
      go_wp2
      go_ret
      exact ⟨ret_bool (by rw [Hr.out, drop_all]; rfl), _, rfl⟩
theorem all_up {xs : List Int} (h : (xs.all fun x => decide (1 ≤ x) && decide (x ≤ 1000000000)) = false) : repB xs = false := by
  refine repB_up ?_
  cases hu : up 0 1 xs with
  | false => rfl
  | true =>
    exfalso
    have h2 := up_in (by omega) hu
    have : (xs.all fun x => decide (1 ≤ x) && decide (x ≤ 1000000000)) = true := List.all_eq_true.2 fun x hx => by
      have := h2 x hx
      simp [this.1, this.2]
    rw [this] at h; cases h
theorem all_in {xs : List Int} (h : (xs.all fun x => decide (1 ≤ x) && decide (x ≤ 1000000000)) = true) : ∀ (i : Nat) (x : Int), xs[i]? = some x → 1 ≤ x ∧ x ≤ 1000000000 := fun i x hx => by
  have := List.all_eq_true.1 h x (List.mem_of_getElem? hx)
  simpa using this
set_option maxHeartbeats 4000000 in
theorem neRepeated_any (w : World) (Axs : Option Addr) (cxs : Nat) (xs : List Int) (hxs : Reads w Axs xs) (lxs : xs.length ≤ 1048576) : Calls Try.prog 141 #[.slice Axs xs.length cxs] w (Ret (.bool (repB xs)) w) := by
  have Hxs := Lib.hid hxs
  clear hxs
  by_cases hlen : xs.length ≤ 24
  · cases ha : (xs.all fun x => decide (1 ≤ x) && decide (x ≤ 1000000000)) with
    | false =>
      have He := Lib.hid (all_up ha)
      have Ha := Lib.hid ha
      clear ha
      go_enter Try.func141, Try.ntmps141
      go_wp2_with fail
      refine (l1All_any _ 1 1000000000 _ _ _ (Hxs.out.below (by (repeat' (first | (with_reducible exact Below.refl _ _) | (with_reducible assumption) | (with_reducible refine Below.drew ?_) | (with_reducible refine belowDrewN ?_ _) | (with_reducible refine Below.alloc ?_ ?_ _) | (with_reducible refine Below.setCell ?_ ?_ _) | (with_reducible refine belowStep (by assumption) ?_ ?_) | (with_reducible exact Below.size (by assumption)) | go_size)))) lxs).mono ?_; rintro e w1 ⟨rfl, k1, rfl⟩
      rw [Ha.out]
      go_wp2
      go_ret
      exact ⟨ret_bool He.out.symm, by (repeat' (first | (with_reducible exact Below.refl _ _) | (with_reducible assumption) | (with_reducible refine Below.drew ?_) | (with_reducible refine belowDrewN ?_ _) | (with_reducible refine Below.alloc ?_ ?_ _) | (with_reducible refine Below.setCell ?_ ?_ _) | (with_reducible refine belowStep (by assumption) ?_ ?_) | (with_reducible exact Below.size (by assumption)) | go_size))⟩
    | true =>
      have Ha := Lib.hid ha
      have Hin := Lib.hid (all_in ha)
      clear ha
      go_enter Try.func141, Try.ntmps141
      go_wp2_with fail
      refine (l1All_any _ 1 1000000000 _ _ _ (Hxs.out.below (by (repeat' (first | (with_reducible exact Below.refl _ _) | (with_reducible assumption) | (with_reducible refine Below.drew ?_) | (with_reducible refine belowDrewN ?_ _) | (with_reducible refine Below.alloc ?_ ?_ _) | (with_reducible refine Below.setCell ?_ ?_ _) | (with_reducible refine belowStep (by assumption) ?_ ?_) | (with_reducible exact Below.size (by assumption)) | go_size)))) lxs).mono ?_; rintro e w1 ⟨rfl, k1, rfl⟩
      rw [Ha.out]
      go_wp2
      go_loopw [3] (fun v3 wr => ∃ (k : Nat) (y : Int), 1 ≤ k ∧ k ≤ xs.length + 1 ∧ (1 ≤ xs.length → k ≤ xs.length) ∧ v3 = .int .i64 k ∧ (1 ≤ xs.length → xs[k - 1]? = some y) ∧ up 0 1 xs = up 0 y (xs.drop k) ∧ Below w.heap.size w wr) (fun v3 _ => xs.length + 1 - (intOf v3).toNat)
      case atStart =>
        refine ⟨1, xs.headD 1, by omega, by omega, fun h => h, rfl, ?_, ?_, by (repeat' (first | (with_reducible exact Below.refl _ _) | (with_reducible assumption) | (with_reducible refine Below.drew ?_) | (with_reducible refine belowDrewN ?_ _) | (with_reducible refine Below.alloc ?_ ?_ _) | (with_reducible refine Below.setCell ?_ ?_ _) | (with_reducible refine belowStep (by assumption) ?_ ?_) | (with_reducible exact Below.size (by assumption)) | go_size))⟩
        · cases xs with
          | nil => simp
          | cons x xs => simp
        · cases xs with
          | nil => rfl
          | cons x xs =>
            have := Hin.out 0 x rfl
            rw [up_yes this.1 this.2, Int.add_zero]; rfl
      case round =>
        obtain ⟨k, y, hk1, hk, hk2, rfl, hy, hr, hbr⟩ := hrel
        have Hr := Lib.hid hr
        clear hr
        by_cases hlt : k < xs.length
        · obtain ⟨j, rfl⟩ : ∃ j, k = j + 1 := ⟨k - 1, by omega⟩
          have hR := Hxs.out.below hbr
          obtain ⟨b, o, x, z, rfl, hb, hx, hz, hcell, hcell2⟩ := hR.at2 hlt (show j < xs.length by omega)
          have hzy : z = y := by
            have := hy (by omega)
            rw [Nat.add_sub_cancel, hz] at this
            injection this
          subst hzy
          have hx1 := Hin.out _ _ hx
          have hxr := Lib.hid hx
          have hzr := Lib.hid hz
          clear hx hz hy
          by_cases hlow : x < z
          · have He : Hid (repB xs = false) := Lib.hid (repB_up (by rw [Hr.out, drop_at hxr.out, up_no (by omega)]))
            go_wp2
            go_region
            all_goals
              go_wp2
              go_ret
              exact ⟨ret_bool He.out.symm, by (repeat' (first | (with_reducible exact Below.refl _ _) | (with_reducible assumption) | (with_reducible refine Below.drew ?_) | (with_reducible refine belowDrewN ?_ _) | (with_reducible refine Below.alloc ?_ ?_ _) | (with_reducible refine Below.setCell ?_ ?_ _) | (with_reducible refine belowStep (by assumption) ?_ ?_) | (with_reducible exact Below.size (by assumption)) | go_size))⟩
          · go_wp2
            go_region
            all_goals
              go_wp2
              go_roundw
              case rel => exact ⟨j + 1 + 1, x, by omega, by omega, fun _ => by omega, by go_num, fun _ => hxr.out, by rw [Hr.out, drop_at hxr.out, up_yes (by omega) hx1.2, Int.add_zero], by (repeat' (first | (with_reducible exact Below.refl _ _) | (with_reducible assumption) | (with_reducible refine Below.drew ?_) | (with_reducible refine belowDrewN ?_ _) | (with_reducible refine Below.alloc ?_ ?_ _) | (with_reducible refine Below.setCell ?_ ?_ _) | (with_reducible refine belowStep (by assumption) ?_ ?_) | (with_reducible exact Below.size (by assumption)) | go_size))⟩
              case measure => simp [intOf]; omega
        · have hd : xs.drop k = [] := List.drop_of_length_le (by omega)
          have He : Hid (repB xs = (sumL 0 1 xs).isSome) := Lib.hid (repB_eq hlen (by rw [Hr.out, hd]; rfl))
          clear hd hy
          go_wp2_with fail
          refine (unSum_any _ _ _ _ (Hxs.out.below (by (repeat' (first | (with_reducible exact Below.refl _ _) | (with_reducible assumption) | (with_reducible refine Below.drew ?_) | (with_reducible refine belowDrewN ?_ _) | (with_reducible refine Below.alloc ?_ ?_ _) | (with_reducible refine Below.setCell ?_ ?_ _) | (with_reducible refine belowStep (by assumption) ?_ ?_) | (with_reducible exact Below.size (by assumption)) | go_size)))) lxs Hin.out).mono ?_; rintro e w2 ⟨rfl, hb2⟩; obtain ⟨hc2, hf2⟩ := bcellB hb2; have hz2 := hb2.size; (try simp only [World.size_alloc, World.size_setCell, World.size_drew, World.heap_drewN] at hc2 hf2 hz2); (try have hy2_r_0 : wr.heap.size < w2.heap.size := by omega); (try have hn2_r_0 : wr.heap.size ≠ w2.heap.size := by omega); (try have hm2_r_0 : w2.heap.size ≠ wr.heap.size := by omega); (try have hy2_r_1 : wr.heap.size + 1 < w2.heap.size := by omega); (try have hn2_r_1 : wr.heap.size + 1 ≠ w2.heap.size := by omega); (try have hm2_r_1 : w2.heap.size ≠ wr.heap.size + 1 := by omega); (try have hy2_r_2 : wr.heap.size + 1 + 1 < w2.heap.size := by omega); (try have hp2_r_1 : wr.heap.size < w2.heap.size + 1 := by omega); (try have hp2_r_2 : wr.heap.size < w2.heap.size + 1 + 1 := by omega); (try have hy2_0_0 : w.heap.size < w2.heap.size := by omega); (try have hn2_0_0 : w.heap.size ≠ w2.heap.size := by omega); (try have hm2_0_0 : w2.heap.size ≠ w.heap.size := by omega); (try have hy2_0_1 : w.heap.size + 1 < w2.heap.size := by omega); (try have hn2_0_1 : w.heap.size + 1 ≠ w2.heap.size := by omega); (try have hm2_0_1 : w2.heap.size ≠ w.heap.size + 1 := by omega); (try have hy2_0_2 : w.heap.size + 1 + 1 < w2.heap.size := by omega); (try have hp2_0_1 : w.heap.size < w2.heap.size + 1 := by omega); (try have hp2_0_2 : w.heap.size < w2.heap.size + 1 + 1 := by omega); (try have hy2_1_0 : w1.heap.size < w2.heap.size := by omega); (try have hn2_1_0 : w1.heap.size ≠ w2.heap.size := by omega); (try have hm2_1_0 : w2.heap.size ≠ w1.heap.size := by omega); (try have hy2_1_1 : w1.heap.size + 1 < w2.heap.size := by omega); (try have hn2_1_1 : w1.heap.size + 1 ≠ w2.heap.size := by omega); (try have hm2_1_1 : w2.heap.size ≠ w1.heap.size + 1 := by omega); (try have hy2_1_2 : w1.heap.size + 1 + 1 < w2.heap.size := by omega); (try have hp2_1_1 : w1.heap.size < w2.heap.size + 1 := by omega); (try have hp2_1_2 : w1.heap.size < w2.heap.size + 1 + 1 := by omega); (try have hg2_g1 : g1 < w2.heap.size := by omega); (try have hi2_g1 : g1 ≠ w2.heap.size := by omega); (try have hj2_g1 : w2.heap.size ≠ g1 := by omega); (try have hk2_g1 : g1 < w2.heap.size + 1 := by omega); (try have hg2_g2 : g2 < w2.heap.size := by omega); (try have hi2_g2 : g2 ≠ w2.heap.size := by omega); (try have hj2_g2 : w2.heap.size ≠ g2 := by omega); (try have hk2_g2 : g2 < w2.heap.size + 1 := by omega)
          have hzz : w.heap.size ≤ w2.heap.size := Nat.le_trans hbr.size hb2.size
          go_wp2
          go_ret
          exact ⟨ret_bool He.out.symm, by (repeat' (first | (with_reducible exact Below.refl _ _) | (with_reducible assumption) | (with_reducible refine Below.drew ?_) | (with_reducible refine belowDrewN ?_ _) | (with_reducible refine Below.alloc ?_ ?_ _) | (with_reducible refine Below.setCell ?_ ?_ _) | (with_reducible refine belowStep (by assumption) ?_ ?_) | (with_reducible exact Below.size (by assumption)) | go_size))⟩
  · have He := Lib.hid (repB_long hlen)
    have h24 : 24 < xs.length := by omega
    clear hlen
    go_enter Try.func141, Try.ntmps141
    go_wp2
    go_ret
    exact ⟨ret_bool He.out.symm, by (repeat' (first | (with_reducible exact Below.refl _ _) | (with_reducible assumption) | (with_reducible refine Below.drew ?_) | (with_reducible refine belowDrewN ?_ _) | (with_reducible refine Below.alloc ?_ ?_ _) | (with_reducible refine Below.setCell ?_ ?_ _) | (with_reducible refine belowStep (by assumption) ?_ ?_) | (with_reducible exact Below.size (by assumption)) | go_size))⟩
theorem rep_up {xs : List Int} (h : (decide (xs.length ≤ 24) && up 0 1 xs) = false) : repB xs = false := by
  simp only [repB]
  rw [h]; rfl
set_option maxHeartbeats 1000000 in
theorem repeatedSum_any (w : World) (Axs : Option Addr) (cxs : Nat) (xs : List Int) (hxs : Reads w Axs xs) (lxs : xs.length ≤ 1048576) (r64 : ∀ (i : Nat) (x : Int), xs[i]? = some x → -9223372036854775808 ≤ x ∧ x ≤ 9223372036854775807) :
    Calls Try.prog 59 #[.slice Axs xs.length cxs] w (Ret (.tuple #[.agg #[.int .i64 (rN xs), .int .i64 (rD xs)], .bool (repB xs)]) w) := by
  have Hr64 := Lib.hid r64
  have Hxs := Lib.hid hxs
  clear hxs r64
  have lt02 : w.heap.size < w.heap.size + 1 + 1 := by omega
  have lt03 : w.heap.size < w.heap.size + 1 + 1 + 1 := by omega
  have ne02 : w.heap.size ≠ w.heap.size + 1 + 1 := by omega
  have ne20 : w.heap.size + 1 + 1 ≠ w.heap.size := by omega
  have ne03 : w.heap.size ≠ w.heap.size + 1 + 1 + 1 := by omega
  have ne30 : w.heap.size + 1 + 1 + 1 ≠ w.heap.size := by omega
  have lt13 : w.heap.size + 1 < w.heap.size + 1 + 1 + 1 := by omega
  cases hu : (decide (xs.length ≤ 24) && up 0 1 xs) with
  | false =>
    have He := Lib.hid (rep_up hu)
    have Hu := Lib.hid hu
    clear hu
    go_enter Try.func59, Try.ntmps59
    go_wp2_with fail
    refine (isRising_any _ 1 0 _ _ _ (Hxs.out.below (by (repeat' (first | (with_reducible exact Below.refl _ _) | (with_reducible assumption) | (with_reducible refine Below.drew ?_) | (with_reducible refine belowDrewN ?_ _) | (with_reducible refine Below.alloc ?_ ?_ _) | (with_reducible refine Below.setCell ?_ ?_ _) | (with_reducible refine belowStep (by assumption) ?_ ?_) | (with_reducible exact Below.size (by assumption)) | go_size)))) lxs Hr64.out (by omega) (by omega) (by omega) (by omega)).mono ?_; rintro e w1 ⟨rfl, k1, rfl⟩
    rw [Hu.out]
    go_wp2
    refine bodyPost_ret (by simp [results, Try.results59, go_sem, *]; try rfl) rfl ?_
    exact ⟨ret_fr (rN_no He.out).symm (rD_no He.out).symm He.out.symm, by (repeat' (first | (with_reducible exact Below.refl _ _) | (with_reducible assumption) | (with_reducible refine Below.drew ?_) | (with_reducible refine belowDrewN ?_ _) | (with_reducible refine Below.alloc ?_ ?_ _) | (with_reducible refine Below.setCell ?_ ?_ _) | (with_reducible refine belowStep (by assumption) ?_ ?_) | (with_reducible exact Below.size (by assumption)) | go_size))⟩
  | true =>
    have hp : xs.length ≤ 24 ∧ up 0 1 xs = true := by simpa using hu
    have He := Lib.hid (repB_eq hp.1 hp.2)
    have Hin := Lib.hid (up_idx (by omega) hp.2)
    have Hu := Lib.hid hu
    clear hu hp
    go_enter Try.func59, Try.ntmps59
    go_wp2_with fail
    refine (isRising_any _ 1 0 _ _ _ (Hxs.out.below (by (repeat' (first | (with_reducible exact Below.refl _ _) | (with_reducible assumption) | (with_reducible refine Below.drew ?_) | (with_reducible refine belowDrewN ?_ _) | (with_reducible refine Below.alloc ?_ ?_ _) | (with_reducible refine Below.setCell ?_ ?_ _) | (with_reducible refine belowStep (by assumption) ?_ ?_) | (with_reducible exact Below.size (by assumption)) | go_size)))) lxs Hr64.out (by omega) (by omega) (by omega) (by omega)).mono ?_; rintro e w1 ⟨rfl, k1, rfl⟩
    rw [Hu.out]
    go_wp2_with (go_at_call 108; refine (addUnits_any _ _ _ _ (Hxs.out.below (by (repeat' (first | (with_reducible exact Below.refl _ _) | (with_reducible assumption) | (with_reducible refine Below.drew ?_) | (with_reducible refine belowDrewN ?_ _) | (with_reducible refine Below.alloc ?_ ?_ _) | (with_reducible refine Below.setCell ?_ ?_ _) | (with_reducible refine belowStep (by assumption) ?_ ?_) | (with_reducible exact Below.size (by assumption)) | go_size)))) lxs Hin.out).mono ?_; rintro e w2 ⟨rfl, hb2⟩; obtain ⟨hc2, hf2⟩ := bcellB hb2; have hz2 := hb2.size; (try simp only [World.size_alloc, World.heap_drewN] at hc2 hf2 hz2); (try have hy2_r_0 : wr.heap.size < w2.heap.size := by omega); (try have hn2_r_0 : wr.heap.size ≠ w2.heap.size := by omega); (try have hm2_r_0 : w2.heap.size ≠ wr.heap.size := by omega); (try have hy2_r_1 : wr.heap.size + 1 < w2.heap.size := by omega); (try have hn2_r_1 : wr.heap.size + 1 ≠ w2.heap.size := by omega); (try have hm2_r_1 : w2.heap.size ≠ wr.heap.size + 1 := by omega); (try have hy2_r_2 : wr.heap.size + 1 + 1 < w2.heap.size := by omega); (try have hp2_r_1 : wr.heap.size < w2.heap.size + 1 := by omega); (try have hp2_r_2 : wr.heap.size < w2.heap.size + 1 + 1 := by omega); (try have hy2_0_0 : w.heap.size < w2.heap.size := by omega); (try have hn2_0_0 : w.heap.size ≠ w2.heap.size := by omega); (try have hm2_0_0 : w2.heap.size ≠ w.heap.size := by omega); (try have hy2_0_1 : w.heap.size + 1 < w2.heap.size := by omega); (try have hn2_0_1 : w.heap.size + 1 ≠ w2.heap.size := by omega); (try have hm2_0_1 : w2.heap.size ≠ w.heap.size + 1 := by omega); (try have hy2_0_2 : w.heap.size + 1 + 1 < w2.heap.size := by omega); (try have hp2_0_1 : w.heap.size < w2.heap.size + 1 := by omega); (try have hp2_0_2 : w.heap.size < w2.heap.size + 1 + 1 := by omega); (try have hy2_1_0 : w1.heap.size < w2.heap.size := by omega); (try have hn2_1_0 : w1.heap.size ≠ w2.heap.size := by omega); (try have hm2_1_0 : w2.heap.size ≠ w1.heap.size := by omega); (try have hy2_1_1 : w1.heap.size + 1 < w2.heap.size := by omega); (try have hn2_1_1 : w1.heap.size + 1 ≠ w2.heap.size := by omega); (try have hm2_1_1 : w2.heap.size ≠ w1.heap.size + 1 := by omega); (try have hy2_1_2 : w1.heap.size + 1 + 1 < w2.heap.size := by omega); (try have hp2_1_1 : w1.heap.size < w2.heap.size + 1 := by omega); (try have hp2_1_2 : w1.heap.size < w2.heap.size + 1 + 1 := by omega); (try have hg2_g1 : g1 < w2.heap.size := by omega); (try have hi2_g1 : g1 ≠ w2.heap.size := by omega); (try have hj2_g1 : w2.heap.size ≠ g1 := by omega); (try have hk2_g1 : g1 < w2.heap.size + 1 := by omega); (try have hg2_g2 : g2 < w2.heap.size := by omega); (try have hi2_g2 : g2 ≠ w2.heap.size := by omega); (try have hj2_g2 : w2.heap.size ≠ g2 := by omega); (try have hk2_g2 : g2 < w2.heap.size + 1 := by omega))
    refine bodyPost_ret (by simp [results, Try.results59, go_sem, *]; try rfl) rfl ?_
    refine ⟨ret_fr ?_ ?_ He.out.symm, by (repeat' (first | (with_reducible exact Below.refl _ _) | (with_reducible assumption) | (with_reducible refine Below.drew ?_) | (with_reducible refine belowDrewN ?_ _) | (with_reducible refine Below.alloc ?_ ?_ _) | (with_reducible refine Below.setCell ?_ ?_ _) | (with_reducible refine belowStep (by assumption) ?_ ?_) | (with_reducible exact Below.size (by assumption)) | go_size))⟩
    · rw [rN, He.out]
      cases h : (sumL 0 1 xs).isSome with
      | true => rfl
      | false => rw [(sum_none h).1]; rfl
    · rw [rD, He.out]
      cases h : (sumL 0 1 xs).isSome with
      | true => rfl
      | false => rw [(sum_none h).2]; rfl
theorem isRepeated_any (w : World) (Axs : Option Addr) (cxs : Nat) (xs : List Int) (hxs : Reads w Axs xs) (lxs : xs.length ≤ 1048576) (r64 : ∀ (i : Nat) (x : Int), xs[i]? = some x → -9223372036854775808 ≤ x ∧ x ≤ 9223372036854775807) :
    Calls Try.prog 86 #[.slice Axs xs.length cxs] w (Ret (.bool (repB xs)) w) := by
  have Hr64 := Lib.hid r64
  have Hxs := Lib.hid hxs
  clear hxs r64
  go_enter Try.func86, Try.ntmps86
  go_wp2_with (go_at_call 59; refine (repeatedSum_any _ _ _ _ Hxs.out lxs Hr64.out).mono ?_; rintro e w1 ⟨rfl, hb1⟩; obtain ⟨hc1, hf1⟩ := bcellB hb1; have hz1 := hb1.size; (try simp only [World.size_alloc, World.size_setCell, World.size_drew, World.heap_drewN] at hc1 hf1 hz1); (try have hy1_r_0 : wr.heap.size < w1.heap.size := by omega); (try have hn1_r_0 : wr.heap.size ≠ w1.heap.size := by omega); (try have hm1_r_0 : w1.heap.size ≠ wr.heap.size := by omega); (try have hy1_r_1 : wr.heap.size + 1 < w1.heap.size := by omega); (try have hn1_r_1 : wr.heap.size + 1 ≠ w1.heap.size := by omega); (try have hm1_r_1 : w1.heap.size ≠ wr.heap.size + 1 := by omega); (try have hy1_r_2 : wr.heap.size + 1 + 1 < w1.heap.size := by omega); (try have hp1_r_1 : wr.heap.size < w1.heap.size + 1 := by omega); (try have hp1_r_2 : wr.heap.size < w1.heap.size + 1 + 1 := by omega); (try have hy1_0_0 : w.heap.size < w1.heap.size := by omega); (try have hn1_0_0 : w.heap.size ≠ w1.heap.size := by omega); (try have hm1_0_0 : w1.heap.size ≠ w.heap.size := by omega); (try have hy1_0_1 : w.heap.size + 1 < w1.heap.size := by omega); (try have hn1_0_1 : w.heap.size + 1 ≠ w1.heap.size := by omega); (try have hm1_0_1 : w1.heap.size ≠ w.heap.size + 1 := by omega); (try have hy1_0_2 : w.heap.size + 1 + 1 < w1.heap.size := by omega); (try have hp1_0_1 : w.heap.size < w1.heap.size + 1 := by omega); (try have hp1_0_2 : w.heap.size < w1.heap.size + 1 + 1 := by omega); (try have hg1_g1 : g1 < w1.heap.size := by omega); (try have hi1_g1 : g1 ≠ w1.heap.size := by omega); (try have hj1_g1 : w1.heap.size ≠ g1 := by omega); (try have hk1_g1 : g1 < w1.heap.size + 1 := by omega); (try have hg1_g2 : g2 < w1.heap.size := by omega); (try have hi1_g2 : g2 ≠ w1.heap.size := by omega); (try have hj1_g2 : w1.heap.size ≠ g2 := by omega); (try have hk1_g2 : g2 < w1.heap.size + 1 := by omega))
  go_ret
  exact ⟨rfl, by (repeat' (first | (with_reducible exact Below.refl _ _) | (with_reducible assumption) | (with_reducible refine Below.drew ?_) | (with_reducible refine belowDrewN ?_ _) | (with_reducible refine Below.alloc ?_ ?_ _) | (with_reducible refine Below.setCell ?_ ?_ _) | (with_reducible refine belowStep (by assumption) ?_ ?_) | (with_reducible exact Below.size (by assumption)) | go_size))⟩
theorem good_rep {xs : List Int} (h : repB xs = true) : goodB (sumN xs) (sumD xs) = true := by
  have hp := repB_parts h
  exact sumL_good good_zero (up_idx (by omega) hp.2.1) hp.2.2
end Go.Proofs.Ytleookfdngnphaa
