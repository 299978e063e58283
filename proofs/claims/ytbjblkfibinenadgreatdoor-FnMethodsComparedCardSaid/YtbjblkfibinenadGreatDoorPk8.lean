import Derived.Test.YtbjblkfibinenadGreatDoorPk7
import Derived.Test.YtbjblkfibinenadGreatDoorPk2

/-
  Contracts of the program's test of a list that rises or does not fall, and of the sum of the unit fractions of a list.
-/
namespace Go.Proofs.YtbjblkfibinenadGreatDoor
open Go.RowKit
set_option maxHeartbeats 2000000 in
theorem isRising_any (w : World) (lo s : Int) (Axs : Option Addr) (cxs : Nat) (xs : List Int) (hxs : Reads w Axs xs) (lxs : xs.length ≤ 1048576) (r64 : ∀ (i : Nat) (x : Int), xs[i]? = some x → -9223372036854775808 ≤ x ∧ x ≤ 9223372036854775807) (hl0 : 1 ≤ lo) (hl1 : lo ≤ 1000) (hs0 : 0 ≤ s) (hs1 : s ≤ 1000) : Calls Tryz.prog 52 #[.slice Axs xs.length cxs, .int .i64 lo, .int .i64 s] w (RetQ (.bool (decide (xs.length ≤ 24) && up s lo xs)) w) := by
  have Hxs := Lib.hid hxs
  have Hr64 := Lib.hid r64
  clear hxs r64
  by_cases hl : xs.length ≤ 24
  · have E : Hid ((decide (xs.length ≤ 24) && up s lo xs) = up s lo xs) := Lib.hid (by simp [hl])
    go_enter Tryz.func52, Tryz.ntmps52
    go_wp2
    go_loopw [1, 14] (fun v1 v14 wr => ∃ (k : Nat) (l : Int), k ≤ xs.length ∧ v14 = .int .i64 k ∧ v1 = .int .i64 l ∧ 1 ≤ l ∧ l ≤ 1000001000 ∧ up s lo xs = up s l (xs.drop k) ∧ ∃ n, wr = w.drewN n) (fun _ v14 _ => xs.length - (intOf v14).toNat)
    case atStart => exact ⟨0, lo, Nat.zero_le _, rfl, rfl, by omega, by omega, rfl, 0, rfl⟩
    case round =>
      obtain ⟨k, l, hk, rfl, rfl, l1, l2, hr, n, rfl⟩ := hrel
      have Hr := Lib.hid hr
      clear hr
      by_cases hlt : k < xs.length
      · obtain ⟨b, o, x, rfl, hb, hx, hcell⟩ := Hxs.out.at_ hlt
        have hx6 := Hr64.out k x hx
        have Hx := Lib.hid hx
        clear hx
        by_cases h1 : l ≤ x
        · by_cases h2 : x ≤ 1000000000
          · have Hst := Lib.hid (up_yes (s := s) (xs := xs.drop (k + 1)) h1 h2)
            go_wp2
            go_roundw
            case rel => exact ⟨k + 1, x + s, by omega, by go_num, rfl, by omega, by omega, by rw [Hr.out, drop_at Hx.out, Hst.out], n, rfl⟩
            case measure => simp [intOf]; omega
          · have h2' : 1000000000 < x := by omega
            go_wp2
            go_ret
            exact ⟨ret_bool (by first | (rw [E.out, Hr.out, drop_at Hx.out, up_no (by omega)]; done) | (rw [Hr.out, drop_at Hx.out, up_no (by omega)]; done)), n, rfl⟩
        · have h1' : x < l := by omega
          go_wp2
          go_ret
          exact ⟨ret_bool (by first | (rw [E.out, Hr.out, drop_at Hx.out, up_no (by omega)]; done) | (rw [Hr.out, drop_at Hx.out, up_no (by omega)]; done)), n, rfl⟩
      · obtain rfl : k = xs.length := by omega
        go_wp2
        go_ret
        exact ⟨ret_bool (by first | (rw [E.out, Hr.out, drop_all]; rfl) | (rw [Hr.out, drop_all]; rfl)), n, rfl⟩
  · have E : Hid ((decide (xs.length ≤ 24) && up s lo xs) = false) := Lib.hid (by simp [hl])
    have hl' : 24 < (xs.length : Int) := by omega
    go_enter Tryz.func52, Tryz.ntmps52
    go_wp2
    go_ret
    exact ⟨ret_bool E.out.symm, 0, rfl⟩
set_option maxHeartbeats 4000000 in
theorem addUnits_any (w : World) (Axs : Option Addr) (cxs : Nat) (xs : List Int) (hxs : Reads w Axs xs) (lxs : xs.length ≤ 1048576) (hin : ∀ (i : Nat) (x : Int), xs[i]? = some x → 1 ≤ x ∧ x ≤ 1000000000) :
    Calls Tryz.prog 53 #[.slice Axs xs.length cxs] w (Ret (.tuple #[.agg #[.int .i64 (sumN xs), .int .i64 (sumD xs)], .bool ((sumL 0 1 xs).isSome)]) w) := by
  have lt02 : w.heap.size < w.heap.size + 1 + 1 := by omega
  have lt03 : w.heap.size < w.heap.size + 1 + 1 + 1 := by omega
  have ne02 : w.heap.size ≠ w.heap.size + 1 + 1 := by omega
  have ne20 : w.heap.size + 1 + 1 ≠ w.heap.size := by omega
  have ne03 : w.heap.size ≠ w.heap.size + 1 + 1 + 1 := by omega
  have ne30 : w.heap.size + 1 + 1 + 1 ≠ w.heap.size := by omega
  have lt13 : w.heap.size + 1 < w.heap.size + 1 + 1 + 1 := by omega
  go_enter Tryz.func53, Tryz.ntmps53
  go_wp2
  go_loopw [12] (fun v12 wr => ∃ (k : Nat) (n d : Int), k ≤ xs.length ∧ v12 = .int .i64 k ∧ goodB n d = true ∧ sumL 0 1 xs = sumL n d (xs.drop k) ∧ TwoAt wr w.heap.size 0 0 ∧ TwoAt wr (w.heap.size + 1) n d ∧ Below w.heap.size w wr) (fun v12 _ => xs.length - (intOf v12).toNat)
  case atStart => exact ⟨0, 0, 1, Nat.zero_le _, rfl, good_zero, rfl, by (refine ⟨?_, ?_, ?_, ?_, ?_⟩ <;> first | (simp only [World.size_alloc]; omega) | (first | (simp [*, World.cell?_alloc_some]; done) | (simp [go_sem, *]; done))), by (refine ⟨?_, ?_, ?_, ?_, ?_⟩ <;> first | (simp only [World.size_alloc]; omega) | (first | (simp [*]; done) | (simp [go_sem, *]; done))), by (repeat' (first | (with_reducible exact Below.refl _ _) | (with_reducible assumption) | (with_reducible refine Below.drew ?_) | (with_reducible refine belowDrewN ?_ _) | (with_reducible refine Below.alloc ?_ ?_ _) | (with_reducible refine Below.setCell ?_ ?_ _) | (with_reducible refine belowStep (by assumption) ?_ ?_) | (with_reducible exact Below.size (by assumption)) | go_size))⟩
  case round =>
    obtain ⟨k, n, d, hk, rfl, hg, hs, ⟨c1, c2, f1, f2, z1⟩, ⟨c3, c4, f3, f4, z2⟩, hbr⟩ := hrel
    have Hg := Lib.hid hg
    have Hs := Lib.hid hs
    obtain ⟨n1, n2, d1, d2⟩ := good_bounds hg
    clear hg hs
    have Hin := Lib.hid hin
    have Hxs := Lib.hid hxs
    clear hin hxs
    by_cases hlt : k < xs.length
    · obtain ⟨b, o, x, rfl, hb, hx, hcell⟩ := (Hxs.out.below hbr).at_ hlt
      obtain ⟨x1, x2⟩ := Hin.out k x hx
      have Hx := Lib.hid hx
      clear hx
      have p2 := mul_pos1 d1 x1
      cases hred : redB (n * x + d) (d * x) with
      | true =>
        have Hred := Lib.hid hred
        have hnn : 0 ≤ n * x + d := by have := mul_bounds n1 n2 (by omega : 0 ≤ x) x2; omega
        have Hnn := Lib.hid hnn
        clear hnn
        go_wp2_with (go_at_call 76; refine (add_yes _ _ _ _ _ Hg.out (good_unit x1 x2)).mono ?_; rintro e w1 ⟨rfl, hb1⟩; obtain ⟨hc1, hf1⟩ := bcellB hb1; have hz1 := hb1.size; (try simp only [World.size_alloc, World.size_setCell, World.size_drew, World.heap_drewN] at hc1 hf1 hz1); (try have hy1_r_0 : wr.heap.size < w1.heap.size := by omega); (try have hn1_r_0 : wr.heap.size ≠ w1.heap.size := by omega); (try have hm1_r_0 : w1.heap.size ≠ wr.heap.size := by omega); (try have hy1_r_1 : wr.heap.size + 1 < w1.heap.size := by omega); (try have hn1_r_1 : wr.heap.size + 1 ≠ w1.heap.size := by omega); (try have hm1_r_1 : w1.heap.size ≠ wr.heap.size + 1 := by omega); (try have hy1_r_2 : wr.heap.size + 1 + 1 < w1.heap.size := by omega); (try have hp1_r_1 : wr.heap.size < w1.heap.size + 1 := by omega); (try have hp1_r_2 : wr.heap.size < w1.heap.size + 1 + 1 := by omega); (try have hy1_0_0 : w.heap.size < w1.heap.size := by omega); (try have hn1_0_0 : w.heap.size ≠ w1.heap.size := by omega); (try have hm1_0_0 : w1.heap.size ≠ w.heap.size := by omega); (try have hy1_0_1 : w.heap.size + 1 < w1.heap.size := by omega); (try have hn1_0_1 : w.heap.size + 1 ≠ w1.heap.size := by omega); (try have hm1_0_1 : w1.heap.size ≠ w.heap.size + 1 := by omega); (try have hy1_0_2 : w.heap.size + 1 + 1 < w1.heap.size := by omega); (try have hp1_0_1 : w.heap.size < w1.heap.size + 1 := by omega); (try have hp1_0_2 : w.heap.size < w1.heap.size + 1 + 1 := by omega); (try have hg1_g1 : g1 < w1.heap.size := by omega); (try have hi1_g1 : g1 ≠ w1.heap.size := by omega); (try have hj1_g1 : w1.heap.size ≠ g1 := by omega); (try have hk1_g1 : g1 < w1.heap.size + 1 := by omega); (try have hg1_g2 : g2 < w1.heap.size := by omega); (try have hi1_g2 : g2 ≠ w1.heap.size := by omega); (try have hj1_g2 : w1.heap.size ≠ g2 := by omega); (try have hk1_g2 : g2 < w1.heap.size + 1 := by omega))
        go_roundw
        case rel => exact ⟨k + 1, redN (n * x + d) (d * x), redD (n * x + d) (d * x), by omega, by go_num, good_of_redB Hnn.out p2 Hred.out, by rw [Hs.out, drop_at Hx.out, sumL_yes Hred.out], by (refine ⟨?_, ?_, ?_, ?_, ?_⟩ <;> first | (simp only [World.size_alloc, World.size_setCell]; omega) | (first | (simp [*, World.cell?_alloc_some, World.cell?_setCell_far]; done) | (simp [go_sem, *]; done))), by (refine ⟨?_, ?_, ?_, ?_, ?_⟩ <;> first | (simp only [World.size_alloc, World.size_setCell]; omega) | (first | (simp [*, World.cell?_alloc_some, World.cell?_setCell_far]; done) | (simp [go_sem, *]; done))), by (repeat' (first | (with_reducible exact Below.refl _ _) | (with_reducible assumption) | (with_reducible refine Below.drew ?_) | (with_reducible refine belowDrewN ?_ _) | (with_reducible refine Below.alloc ?_ ?_ _) | (with_reducible refine Below.setCell ?_ ?_ _) | (with_reducible refine belowStep (by assumption) ?_ ?_) | (with_reducible exact Below.size (by assumption)) | go_size))⟩
        case measure => simp [intOf]; omega
      | false =>
        have Hred := Lib.hid hred
        have Hnone : Hid (sumL 0 1 xs = none) := by
          have := Hs.out
          rw [drop_at Hx.out, sumL_no Hred.out] at this
          exact this
        go_wp2_with (go_at_call 76; refine (add_yes _ _ _ _ _ Hg.out (good_unit x1 x2)).mono ?_; rintro e w1 ⟨rfl, hb1⟩; obtain ⟨hc1, hf1⟩ := bcellB hb1; have hz1 := hb1.size; (try simp only [World.size_alloc, World.size_setCell, World.size_drew, World.heap_drewN] at hc1 hf1 hz1); (try have hy1_r_0 : wr.heap.size < w1.heap.size := by omega); (try have hn1_r_0 : wr.heap.size ≠ w1.heap.size := by omega); (try have hm1_r_0 : w1.heap.size ≠ wr.heap.size := by omega); (try have hy1_r_1 : wr.heap.size + 1 < w1.heap.size := by omega); (try have hn1_r_1 : wr.heap.size + 1 ≠ w1.heap.size := by omega); (try have hm1_r_1 : w1.heap.size ≠ wr.heap.size + 1 := by omega); (try have hy1_r_2 : wr.heap.size + 1 + 1 < w1.heap.size := by omega); (try have hp1_r_1 : wr.heap.size < w1.heap.size + 1 := by omega); (try have hp1_r_2 : wr.heap.size < w1.heap.size + 1 + 1 := by omega); (try have hy1_0_0 : w.heap.size < w1.heap.size := by omega); (try have hn1_0_0 : w.heap.size ≠ w1.heap.size := by omega); (try have hm1_0_0 : w1.heap.size ≠ w.heap.size := by omega); (try have hy1_0_1 : w.heap.size + 1 < w1.heap.size := by omega); (try have hn1_0_1 : w.heap.size + 1 ≠ w1.heap.size := by omega); (try have hm1_0_1 : w1.heap.size ≠ w.heap.size + 1 := by omega); (try have hy1_0_2 : w.heap.size + 1 + 1 < w1.heap.size := by omega); (try have hp1_0_1 : w.heap.size < w1.heap.size + 1 := by omega); (try have hp1_0_2 : w.heap.size < w1.heap.size + 1 + 1 := by omega); (try have hg1_g1 : g1 < w1.heap.size := by omega); (try have hi1_g1 : g1 ≠ w1.heap.size := by omega); (try have hj1_g1 : w1.heap.size ≠ g1 := by omega); (try have hk1_g1 : g1 < w1.heap.size + 1 := by omega); (try have hg1_g2 : g2 < w1.heap.size := by omega); (try have hi1_g2 : g2 ≠ w1.heap.size := by omega); (try have hj1_g2 : w1.heap.size ≠ g2 := by omega); (try have hk1_g2 : g2 < w1.heap.size + 1 := by omega))
        refine bodyPost_ret (by simp [results, Tryz.results53, go_sem, *]; try rfl) rfl ?_
        exact ⟨ret_fr (by rw [sumN, Hnone.out]; rfl) (by rw [sumD, Hnone.out]; rfl) (by rw [Hnone.out]; rfl), by (repeat' (first | (with_reducible exact Below.refl _ _) | (with_reducible assumption) | (with_reducible refine Below.drew ?_) | (with_reducible refine belowDrewN ?_ _) | (with_reducible refine Below.alloc ?_ ?_ _) | (with_reducible refine Below.setCell ?_ ?_ _) | (with_reducible refine belowStep (by assumption) ?_ ?_) | (with_reducible exact Below.size (by assumption)) | go_size))⟩
    · obtain rfl : k = xs.length := by omega
      rw [drop_all] at Hs
      go_wp2
      refine bodyPost_ret (by simp [results, Tryz.results53, go_sem, *]; try rfl) rfl ?_
      exact ⟨ret_fr (sumN_of Hs.out).symm (sumD_of Hs.out).symm (by rw [Hs.out]; rfl), by (repeat' (first | (with_reducible exact Below.refl _ _) | (with_reducible assumption) | (with_reducible refine Below.drew ?_) | (with_reducible refine belowDrewN ?_ _) | (with_reducible refine Below.alloc ?_ ?_ _) | (with_reducible refine Below.setCell ?_ ?_ _) | (with_reducible refine belowStep (by assumption) ?_ ?_) | (with_reducible exact Below.size (by assumption)) | go_size))⟩
end Go.Proofs.YtbjblkfibinenadGreatDoor


/-
  Plain facts on repeated lists: their sums, whether they are such, and the lists of numbers that follow one another.
-/
namespace Go.Proofs.YtbjblkfibinenadGreatDoor
open Go.RowKit
/-- a repeated list -/
def repB (xs : List Int) : Bool := decide (xs.length ≤ 24) && up 0 1 xs && (sumL 0 1 xs).isSome
def rN (xs : List Int) : Int := if repB xs = true then sumN xs else 0
def rD (xs : List Int) : Int := if repB xs = true then sumD xs else 0
theorem rN_no {xs : List Int} (h : repB xs = false) : rN xs = 0 := by rw [rN, h]; rfl
theorem rD_no {xs : List Int} (h : repB xs = false) : rD xs = 0 := by rw [rD, h]; rfl
theorem repB_parts {xs : List Int} (h : repB xs = true) : xs.length ≤ 24 ∧ up 0 1 xs = true ∧ sumL 0 1 xs = some (sumN xs, sumD xs) := by
  simp only [repB, Bool.and_eq_true, decide_eq_true_eq] at h
  refine ⟨h.1.1, h.1.2, ?_⟩
  cases hs : sumL 0 1 xs with
  | none => rw [hs] at h; cases h.2
  | some p => simp [sumN, sumD, hs]
theorem repB_long {xs : List Int} (h : ¬ xs.length ≤ 24) : repB xs = false := by simp [repB, h]
theorem repB_up {xs : List Int} (h : up 0 1 xs = false) : repB xs = false := by simp [repB, h]
theorem repB_eq {xs : List Int} (h1 : xs.length ≤ 24) (h2 : up 0 1 xs = true) : repB xs = (sumL 0 1 xs).isSome := by simp [repB, h1, h2]
theorem expB_eq {xs : List Int} (h1 : xs.length ≤ 24) (h2 : up 1 1 xs = true) : expB xs = (sumL 0 1 xs).isSome := by simp [expB, h1, h2, rise_up0]
theorem expB_up {xs : List Int} (h : (decide (xs.length ≤ 24) && up 1 1 xs) = false) : expB xs = false := by
  simp only [expB, rise_up0]
  rw [h]; rfl
theorem up_idx {s lo : Int} (hs : 0 ≤ s) {xs : List Int} (h : up s lo xs = true) (i : Nat) (x : Int) (hx : xs[i]? = some x) : lo ≤ x ∧ x ≤ 1000000000 := up_in hs h x (List.mem_of_getElem? hx)
theorem sum_none {xs : List Int} (h : (sumL 0 1 xs).isSome = false) : sumN xs = 0 ∧ sumD xs = 0 := by
  cases hs : sumL 0 1 xs with
  | none => simp [sumN, sumD, hs]
  | some p => rw [hs] at h; cases h
end Go.Proofs.YtbjblkfibinenadGreatDoor


/-
  Contracts of the test of an expansion and of its sum.
-/
namespace Go.Proofs.YtbjblkfibinenadGreatDoor
open Go.RowKit
theorem rise_in {lo hi : Int} : ∀ {xs : List Int} {p : Option Int}, rise lo hi p xs = true → ∀ (i : Nat) (x : Int), xs[i]? = some x → lo ≤ x ∧ x ≤ hi
  | [], _, _, i, x, h => by simp at h
  | t :: ts, p, hr, i, x, h => by
    unfold rise at hr
    simp only [Bool.and_eq_true, decide_eq_true_eq] at hr
    cases i with
    | zero => simp at h; subst h; exact ⟨hr.1.1.1, hr.1.1.2⟩
    | succ i => exact rise_in hr.2 i x (by simpa using h)

theorem sumL_good : ∀ {xs : List Int} {n d n' d' : Int}, goodB n d = true → (∀ (i : Nat) (x : Int), xs[i]? = some x → 1 ≤ x ∧ x ≤ 1000000000) → sumL n d xs = some (n', d') → goodB n' d' = true
  | [], n, d, n', d', hg, _, h => by
    simp only [sumL, Option.some.injEq, Prod.mk.injEq] at h
    rw [← h.1, ← h.2]; exact hg
  | t :: ts, n, d, n', d', hg, hin, h => by
    obtain ⟨n1, n2, d1, d2⟩ := good_bounds hg
    obtain ⟨t1, t2⟩ := hin 0 t rfl
    have p1 := mul_bounds n1 n2 (by omega : 0 ≤ t) t2
    have p2 := mul_pos1 d1 t1
    cases hr : redB (n * t + d) (d * t) with
    | false => rw [sumL_no hr] at h; cases h
    | true =>
      rw [sumL_yes hr] at h
      exact sumL_good (good_of_redB (by omega) p2 hr) (fun i x hx => hin (i + 1) x (by simpa using hx)) h
theorem good_sum {xs : List Int} (h : expB xs = true) : goodB (sumN xs) (sumD xs) = true := by
  have hp := expB_parts h
  exact sumL_good good_zero (rise_in hp.2.1) hp.2.2
set_option maxHeartbeats 1000000 in
theorem unExpansion_any (w : World) (Axs : Option Addr) (cxs : Nat) (xs : List Int) (hxs : Reads w Axs xs) (lxs : xs.length ≤ 1048576) : Calls Tryz.prog 82 #[.slice Axs xs.length cxs] w (Ret (.bool (expB xs)) w) := by
  by_cases hlen : xs.length ≤ 24
  · cases hr : rise 1 1000000000 none xs with
    | true =>
      have hin := rise_in hr
      have He : Hid (expB xs = (sumL 0 1 xs).isSome) := by show _ = _; simp [expB, hlen, hr]
      have Hin := Lib.hid hin
      have Hxs := Lib.hid hxs
      clear hin hxs
      go_enter Tryz.func82, Tryz.ntmps82
      go_wp2_with (first | (go_at_call 100; refine (l1Rising_any _ _ _ _ _ _ Hxs.out (by omega)).mono ?_; rintro e w1 ⟨rfl, k1, rfl⟩) | (go_at_call 101; refine (unSum_any _ _ _ _ (Hxs.out.drewN _) (by omega) Hin.out).mono ?_; rintro e w1 ⟨rfl, hb1⟩; obtain ⟨hc1, hf1⟩ := bcellB hb1; have hz1 := hb1.size; (try simp only [World.heap_drewN] at hc1 hf1 hz1); (try have hy1_r_0 : wr.heap.size < w1.heap.size := by omega); (try have hn1_r_0 : wr.heap.size ≠ w1.heap.size := by omega); (try have hm1_r_0 : w1.heap.size ≠ wr.heap.size := by omega); (try have hy1_r_1 : wr.heap.size + 1 < w1.heap.size := by omega); (try have hn1_r_1 : wr.heap.size + 1 ≠ w1.heap.size := by omega); (try have hm1_r_1 : w1.heap.size ≠ wr.heap.size + 1 := by omega); (try have hy1_r_2 : wr.heap.size + 1 + 1 < w1.heap.size := by omega); (try have hp1_r_1 : wr.heap.size < w1.heap.size + 1 := by omega); (try have hp1_r_2 : wr.heap.size < w1.heap.size + 1 + 1 := by omega); (try have hy1_0_0 : w.heap.size < w1.heap.size := by omega); (try have hn1_0_0 : w.heap.size ≠ w1.heap.size := by omega); (try have hm1_0_0 : w1.heap.size ≠ w.heap.size := by omega); (try have hy1_0_1 : w.heap.size + 1 < w1.heap.size := by omega); (try have hn1_0_1 : w.heap.size + 1 ≠ w1.heap.size := by omega); (try have hm1_0_1 : w1.heap.size ≠ w.heap.size + 1 := by omega); (try have hy1_0_2 : w.heap.size + 1 + 1 < w1.heap.size := by omega); (try have hp1_0_1 : w.heap.size < w1.heap.size + 1 := by omega); (try have hp1_0_2 : w.heap.size < w1.heap.size + 1 + 1 := by omega); (try have hg1_g1 : g1 < w1.heap.size := by omega); (try have hi1_g1 : g1 ≠ w1.heap.size := by omega); (try have hj1_g1 : w1.heap.size ≠ g1 := by omega); (try have hk1_g1 : g1 < w1.heap.size + 1 := by omega); (try have hg1_g2 : g2 < w1.heap.size := by omega); (try have hi1_g2 : g2 ≠ w1.heap.size := by omega); (try have hj1_g2 : w1.heap.size ≠ g2 := by omega); (try have hk1_g2 : g2 < w1.heap.size + 1 := by omega)))
      go_ret
      exact ⟨ret_bool He.out.symm, by (repeat' (first | (with_reducible exact Below.refl _ _) | (with_reducible assumption) | (with_reducible refine Below.drew ?_) | (with_reducible refine belowDrewN ?_ _) | (with_reducible refine Below.alloc ?_ ?_ _) | (with_reducible refine Below.setCell ?_ ?_ _) | (with_reducible refine belowStep (by assumption) ?_ ?_) | (with_reducible exact Below.size (by assumption)) | go_size))⟩
    | false =>
      have He := Lib.hid (expB_rise hr)
      have Hxs := Lib.hid hxs
      clear hxs
      go_enter Tryz.func82, Tryz.ntmps82
      go_wp2_with (go_at_call 100; refine (l1Rising_any _ _ _ _ _ _ Hxs.out (by omega)).mono ?_; rintro e w1 ⟨rfl, k1, rfl⟩)
      go_ret
      exact ⟨ret_bool He.out.symm, by (repeat' (first | (with_reducible exact Below.refl _ _) | (with_reducible assumption) | (with_reducible refine Below.drew ?_) | (with_reducible refine belowDrewN ?_ _) | (with_reducible refine Below.alloc ?_ ?_ _) | (with_reducible refine Below.setCell ?_ ?_ _) | (with_reducible refine belowStep (by assumption) ?_ ?_) | (with_reducible exact Below.size (by assumption)) | go_size))⟩
  · have He := Lib.hid (expB_long hlen)
    have h24 : 24 < xs.length := by omega
    have Hxs := Lib.hid hxs
    clear hxs hlen
    go_enter Tryz.func82, Tryz.ntmps82
    go_wp2
    go_ret
    exact ⟨ret_bool He.out.symm, by (repeat' (first | (with_reducible exact Below.refl _ _) | (with_reducible assumption) | (with_reducible refine Below.drew ?_) | (with_reducible refine belowDrewN ?_ _) | (with_reducible refine Below.alloc ?_ ?_ _) | (with_reducible refine Below.setCell ?_ ?_ _) | (with_reducible refine belowStep (by assumption) ?_ ?_) | (with_reducible exact Below.size (by assumption)) | go_size))⟩

def eN (xs : List Int) : Int := if expB xs = true then sumN xs else 0
def eD (xs : List Int) : Int := if expB xs = true then sumD xs else 0
theorem eN_no {xs : List Int} (h : expB xs = false) : eN xs = 0 := by rw [eN, h]; rfl
theorem eD_no {xs : List Int} (h : expB xs = false) : eD xs = 0 := by rw [eD, h]; rfl

set_option maxHeartbeats 1000000 in
theorem sumOf_any (w : World) (Axs : Option Addr) (cxs : Nat) (xs : List Int) (hxs : Reads w Axs xs) (lxs : xs.length ≤ 1048576) (r64 : ∀ (i : Nat) (x : Int), xs[i]? = some x → -9223372036854775808 ≤ x ∧ x ≤ 9223372036854775807) :
    Calls Tryz.prog 30 #[.slice Axs xs.length cxs] w (Ret (.tuple #[.agg #[.int .i64 (eN xs), .int .i64 (eD xs)], .bool (expB xs)]) w) := by
  have Hr64 := Lib.hid r64
  have Hxs := Lib.hid hxs
  clear hxs r64
  have lt02 : w.heap.size < w.heap.size + 1 + 1 := by omega
  have lt03 : w.heap.size < w.heap.size + 1 + 1 + 1 := by omega
  have ne02 : w.heap.size ≠ w.heap.size + 1 + 1 := by omega
  have ne20 : w.heap.size + 1 + 1 ≠ w.heap.size := by omega
  have ne03 : w.heap.size ≠ w.heap.size + 1 + 1 + 1 := by omega
  have ne30 : w.heap.size + 1 + 1 + 1 ≠ w.heap.size := by omega
  have lt13 : w.heap.size + 1 < w.heap.size + 1 + 1 + 1 := by omega
  cases hu : (decide (xs.length ≤ 24) && up 1 1 xs) with
  | false =>
    have He := Lib.hid (expB_up hu)
    have Hu := Lib.hid hu
    clear hu
    go_enter Tryz.func30, Tryz.ntmps30
    go_wp2_with fail
    refine (isRising_any _ 1 1 _ _ _ (Hxs.out.below (by (repeat' (first | (with_reducible exact Below.refl _ _) | (with_reducible assumption) | (with_reducible refine Below.drew ?_) | (with_reducible refine belowDrewN ?_ _) | (with_reducible refine Below.alloc ?_ ?_ _) | (with_reducible refine Below.setCell ?_ ?_ _) | (with_reducible refine belowStep (by assumption) ?_ ?_) | (with_reducible exact Below.size (by assumption)) | go_size)))) lxs Hr64.out (by omega) (by omega) (by omega) (by omega)).mono ?_; rintro e w1 ⟨rfl, k1, rfl⟩
    rw [Hu.out]
    go_wp2
    refine bodyPost_ret (by simp [results, Tryz.results30, go_sem, *]; try rfl) rfl ?_
    exact ⟨ret_fr (eN_no He.out).symm (eD_no He.out).symm He.out.symm, by (repeat' (first | (with_reducible exact Below.refl _ _) | (with_reducible assumption) | (with_reducible refine Below.drew ?_) | (with_reducible refine belowDrewN ?_ _) | (with_reducible refine Below.alloc ?_ ?_ _) | (with_reducible refine Below.setCell ?_ ?_ _) | (with_reducible refine belowStep (by assumption) ?_ ?_) | (with_reducible exact Below.size (by assumption)) | go_size))⟩
  | true =>
    have hp : xs.length ≤ 24 ∧ up 1 1 xs = true := by simpa using hu
    have He := Lib.hid (expB_eq hp.1 hp.2)
    have Hin := Lib.hid (up_idx (by omega) hp.2)
    have Hu := Lib.hid hu
    clear hu hp
    go_enter Tryz.func30, Tryz.ntmps30
    go_wp2_with fail
    refine (isRising_any _ 1 1 _ _ _ (Hxs.out.below (by (repeat' (first | (with_reducible exact Below.refl _ _) | (with_reducible assumption) | (with_reducible refine Below.drew ?_) | (with_reducible refine belowDrewN ?_ _) | (with_reducible refine Below.alloc ?_ ?_ _) | (with_reducible refine Below.setCell ?_ ?_ _) | (with_reducible refine belowStep (by assumption) ?_ ?_) | (with_reducible exact Below.size (by assumption)) | go_size)))) lxs Hr64.out (by omega) (by omega) (by omega) (by omega)).mono ?_; rintro e w1 ⟨rfl, k1, rfl⟩
    rw [Hu.out]
    go_wp2_with (go_at_call 53; refine (addUnits_any _ _ _ _ (Hxs.out.below (by (repeat' (first | (with_reducible exact Below.refl _ _) | (with_reducible assumption) | (with_reducible refine Below.drew ?_) | (with_reducible refine belowDrewN ?_ _) | (with_reducible refine Below.alloc ?_ ?_ _) | (with_reducible refine Below.setCell ?_ ?_ _) | (with_reducible refine belowStep (by assumption) ?_ ?_) | (with_reducible exact Below.size (by assumption)) | go_size)))) lxs Hin.out).mono ?_; rintro e w2 ⟨rfl, hb2⟩; obtain ⟨hc2, hf2⟩ := bcellB hb2; have hz2 := hb2.size; (try simp only [World.size_alloc, World.heap_drewN] at hc2 hf2 hz2); (try have hy2_r_0 : wr.heap.size < w2.heap.size := by omega); (try have hn2_r_0 : wr.heap.size ≠ w2.heap.size := by omega); (try have hm2_r_0 : w2.heap.size ≠ wr.heap.size := by omega); (try have hy2_r_1 : wr.heap.size + 1 < w2.heap.size := by omega); (try have hn2_r_1 : wr.heap.size + 1 ≠ w2.heap.size := by omega); (try have hm2_r_1 : w2.heap.size ≠ wr.heap.size + 1 := by omega); (try have hy2_r_2 : wr.heap.size + 1 + 1 < w2.heap.size := by omega); (try have hp2_r_1 : wr.heap.size < w2.heap.size + 1 := by omega); (try have hp2_r_2 : wr.heap.size < w2.heap.size + 1 + 1 := by omega); (try have hy2_0_0 : w.heap.size < w2.heap.size := by omega); (try have hn2_0_0 : w.heap.size ≠ w2.heap.size := by omega); (try have hm2_0_0 : w2.heap.size ≠ w.heap.size := by omega); (try have hy2_0_1 : w.heap.size + 1 < w2.heap.size := by omega); (try have hn2_0_1 : w.heap.size + 1 ≠ w2.heap.size := by omega); (try have hm2_0_1 : w2.heap.size ≠ w.heap.size + 1 := by omega); (try have hy2_0_2 : w.heap.size + 1 + 1 < w2.heap.size := by omega); (try have hp2_0_1 : w.heap.size < w2.heap.size + 1 := by omega); (try have hp2_0_2 : w.heap.size < w2.heap.size + 1 + 1 := by omega); (try have hy2_1_0 : w1.heap.size < w2.heap.size := by omega); (try have hn2_1_0 : w1.heap.size ≠ w2.heap.size := by omega); (try have hm2_1_0 : w2.heap.size ≠ w1.heap.size := by omega); (try have hy2_1_1 : w1.heap.size + 1 < w2.heap.size := by omega); (try have hn2_1_1 : w1.heap.size + 1 ≠ w2.heap.size := by omega); (try have hm2_1_1 : w2.heap.size ≠ w1.heap.size + 1 := by omega); (try have hy2_1_2 : w1.heap.size + 1 + 1 < w2.heap.size := by omega); (try have hp2_1_1 : w1.heap.size < w2.heap.size + 1 := by omega); (try have hp2_1_2 : w1.heap.size < w2.heap.size + 1 + 1 := by omega); (try have hg2_g1 : g1 < w2.heap.size := by omega); (try have hi2_g1 : g1 ≠ w2.heap.size := by omega); (try have hj2_g1 : w2.heap.size ≠ g1 := by omega); (try have hk2_g1 : g1 < w2.heap.size + 1 := by omega); (try have hg2_g2 : g2 < w2.heap.size := by omega); (try have hi2_g2 : g2 ≠ w2.heap.size := by omega); (try have hj2_g2 : w2.heap.size ≠ g2 := by omega); (try have hk2_g2 : g2 < w2.heap.size + 1 := by omega))
    refine bodyPost_ret (by simp [results, Tryz.results30, go_sem, *]; try rfl) rfl ?_
    refine ⟨ret_fr ?_ ?_ He.out.symm, by (repeat' (first | (with_reducible exact Below.refl _ _) | (with_reducible assumption) | (with_reducible refine Below.drew ?_) | (with_reducible refine belowDrewN ?_ _) | (with_reducible refine Below.alloc ?_ ?_ _) | (with_reducible refine Below.setCell ?_ ?_ _) | (with_reducible refine belowStep (by assumption) ?_ ?_) | (with_reducible exact Below.size (by assumption)) | go_size))⟩
    · rw [eN, He.out]
      cases h : (sumL 0 1 xs).isSome with
      | true => rfl
      | false => rw [(sum_none h).1]; rfl
    · rw [eD, He.out]
      cases h : (sumL 0 1 xs).isSome with
      | true => rfl
      | false => rw [(sum_none h).2]; rfl
theorem isExpansion_any (w : World) (Axs : Option Addr) (cxs : Nat) (xs : List Int) (hxs : Reads w Axs xs) (lxs : xs.length ≤ 1048576) (r64 : ∀ (i : Nat) (x : Int), xs[i]? = some x → -9223372036854775808 ≤ x ∧ x ≤ 9223372036854775807) :
    Calls Tryz.prog 71 #[.slice Axs xs.length cxs] w (Ret (.bool (expB xs)) w) := by
  have Hr64 := Lib.hid r64
  have Hxs := Lib.hid hxs
  clear hxs r64
  go_enter Tryz.func71, Tryz.ntmps71
  go_wp2_with (go_at_call 30; refine (sumOf_any _ _ _ _ Hxs.out lxs Hr64.out).mono ?_; rintro e w1 ⟨rfl, hb1⟩; obtain ⟨hc1, hf1⟩ := bcellB hb1; have hz1 := hb1.size; (try simp only [World.size_alloc, World.size_setCell, World.size_drew, World.heap_drewN] at hc1 hf1 hz1); (try have hy1_r_0 : wr.heap.size < w1.heap.size := by omega); (try have hn1_r_0 : wr.heap.size ≠ w1.heap.size := by omega); (try have hm1_r_0 : w1.heap.size ≠ wr.heap.size := by omega); (try have hy1_r_1 : wr.heap.size + 1 < w1.heap.size := by omega); (try have hn1_r_1 : wr.heap.size + 1 ≠ w1.heap.size := by omega); (try have hm1_r_1 : w1.heap.size ≠ wr.heap.size + 1 := by omega); (try have hy1_r_2 : wr.heap.size + 1 + 1 < w1.heap.size := by omega); (try have hp1_r_1 : wr.heap.size < w1.heap.size + 1 := by omega); (try have hp1_r_2 : wr.heap.size < w1.heap.size + 1 + 1 := by omega); (try have hy1_0_0 : w.heap.size < w1.heap.size := by omega); (try have hn1_0_0 : w.heap.size ≠ w1.heap.size := by omega); (try have hm1_0_0 : w1.heap.size ≠ w.heap.size := by omega); (try have hy1_0_1 : w.heap.size + 1 < w1.heap.size := by omega); (try have hn1_0_1 : w.heap.size + 1 ≠ w1.heap.size := by omega); (try have hm1_0_1 : w1.heap.size ≠ w.heap.size + 1 := by omega); (try have hy1_0_2 : w.heap.size + 1 + 1 < w1.heap.size := by omega); (try have hp1_0_1 : w.heap.size < w1.heap.size + 1 := by omega); (try have hp1_0_2 : w.heap.size < w1.heap.size + 1 + 1 := by omega); (try have hg1_g1 : g1 < w1.heap.size := by omega); (try have hi1_g1 : g1 ≠ w1.heap.size := by omega); (try have hj1_g1 : w1.heap.size ≠ g1 := by omega); (try have hk1_g1 : g1 < w1.heap.size + 1 := by omega); (try have hg1_g2 : g2 < w1.heap.size := by omega); (try have hi1_g2 : g2 ≠ w1.heap.size := by omega); (try have hj1_g2 : w1.heap.size ≠ g2 := by omega); (try have hk1_g2 : g2 < w1.heap.size + 1 := by omega))
  go_ret
  exact ⟨rfl, by (repeat' (first | (with_reducible exact Below.refl _ _) | (with_reducible assumption) | (with_reducible refine Below.drew ?_) | (with_reducible refine belowDrewN ?_ _) | (with_reducible refine Below.alloc ?_ ?_ _) | (with_reducible refine Below.setCell ?_ ?_ _) | (with_reducible refine belowStep (by assumption) ?_ ?_) | (with_reducible exact Below.size (by assumption)) | go_size))⟩

end Go.Proofs.YtbjblkfibinenadGreatDoor


/-
  Contracts of the last step of functions that make an expansion: it is let pass only if it is one.
-/
namespace Go.Proofs.YtbjblkfibinenadGreatDoor
open Go.RowKit
def In64 (xs : List Int) : Prop := ∀ (i : Nat) (x : Int), xs[i]? = some x → -9223372036854775808 ≤ x ∧ x ≤ 9223372036854775807
theorem In64.of_mem {xs : List Int} (h : ∀ x ∈ xs, -9223372036854775808 ≤ x ∧ x ≤ 9223372036854775807) : In64 xs := fun _ x hx => h x (List.mem_of_getElem? hx)
theorem In64.mem {xs : List Int} (h : In64 xs) : ∀ x ∈ xs, -9223372036854775808 ≤ x ∧ x ≤ 9223372036854775807 := fun x hx => by
  obtain ⟨i, hi⟩ := List.getElem?_of_mem hx
  exact h i x hi
theorem expB_small {xs : List Int} (h : expB xs = true) : ∀ x ∈ xs, 1 ≤ x ∧ x ≤ 1000000000 := fun x hx => by
  obtain ⟨i, hi⟩ := List.getElem?_of_mem hx
  exact rise_in (expB_parts h).2.1 i x hi
theorem expB_len {xs : List Int} (h : expB xs = true) : xs.length ≤ 24 := (expB_parts h).1
theorem ifExp_yes (w : World) (Axs : Option Addr) (cxs : Nat) (xs : List Int) (hxs : Reads w Axs xs) (lxs : xs.length ≤ 1048576) (r64 : In64 xs) (h : expB xs = true) : Calls Tryz.prog 43 #[.slice Axs xs.length cxs] w (Ret (.tuple #[.slice Axs xs.length cxs, .bool true]) w) := by
  have Hr64 := Lib.hid r64
  have Hxs := Lib.hid hxs
  clear r64 hxs
  go_enter Tryz.func43, Tryz.ntmps43
  go_wp2_with fail
  refine (isExpansion_any _ _ _ _ Hxs.out lxs Hr64.out).mono ?_; rintro e w1 ⟨rfl, hb1⟩
  go_wp2
  go_ret2
  exact ⟨rfl, by (repeat' (first | (with_reducible exact Below.refl _ _) | (with_reducible assumption) | (with_reducible refine Below.drew ?_) | (with_reducible refine belowDrewN ?_ _) | (with_reducible refine Below.alloc ?_ ?_ _) | (with_reducible refine Below.setCell ?_ ?_ _) | (with_reducible refine belowStep (by assumption) ?_ ?_) | (with_reducible exact Below.size (by assumption)) | go_size))⟩
theorem ifExp_no (w : World) (Axs : Option Addr) (cxs : Nat) (xs : List Int) (hxs : Reads w Axs xs) (lxs : xs.length ≤ 1048576) (r64 : In64 xs) (h : expB xs = false) : Calls Tryz.prog 43 #[.slice Axs xs.length cxs] w (Ret (.tuple #[.slice none 0 0, .bool false]) w) := by
  have Hr64 := Lib.hid r64
  have Hxs := Lib.hid hxs
  clear r64 hxs
  go_enter Tryz.func43, Tryz.ntmps43
  go_wp2_with fail
  refine (isExpansion_any _ _ _ _ Hxs.out lxs Hr64.out).mono ?_; rintro e w1 ⟨rfl, hb1⟩
  go_wp2
  go_ret2
  exact ⟨rfl, by (repeat' (first | (with_reducible exact Below.refl _ _) | (with_reducible assumption) | (with_reducible refine Below.drew ?_) | (with_reducible refine belowDrewN ?_ _) | (with_reducible refine Below.alloc ?_ ?_ _) | (with_reducible refine Below.setCell ?_ ?_ _) | (with_reducible refine belowStep (by assumption) ?_ ?_) | (with_reducible exact Below.size (by assumption)) | go_size))⟩
theorem unList_yes (w : World) (Axs : Option Addr) (cxs : Nat) (xs : List Int) (hxs : Reads w Axs xs) (lxs : xs.length ≤ 1048576) (h : expB xs = true) : Calls Tryz.prog 61 #[.slice Axs xs.length cxs] w (Ret (.tuple #[.slice Axs xs.length cxs, .bool true]) w) := by
  have Hxs := Lib.hid hxs
  clear hxs
  go_enter Tryz.func61, Tryz.ntmps61
  go_wp2_with fail
  refine (unExpansion_any _ _ _ _ Hxs.out lxs).mono ?_; rintro e w1 ⟨rfl, hb1⟩
  go_wp2
  go_ret2
  exact ⟨rfl, by (repeat' (first | (with_reducible exact Below.refl _ _) | (with_reducible assumption) | (with_reducible refine Below.drew ?_) | (with_reducible refine belowDrewN ?_ _) | (with_reducible refine Below.alloc ?_ ?_ _) | (with_reducible refine Below.setCell ?_ ?_ _) | (with_reducible refine belowStep (by assumption) ?_ ?_) | (with_reducible exact Below.size (by assumption)) | go_size))⟩
theorem unList_no (w : World) (Axs : Option Addr) (cxs : Nat) (xs : List Int) (hxs : Reads w Axs xs) (lxs : xs.length ≤ 1048576) (h : expB xs = false) : Calls Tryz.prog 61 #[.slice Axs xs.length cxs] w (Ret (.tuple #[.slice none 0 0, .bool false]) w) := by
  have Hxs := Lib.hid hxs
  clear hxs
  go_enter Tryz.func61, Tryz.ntmps61
  go_wp2_with fail
  refine (unExpansion_any _ _ _ _ Hxs.out lxs).mono ?_; rintro e w1 ⟨rfl, hb1⟩
  go_wp2
  go_ret2
  exact ⟨rfl, by (repeat' (first | (with_reducible exact Below.refl _ _) | (with_reducible assumption) | (with_reducible refine Below.drew ?_) | (with_reducible refine belowDrewN ?_ _) | (with_reducible refine Below.alloc ?_ ?_ _) | (with_reducible refine Below.setCell ?_ ?_ _) | (with_reducible refine belowStep (by assumption) ?_ ?_) | (with_reducible exact Below.size (by assumption)) | go_size))⟩
end Go.Proofs.YtbjblkfibinenadGreatDoor
