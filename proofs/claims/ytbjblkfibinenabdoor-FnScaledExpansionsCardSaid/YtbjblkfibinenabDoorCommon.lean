
/-
  Contracts of the least common multiple of an expansion.
-/
import Derived.Test.YtbjblkfibinenabDoorSum2
namespace Go.Proofs.YtbjblkfibinenabDoor
open Go.RowKit
def lcmL : Int → List Int → Option Int
  | m, [] => some m
  | m, t :: ts => if m * (t / gcdI m t) ≤ 1000000000 then lcmL (m * (t / gcdI m t)) ts else none
theorem lcmL_yes {m t : Int} {ts : List Int} (h : m * (t / gcdI m t) ≤ 1000000000) : lcmL m (t :: ts) = lcmL (m * (t / gcdI m t)) ts := by
  show (if _ then _ else _) = _
  rw [if_pos h]
theorem lcmL_no {m t : Int} {ts : List Int} (h : ¬ m * (t / gcdI m t) ≤ 1000000000) : lcmL m (t :: ts) = none := by
  show (if _ then _ else _) = _
  rw [if_neg h]
theorem lcm_swap {m t : Int} (h : 1 ≤ t) : m / gcdI m t * t = m * (t / gcdI m t) := by
  have hg := gcdI_pos m t (by omega)
  obtain ⟨a, ha⟩ := gcdI_dvdL m t
  obtain ⟨b, hb⟩ := gcdI_dvdR m t
  generalize gcdI m t = g at *
  subst ha
  subst hb
  rw [Int.mul_ediv_cancel_left _ (by omega), Int.mul_ediv_cancel_left _ (by omega), Int.mul_left_comm, ← Int.mul_assoc]
def cM (xs : List Int) : Int := if expB xs = true then (lcmL 1 xs).getD 0 else 0
def cB (xs : List Int) : Bool := expB xs && (lcmL 1 xs).isSome
theorem c_no {xs : List Int} (h : expB xs = false) : cM xs = 0 ∧ cB xs = false := by simp [cM, cB, h]
theorem c_none {xs : List Int} (h : lcmL 1 xs = none) : cM xs = 0 ∧ cB xs = false := by simp [cM, cB, h]
theorem c_some {xs : List Int} {m : Int} (h1 : expB xs = true) (h : lcmL 1 xs = some m) : cM xs = m ∧ cB xs = true := by simp [cM, cB, h, h1]

set_option maxHeartbeats 2000000 in
theorem common_any (w : World) (Axs : Option Addr) (cxs : Nat) (xs : List Int) (hxs : Reads w Axs xs) (lxs : xs.length ≤ 1048576) (r64 : ∀ (i : Nat) (x : Int), xs[i]? = some x → -9223372036854775808 ≤ x ∧ x ≤ 9223372036854775807) :
    Calls Tryd.prog 31 #[.slice Axs xs.length cxs] w (Ret (.tuple #[.int .i64 (cM xs), .bool (cB xs)]) w) := by
  have Hr64 := Lib.hid r64
  have Hxs := Lib.hid hxs
  clear hxs r64
  cases he : expB xs with
  | false =>
    have Hc := Lib.hid (c_no he)
    go_enter Tryd.func31, Tryd.ntmps31
    go_wp2_with (go_at_call 43; refine (isExpansion_any _ _ _ _ Hxs.out lxs Hr64.out).mono ?_; rintro e w1 ⟨rfl, hb1⟩; obtain ⟨hc1, hf1⟩ := bcellB hb1; have hz1 := hb1.size; (try simp only [World.size_alloc, World.size_setCell, World.size_drew, World.heap_drewN] at hc1 hf1 hz1); (try have hy1_r_0 : wr.heap.size < w1.heap.size := by omega); (try have hn1_r_0 : wr.heap.size ≠ w1.heap.size := by omega); (try have hm1_r_0 : w1.heap.size ≠ wr.heap.size := by omega); (try have hy1_r_1 : wr.heap.size + 1 < w1.heap.size := by omega); (try have hn1_r_1 : wr.heap.size + 1 ≠ w1.heap.size := by omega); (try have hm1_r_1 : w1.heap.size ≠ wr.heap.size + 1 := by omega); (try have hy1_r_2 : wr.heap.size + 1 + 1 < w1.heap.size := by omega); (try have hp1_r_1 : wr.heap.size < w1.heap.size + 1 := by omega); (try have hp1_r_2 : wr.heap.size < w1.heap.size + 1 + 1 := by omega); (try have hy1_0_0 : w.heap.size < w1.heap.size := by omega); (try have hn1_0_0 : w.heap.size ≠ w1.heap.size := by omega); (try have hm1_0_0 : w1.heap.size ≠ w.heap.size := by omega); (try have hy1_0_1 : w.heap.size + 1 < w1.heap.size := by omega); (try have hn1_0_1 : w.heap.size + 1 ≠ w1.heap.size := by omega); (try have hm1_0_1 : w1.heap.size ≠ w.heap.size + 1 := by omega); (try have hy1_0_2 : w.heap.size + 1 + 1 < w1.heap.size := by omega); (try have hp1_0_1 : w.heap.size < w1.heap.size + 1 := by omega); (try have hp1_0_2 : w.heap.size < w1.heap.size + 1 + 1 := by omega); (try have hg1_g1 : g1 < w1.heap.size := by omega); (try have hi1_g1 : g1 ≠ w1.heap.size := by omega); (try have hj1_g1 : w1.heap.size ≠ g1 := by omega); (try have hk1_g1 : g1 < w1.heap.size + 1 := by omega); (try have hg1_g2 : g2 < w1.heap.size := by omega); (try have hi1_g2 : g2 ≠ w1.heap.size := by omega); (try have hj1_g2 : w1.heap.size ≠ g2 := by omega); (try have hk1_g2 : g2 < w1.heap.size + 1 := by omega))
    go_ret2
    exact ⟨ret_ib Hc.out.1.symm Hc.out.2.symm, by (repeat' (first | (with_reducible exact Below.refl _ _) | (with_reducible assumption) | (with_reducible refine Below.drew ?_) | (with_reducible refine belowDrewN ?_ _) | (with_reducible refine Below.alloc ?_ ?_ _) | (with_reducible refine Below.setCell ?_ ?_ _) | (with_reducible refine belowStep (by assumption) ?_ ?_) | (with_reducible exact Below.size (by assumption)) | go_size))⟩
  | true =>
    have He := Lib.hid he
    have Hin := Lib.hid (rise_in (expB_parts he).2.1)
    go_enter Tryd.func31, Tryd.ntmps31
    go_wp2_with (go_at_call 43; refine (isExpansion_any _ _ _ _ Hxs.out lxs Hr64.out).mono ?_; rintro e w1 ⟨rfl, hb1⟩; obtain ⟨hc1, hf1⟩ := bcellB hb1; have hz1 := hb1.size; (try simp only [World.size_alloc, World.size_setCell, World.size_drew, World.heap_drewN] at hc1 hf1 hz1); (try have hy1_r_0 : wr.heap.size < w1.heap.size := by omega); (try have hn1_r_0 : wr.heap.size ≠ w1.heap.size := by omega); (try have hm1_r_0 : w1.heap.size ≠ wr.heap.size := by omega); (try have hy1_r_1 : wr.heap.size + 1 < w1.heap.size := by omega); (try have hn1_r_1 : wr.heap.size + 1 ≠ w1.heap.size := by omega); (try have hm1_r_1 : w1.heap.size ≠ wr.heap.size + 1 := by omega); (try have hy1_r_2 : wr.heap.size + 1 + 1 < w1.heap.size := by omega); (try have hp1_r_1 : wr.heap.size < w1.heap.size + 1 := by omega); (try have hp1_r_2 : wr.heap.size < w1.heap.size + 1 + 1 := by omega); (try have hy1_0_0 : w.heap.size < w1.heap.size := by omega); (try have hn1_0_0 : w.heap.size ≠ w1.heap.size := by omega); (try have hm1_0_0 : w1.heap.size ≠ w.heap.size := by omega); (try have hy1_0_1 : w.heap.size + 1 < w1.heap.size := by omega); (try have hn1_0_1 : w.heap.size + 1 ≠ w1.heap.size := by omega); (try have hm1_0_1 : w1.heap.size ≠ w.heap.size + 1 := by omega); (try have hy1_0_2 : w.heap.size + 1 + 1 < w1.heap.size := by omega); (try have hp1_0_1 : w.heap.size < w1.heap.size + 1 := by omega); (try have hp1_0_2 : w.heap.size < w1.heap.size + 1 + 1 := by omega); (try have hg1_g1 : g1 < w1.heap.size := by omega); (try have hi1_g1 : g1 ≠ w1.heap.size := by omega); (try have hj1_g1 : w1.heap.size ≠ g1 := by omega); (try have hk1_g1 : g1 < w1.heap.size + 1 := by omega); (try have hg1_g2 : g2 < w1.heap.size := by omega); (try have hi1_g2 : g2 ≠ w1.heap.size := by omega); (try have hj1_g2 : w1.heap.size ≠ g2 := by omega); (try have hk1_g2 : g2 < w1.heap.size + 1 := by omega))
    go_loopw [4, 12] (fun v4 v12 wr => ∃ (k : Nat) (m : Int), k ≤ xs.length ∧ v4 = .int .i64 m ∧ v12 = .int .i64 k ∧ 1 ≤ m ∧ m ≤ 1000000000 ∧ lcmL 1 xs = lcmL m (xs.drop k) ∧ Below w.heap.size w wr) (fun _ v12 _ => xs.length - (intOf v12).toNat)
    case atStart => exact ⟨0, 1, Nat.zero_le _, rfl, rfl, by omega, by omega, rfl, by (repeat' (first | (with_reducible exact Below.refl _ _) | (with_reducible assumption) | (with_reducible refine Below.drew ?_) | (with_reducible refine belowDrewN ?_ _) | (with_reducible refine Below.alloc ?_ ?_ _) | (with_reducible refine Below.setCell ?_ ?_ _) | (with_reducible refine belowStep (by assumption) ?_ ?_) | (with_reducible exact Below.size (by assumption)) | go_size))⟩
    case round =>
      obtain ⟨k, m, hk, rfl, rfl, m1, m2, hm, hbr⟩ := hrel
      have Hm := Lib.hid hm
      clear hm
      by_cases hlt : k < xs.length
      · obtain ⟨b, o, x, rfl, hb, hx, hcell⟩ := (Hxs.out.below hbr).at_ hlt
        obtain ⟨x1, x2⟩ := Hin.out k x hx
        have Hx := Lib.hid hx
        clear hx
        have g1 := gcdI_pos m x (by omega)
        have g2 := gcdI_leR m x (by omega)
        have q1 : 1 ≤ x / gcdI m x := div_pos1 x1 (by omega) (gcdI_dvdR m x)
        have q2 : x / gcdI m x ≤ 1000000000 := by have := Int.ediv_le_self (gcdI m x) (by omega : 0 ≤ x); omega
        have p1 := mul_bounds (by omega : 0 ≤ m) m2 (by omega : 0 ≤ x / gcdI m x) q2
        have p2 := mul_pos1 m1 q1
        by_cases hle : m * (x / gcdI m x) ≤ 1000000000
        · go_wp2_with (go_at_call 64; refine (commonDivisor_any _ _ _ (by omega) (by omega) (by omega) (by omega)).mono ?_; rintro e w1 ⟨rfl, k1, rfl⟩)
          go_roundw
          case rel => exact ⟨k + 1, m * (x / gcdI m x), by omega, rfl, by go_num, p2, hle, by rw [Hm.out, drop_at Hx.out, lcmL_yes hle], by (repeat' (first | (with_reducible exact Below.refl _ _) | (with_reducible assumption) | (with_reducible refine Below.drew ?_) | (with_reducible refine belowDrewN ?_ _) | (with_reducible refine Below.alloc ?_ ?_ _) | (with_reducible refine Below.setCell ?_ ?_ _) | (with_reducible refine belowStep (by assumption) ?_ ?_) | (with_reducible exact Below.size (by assumption)) | go_size))⟩
          case measure => simp [intOf]; omega
        · have Hn : Hid (lcmL 1 xs = none) := by
            have := Hm.out
            rw [drop_at Hx.out, lcmL_no hle] at this
            exact this
          go_wp2_with (go_at_call 64; refine (commonDivisor_any _ _ _ (by omega) (by omega) (by omega) (by omega)).mono ?_; rintro e w1 ⟨rfl, k1, rfl⟩)
          go_ret2
          exact ⟨ret_ib (c_none Hn.out).1.symm (c_none Hn.out).2.symm, by (repeat' (first | (with_reducible exact Below.refl _ _) | (with_reducible assumption) | (with_reducible refine Below.drew ?_) | (with_reducible refine belowDrewN ?_ _) | (with_reducible refine Below.alloc ?_ ?_ _) | (with_reducible refine Below.setCell ?_ ?_ _) | (with_reducible refine belowStep (by assumption) ?_ ?_) | (with_reducible exact Below.size (by assumption)) | go_size))⟩
      · obtain rfl : k = xs.length := by omega
        rw [drop_all] at Hm
        have Hc := Lib.hid (c_some He.out Hm.out)
        go_wp2
        go_ret2
        exact ⟨ret_ib Hc.out.1.symm Hc.out.2.symm, by (repeat' (first | (with_reducible exact Below.refl _ _) | (with_reducible assumption) | (with_reducible refine Below.drew ?_) | (with_reducible refine belowDrewN ?_ _) | (with_reducible refine Below.alloc ?_ ?_ _) | (with_reducible refine Below.setCell ?_ ?_ _) | (with_reducible refine belowStep (by assumption) ?_ ?_) | (with_reducible exact Below.size (by assumption)) | go_size))⟩

set_option maxHeartbeats 2000000 in
theorem spec_common_any (w : World) (Axs : Option Addr) (cxs : Nat) (xs : List Int) (hxs : Reads w Axs xs) (lxs : xs.length ≤ 1048576) :
    Calls Tryd.prog 32 #[.slice Axs xs.length cxs] w (Ret (.tuple #[.int .i64 (cM xs), .bool (cB xs)]) w) := by
  have Hxs := Lib.hid hxs
  clear hxs
  cases he : expB xs with
  | false =>
    have Hc := Lib.hid (c_no he)
    go_enter Tryd.func32, Tryd.ntmps32
    go_wp2_with (go_at_call 41; refine (unExpansion_any _ _ _ _ Hxs.out lxs).mono ?_; rintro e w1 ⟨rfl, hb1⟩; obtain ⟨hc1, hf1⟩ := bcellB hb1; have hz1 := hb1.size; (try simp only [World.size_alloc, World.size_setCell, World.size_drew, World.heap_drewN] at hc1 hf1 hz1); (try have hy1_r_0 : wr.heap.size < w1.heap.size := by omega); (try have hn1_r_0 : wr.heap.size ≠ w1.heap.size := by omega); (try have hm1_r_0 : w1.heap.size ≠ wr.heap.size := by omega); (try have hy1_r_1 : wr.heap.size + 1 < w1.heap.size := by omega); (try have hn1_r_1 : wr.heap.size + 1 ≠ w1.heap.size := by omega); (try have hm1_r_1 : w1.heap.size ≠ wr.heap.size + 1 := by omega); (try have hy1_r_2 : wr.heap.size + 1 + 1 < w1.heap.size := by omega); (try have hp1_r_1 : wr.heap.size < w1.heap.size + 1 := by omega); (try have hp1_r_2 : wr.heap.size < w1.heap.size + 1 + 1 := by omega); (try have hy1_0_0 : w.heap.size < w1.heap.size := by omega); (try have hn1_0_0 : w.heap.size ≠ w1.heap.size := by omega); (try have hm1_0_0 : w1.heap.size ≠ w.heap.size := by omega); (try have hy1_0_1 : w.heap.size + 1 < w1.heap.size := by omega); (try have hn1_0_1 : w.heap.size + 1 ≠ w1.heap.size := by omega); (try have hm1_0_1 : w1.heap.size ≠ w.heap.size + 1 := by omega); (try have hy1_0_2 : w.heap.size + 1 + 1 < w1.heap.size := by omega); (try have hp1_0_1 : w.heap.size < w1.heap.size + 1 := by omega); (try have hp1_0_2 : w.heap.size < w1.heap.size + 1 + 1 := by omega); (try have hg1_g1 : g1 < w1.heap.size := by omega); (try have hi1_g1 : g1 ≠ w1.heap.size := by omega); (try have hj1_g1 : w1.heap.size ≠ g1 := by omega); (try have hk1_g1 : g1 < w1.heap.size + 1 := by omega); (try have hg1_g2 : g2 < w1.heap.size := by omega); (try have hi1_g2 : g2 ≠ w1.heap.size := by omega); (try have hj1_g2 : w1.heap.size ≠ g2 := by omega); (try have hk1_g2 : g2 < w1.heap.size + 1 := by omega))
    go_ret2
    exact ⟨ret_ib Hc.out.1.symm Hc.out.2.symm, by (repeat' (first | (with_reducible exact Below.refl _ _) | (with_reducible assumption) | (with_reducible refine Below.drew ?_) | (with_reducible refine belowDrewN ?_ _) | (with_reducible refine Below.alloc ?_ ?_ _) | (with_reducible refine Below.setCell ?_ ?_ _) | (with_reducible refine belowStep (by assumption) ?_ ?_) | (with_reducible exact Below.size (by assumption)) | go_size))⟩
  | true =>
    have He := Lib.hid he
    have Hin := Lib.hid (rise_in (expB_parts he).2.1)
    go_enter Tryd.func32, Tryd.ntmps32
    go_wp2_with (go_at_call 41; refine (unExpansion_any _ _ _ _ Hxs.out lxs).mono ?_; rintro e w1 ⟨rfl, hb1⟩; obtain ⟨hc1, hf1⟩ := bcellB hb1; have hz1 := hb1.size; (try simp only [World.size_alloc, World.size_setCell, World.size_drew, World.heap_drewN] at hc1 hf1 hz1); (try have hy1_r_0 : wr.heap.size < w1.heap.size := by omega); (try have hn1_r_0 : wr.heap.size ≠ w1.heap.size := by omega); (try have hm1_r_0 : w1.heap.size ≠ wr.heap.size := by omega); (try have hy1_r_1 : wr.heap.size + 1 < w1.heap.size := by omega); (try have hn1_r_1 : wr.heap.size + 1 ≠ w1.heap.size := by omega); (try have hm1_r_1 : w1.heap.size ≠ wr.heap.size + 1 := by omega); (try have hy1_r_2 : wr.heap.size + 1 + 1 < w1.heap.size := by omega); (try have hp1_r_1 : wr.heap.size < w1.heap.size + 1 := by omega); (try have hp1_r_2 : wr.heap.size < w1.heap.size + 1 + 1 := by omega); (try have hy1_0_0 : w.heap.size < w1.heap.size := by omega); (try have hn1_0_0 : w.heap.size ≠ w1.heap.size := by omega); (try have hm1_0_0 : w1.heap.size ≠ w.heap.size := by omega); (try have hy1_0_1 : w.heap.size + 1 < w1.heap.size := by omega); (try have hn1_0_1 : w.heap.size + 1 ≠ w1.heap.size := by omega); (try have hm1_0_1 : w1.heap.size ≠ w.heap.size + 1 := by omega); (try have hy1_0_2 : w.heap.size + 1 + 1 < w1.heap.size := by omega); (try have hp1_0_1 : w.heap.size < w1.heap.size + 1 := by omega); (try have hp1_0_2 : w.heap.size < w1.heap.size + 1 + 1 := by omega); (try have hg1_g1 : g1 < w1.heap.size := by omega); (try have hi1_g1 : g1 ≠ w1.heap.size := by omega); (try have hj1_g1 : w1.heap.size ≠ g1 := by omega); (try have hk1_g1 : g1 < w1.heap.size + 1 := by omega); (try have hg1_g2 : g2 < w1.heap.size := by omega); (try have hi1_g2 : g2 ≠ w1.heap.size := by omega); (try have hj1_g2 : w1.heap.size ≠ g2 := by omega); (try have hk1_g2 : g2 < w1.heap.size + 1 := by omega))
    go_loopw [4, 12] (fun v4 v12 wr => ∃ (k : Nat) (m : Int), k ≤ xs.length ∧ v4 = .int .i64 m ∧ v12 = .int .i64 k ∧ 1 ≤ m ∧ m ≤ 1000000000 ∧ lcmL 1 xs = lcmL m (xs.drop k) ∧ Below w.heap.size w wr) (fun _ v12 _ => xs.length - (intOf v12).toNat)
    case atStart => exact ⟨0, 1, Nat.zero_le _, rfl, rfl, by omega, by omega, rfl, by (repeat' (first | (with_reducible exact Below.refl _ _) | (with_reducible assumption) | (with_reducible refine Below.drew ?_) | (with_reducible refine belowDrewN ?_ _) | (with_reducible refine Below.alloc ?_ ?_ _) | (with_reducible refine Below.setCell ?_ ?_ _) | (with_reducible refine belowStep (by assumption) ?_ ?_) | (with_reducible exact Below.size (by assumption)) | go_size))⟩
    case round =>
      obtain ⟨k, m, hk, rfl, rfl, m1, m2, hm, hbr⟩ := hrel
      have Hm := Lib.hid hm
      clear hm
      by_cases hlt : k < xs.length
      · obtain ⟨b, o, x, rfl, hb, hx, hcell⟩ := (Hxs.out.below hbr).at_ hlt
        obtain ⟨x1, x2⟩ := Hin.out k x hx
        have Hx := Lib.hid hx
        clear hx
        have g1 := gcdI_pos m x (by omega)
        have g2 := gcdI_leR m x (by omega)
        have q1 : 1 ≤ x / gcdI m x := div_pos1 x1 (by omega) (gcdI_dvdR m x)
        have q2 : x / gcdI m x ≤ 1000000000 := by have := Int.ediv_le_self (gcdI m x) (by omega : 0 ≤ x); omega
        have q3 : 1 ≤ m / gcdI m x := div_pos1 m1 (by omega) (gcdI_dvdL m x)
        have q4 : m / gcdI m x ≤ 1000000000 := by have := Int.ediv_le_self (gcdI m x) (by omega : 0 ≤ m); omega
        have p1 := mul_bounds (by omega : 0 ≤ m / gcdI m x) q4 (by omega : 0 ≤ x) x2
        have p2 := mul_pos1 m1 q1
        have Hsw := Lib.hid (lcm_swap (m := m) x1)
        by_cases hle : m * (x / gcdI m x) ≤ 1000000000
        · have hle2 : m / gcdI m x * x ≤ 1000000000 := by rw [Hsw.out]; exact hle
          go_wp2_with (go_at_call 65; refine (unGcd_any _ _ _ (by omega) (by omega) (by omega) (by omega)).mono ?_; rintro e w1 ⟨rfl, k1, rfl⟩)
          go_roundw
          case rel => exact ⟨k + 1, m * (x / gcdI m x), by omega, by rw [Hsw.out], by go_num, p2, hle, by rw [Hm.out, drop_at Hx.out, lcmL_yes hle], by (repeat' (first | (with_reducible exact Below.refl _ _) | (with_reducible assumption) | (with_reducible refine Below.drew ?_) | (with_reducible refine belowDrewN ?_ _) | (with_reducible refine Below.alloc ?_ ?_ _) | (with_reducible refine Below.setCell ?_ ?_ _) | (with_reducible refine belowStep (by assumption) ?_ ?_) | (with_reducible exact Below.size (by assumption)) | go_size))⟩
          case measure => simp [intOf]; omega
        · have hle2 : ¬ m / gcdI m x * x ≤ 1000000000 := by rw [Hsw.out]; exact hle
          have Hn : Hid (lcmL 1 xs = none) := by
            have := Hm.out
            rw [drop_at Hx.out, lcmL_no hle] at this
            exact this
          go_wp2_with (go_at_call 65; refine (unGcd_any _ _ _ (by omega) (by omega) (by omega) (by omega)).mono ?_; rintro e w1 ⟨rfl, k1, rfl⟩)
          go_ret2
          exact ⟨ret_ib (c_none Hn.out).1.symm (c_none Hn.out).2.symm, by (repeat' (first | (with_reducible exact Below.refl _ _) | (with_reducible assumption) | (with_reducible refine Below.drew ?_) | (with_reducible refine belowDrewN ?_ _) | (with_reducible refine Below.alloc ?_ ?_ _) | (with_reducible refine Below.setCell ?_ ?_ _) | (with_reducible refine belowStep (by assumption) ?_ ?_) | (with_reducible exact Below.size (by assumption)) | go_size))⟩
      · obtain rfl : k = xs.length := by omega
        rw [drop_all] at Hm
        have Hc := Lib.hid (c_some He.out Hm.out)
        go_wp2
        go_ret2
        exact ⟨ret_ib Hc.out.1.symm Hc.out.2.symm, by (repeat' (first | (with_reducible exact Below.refl _ _) | (with_reducible assumption) | (with_reducible refine Below.drew ?_) | (with_reducible refine belowDrewN ?_ _) | (with_reducible refine Below.alloc ?_ ?_ _) | (with_reducible refine Below.setCell ?_ ?_ _) | (with_reducible refine belowStep (by assumption) ?_ ?_) | (with_reducible exact Below.size (by assumption)) | go_size))⟩
end Go.Proofs.YtbjblkfibinenabDoor
