
/-
  Contracts of the model's functions on Pierce lists.
-/
import Derived.Test.YtpfpekfpaknlgabPierce
namespace Go.Proofs.Ytpfpekfpaknlgab
open Go.RowKit
set_option maxHeartbeats 4000000 in
theorem grPierce_any (w : World) (Axs : Option Addr) (cxs : Nat) (xs : List Int) (hxs : Reads w Axs xs) (lxs : xs.length ≤ 1048576) : Calls Try.prog 52 #[.slice Axs xs.length cxs] w (Ret (.bool (pieB xs)) w) := by
  have Hxs := Lib.hid hxs
  have HR := Lib.hid fun (w : World) (h : Reads w Axs xs) => l1Rising_any w 1 1000000000 _ cxs xs h lxs
  clear hxs
  go_enter Try.func52, Try.ntmps52
  go_upto_region 2 with fail
  go_cut [3, 32] (fun _ s32 wx => s32 = .bool (badB xs) ∧ ∃ m, wx = w.drewN m)
  case first =>
    by_cases h24 : 24 < xs.length
    · have E : Hid (badB xs = true) := Lib.hid (by
        have : decide (xs.length ≤ 24) = false := by simp; omega
        unfold badB; rw [this]; rfl)
      have h24i : (24 : Int) < (xs.length : Int) := by omega
      go_quiet (fail)
      go_wp2_with fail
      go_meet
      exact ⟨by rw [E.out], _, rfl⟩
    · have hd24 : decide ((24 : Int) < (xs.length : Int)) = false := by simp; omega
      have hl24 : decide (xs.length ≤ 24) = true := by simp; omega
      cases hup : rise 1 1000000000 none xs with
      | false =>
        rw [hup] at HR
        have E : Hid (badB xs = true) := Lib.hid (by unfold badB; rw [← rise_up0, hup, Bool.and_false]; rfl)
        clear hup hl24
        go_quiet (first | (go_at_call 74; exact Calls.quiet_of (HR.out _ (Hxs.out.below (by (repeat' (first | (with_reducible exact Below.refl _ _) | (with_reducible assumption) | (with_reducible refine Below.drew ?_) | (with_reducible refine belowDrewN ?_ _) | (with_reducible refine Below.alloc ?_ ?_ _) | (with_reducible refine Below.setCell ?_ ?_ _) | (with_reducible refine belowStep (by assumption) ?_ ?_) | (with_reducible exact Below.size (by assumption)) | go_size)))))))
        go_wp2_with fail
        go_meet
        exact ⟨by rw [E.out], _, rfl⟩
      | true =>
        rw [hup] at HR
        have hup2 : up 1 1 xs = true := by rw [← rise_up0, hup]
        have E : Hid (badB xs = nextB xs) := Lib.hid (by unfold badB; rw [hup2, hl24]; rfl)
        clear hup hl24
        by_cases hlen : 1 < xs.length
        · obtain ⟨k, x, y, hk, hx, hy, hn⟩ := pie_last hlen
          obtain ⟨b, o, y', x', rfl, hb, hy', hx', hcell, hcell2⟩ := Hxs.out.at2 (k := k + 1) (j := k) (by omega) (by omega)
          obtain rfl : y' = y := by rw [hy'] at hy; injection hy
          obtain rfl : x' = x := by rw [hx'] at hx; injection hx
          have hx1 := up_in (by omega) hup2 x' (List.mem_of_getElem? hx)
          have hy1 := up_in (by omega) hup2 y' (List.mem_of_getElem? hy)
          have hl1 : (1 : Int) < (xs.length : Int) := by omega
          have hp1 : ((k + 1 : Nat) : Int) < (xs.length : Int) := by omega
          have hp2 : ((k : Nat) : Int) < (xs.length : Int) := by omega
          have hw1 : IntKind.i64.wrap ((xs.length : Int) - 1) = ((k + 1 : Nat) : Int) := by rw [wrap64_of (by omega) (by omega)]; omega
          have hw3 : IntKind.i64.wrap ((xs.length : Int) - 2) = ((k : Nat) : Int) := by rw [wrap64_of (by omega) (by omega)]; omega
          have hw2 : IntKind.i64.wrap (x' + 1) = x' + 1 := wrap64_of (by omega) (by omega)
          have Hxn := Lib.hid hn
          clear hk hn hx hx' hy hy' hup2 hlen
          go_quiet (first | (go_at_call 74; exact Calls.quiet_of (HR.out _ (Hxs.out.below (by (repeat' (first | (with_reducible exact Below.refl _ _) | (with_reducible assumption) | (with_reducible refine Below.drew ?_) | (with_reducible refine belowDrewN ?_ _) | (with_reducible refine Below.alloc ?_ ?_ _) | (with_reducible refine Below.setCell ?_ ?_ _) | (with_reducible refine belowStep (by assumption) ?_ ?_) | (with_reducible exact Below.size (by assumption)) | go_size)))))))
          go_wp2_with fail
          go_meet
          exact ⟨by rw [E.out, Hxn.out]; rfl, _, rfl⟩
        · have E2 : Hid (badB xs = false) := Lib.hid (by rw [E.out, nextB_short (by omega)])
          have hd : decide ((1 : Int) < (xs.length : Int)) = false := by simp; omega
          clear hup2
          go_quiet (first | (go_at_call 74; exact Calls.quiet_of (HR.out _ (Hxs.out.below (by (repeat' (first | (with_reducible exact Below.refl _ _) | (with_reducible assumption) | (with_reducible refine Below.drew ?_) | (with_reducible refine belowDrewN ?_ _) | (with_reducible refine Below.alloc ?_ ?_ _) | (with_reducible refine Below.setCell ?_ ?_ _) | (with_reducible refine belowStep (by assumption) ?_ ?_) | (with_reducible exact Below.size (by assumption)) | go_size)))))))
          go_wp2_with fail
          go_meet
          exact ⟨by rw [E2.out], _, rfl⟩
  case rest =>
    obtain ⟨rfl, m, rfl⟩ := hcut
    cases hbad : badB xs with
    | true =>
      have E := Lib.hid (badB_yes hbad)
      go_wp2
      go_ret
      exact ⟨ret_bool E.out.symm, by (repeat' (first | (with_reducible exact Below.refl _ _) | (with_reducible assumption) | (with_reducible refine Below.drew ?_) | (with_reducible refine belowDrewN ?_ _) | (with_reducible refine Below.alloc ?_ ?_ _) | (with_reducible refine Below.setCell ?_ ?_ _) | (with_reducible refine belowStep (by assumption) ?_ ?_) | (with_reducible exact Below.size (by assumption)) | go_size))⟩
    | false =>
      obtain ⟨hl, hup, hnx⟩ := badB_no hbad
      have Hin := Lib.hid (up_in (by omega) hup)
      have E : Hid (pieB xs = (pieS xs).isSome) := Lib.hid (by simp [pieB, hl, hup, hnx])
      clear hup hnx
      go_wp2_with fail
      refine (grPierceSum_any _ _ _ _ (Hxs.out.below (by (repeat' (first | (with_reducible exact Below.refl _ _) | (with_reducible assumption) | (with_reducible refine Below.drew ?_) | (with_reducible refine belowDrewN ?_ _) | (with_reducible refine Below.alloc ?_ ?_ _) | (with_reducible refine Below.setCell ?_ ?_ _) | (with_reducible refine belowStep (by assumption) ?_ ?_) | (with_reducible exact Below.size (by assumption)) | go_size)))) lxs Hin.out).mono ?_; rintro e w1 ⟨rfl, hb1⟩; have hz1 := hb1.size; (try simp only [World.size_alloc, World.size_setCell, World.size_drew, World.heap_drewN] at hz1)
      obtain ⟨hc1, hf1⟩ := bcellB hb1; have hz1 := hb1.size; (try simp only [World.size_alloc, World.size_setCell, World.size_drew, World.heap_drewN] at hc1 hf1 hz1); (try have hy1_r_0 : wr.heap.size < w1.heap.size := by omega); (try have hn1_r_0 : wr.heap.size ≠ w1.heap.size := by omega); (try have hm1_r_0 : w1.heap.size ≠ wr.heap.size := by omega); (try have hy1_r_1 : wr.heap.size + 1 < w1.heap.size := by omega); (try have hn1_r_1 : wr.heap.size + 1 ≠ w1.heap.size := by omega); (try have hm1_r_1 : w1.heap.size ≠ wr.heap.size + 1 := by omega); (try have hy1_r_2 : wr.heap.size + 1 + 1 < w1.heap.size := by omega); (try have hp1_r_1 : wr.heap.size < w1.heap.size + 1 := by omega); (try have hp1_r_2 : wr.heap.size < w1.heap.size + 1 + 1 := by omega); (try have hy1_0_0 : w.heap.size < w1.heap.size := by omega); (try have hn1_0_0 : w.heap.size ≠ w1.heap.size := by omega); (try have hm1_0_0 : w1.heap.size ≠ w.heap.size := by omega); (try have hy1_0_1 : w.heap.size + 1 < w1.heap.size := by omega); (try have hn1_0_1 : w.heap.size + 1 ≠ w1.heap.size := by omega); (try have hm1_0_1 : w1.heap.size ≠ w.heap.size + 1 := by omega); (try have hy1_0_2 : w.heap.size + 1 + 1 < w1.heap.size := by omega); (try have hp1_0_1 : w.heap.size < w1.heap.size + 1 := by omega); (try have hp1_0_2 : w.heap.size < w1.heap.size + 1 + 1 := by omega); (try have hg1_g1 : g1 < w1.heap.size := by omega); (try have hi1_g1 : g1 ≠ w1.heap.size := by omega); (try have hj1_g1 : w1.heap.size ≠ g1 := by omega); (try have hk1_g1 : g1 < w1.heap.size + 1 := by omega); (try have hg1_g2 : g2 < w1.heap.size := by omega); (try have hi1_g2 : g2 ≠ w1.heap.size := by omega); (try have hj1_g2 : w1.heap.size ≠ g2 := by omega); (try have hk1_g2 : g2 < w1.heap.size + 1 := by omega)
      go_wp2
      go_ret
      exact ⟨ret_bool E.out.symm, by (repeat' (first | (with_reducible exact Below.refl _ _) | (with_reducible assumption) | (with_reducible refine Below.drew ?_) | (with_reducible refine belowDrewN ?_ _) | (with_reducible refine Below.alloc ?_ ?_ _) | (with_reducible refine Below.setCell ?_ ?_ _) | (with_reducible refine belowStep (by assumption) ?_ ?_) | (with_reducible exact Below.size (by assumption)) | go_size))⟩
end Go.Proofs.Ytpfpekfpaknlgab
