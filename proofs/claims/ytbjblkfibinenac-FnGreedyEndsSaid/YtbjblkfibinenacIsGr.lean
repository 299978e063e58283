
/-
  Contracts of the test whether an expansion is the greedy one.
-/
import Derived.Test.YtbjblkfibinenacGrX
import Derived.Test.YtbjblkfibinenacSame
import Derived.Test.YtbjblkfibinenacGrow
namespace Go.Proofs.Ytbjblkfibinenac
open Go.RowKit
/-- the greedy expansion of an expansion's sum -/
def igO (xs : List Int) : Option (List Int) := if expB xs = true then gexO (sumN xs) (sumD xs) else none
def igB (xs : List Int) : Bool := match igO xs with | none => false | some ys => decide (xs = ys)
theorem igB_none {xs : List Int} (h : igO xs = none) : igB xs = false := by simp [igB, h]
theorem igB_some {xs ys : List Int} (h : igO xs = some ys) : igB xs = decide (xs = ys) := by simp [igB, h]
theorem gexO_small {n d : Int} {ys : List Int} (h : gexO n d = some ys) : ys.length ≤ 24 := by
  have := gexO_len n d
  rw [h] at this
  exact this
set_option maxHeartbeats 2000000 in
theorem isGreedy_any (w : World) (Axs : Option Addr) (cxs : Nat) (xs : List Int) (hxs : Reads w Axs xs) (lxs : xs.length ≤ 1048576) (r64 : In64 xs) : Calls Try.prog 22 #[.slice Axs xs.length cxs] w (Ret (.tuple #[.bool (igB xs), .bool (igO xs).isSome]) w) := by
  have Hxs := Lib.hid hxs
  have H64 := Lib.hid r64
  clear hxs r64
  cases he : expB xs with
  | false =>
    have E : Hid (igO xs = none) := Lib.hid (by unfold igO; rw [he]; rfl)
    have E2 := Lib.hid (igB_none E.out)
    go_enter Try.func22, Try.ntmps22
    go_wp2_with fail
    refine (sumOf_any _ _ _ _ Hxs.out lxs H64.out).mono ?_; rintro e w1 ⟨rfl, hb1⟩; have hz1 := hb1.size; (try simp only [World.size_alloc, World.size_setCell, World.size_drew, World.heap_drewN] at hz1)
    rw [he]
    go_wp2
    go_ret2
    rw [E.out, E2.out]
    exact ⟨rfl, by (repeat' (first | (with_reducible exact Below.refl _ _) | (with_reducible assumption) | (with_reducible refine Below.drew ?_) | (with_reducible refine belowDrewN ?_ _) | (with_reducible refine Below.alloc ?_ ?_ _) | (with_reducible refine Below.setCell ?_ ?_ _) | (with_reducible refine belowStep (by assumption) ?_ ?_) | (with_reducible exact Below.size (by assumption)) | go_size))⟩
  | true =>
    have hg := good_bounds (good_sum he)
    have E1 : Hid (eN xs = sumN xs ∧ eD xs = sumD xs) := Lib.hid ⟨by rw [eN, if_pos he], by rw [eD, if_pos he]⟩
    cases ho : gexO (sumN xs) (sumD xs) with
    | none =>
      have E : Hid (igO xs = none) := Lib.hid (by unfold igO; rw [if_pos he, ho])
      have E2 := Lib.hid (igB_none E.out)
      have HO := Lib.hid ho
      clear ho
      go_enter Try.func22, Try.ntmps22
      go_wp2_with fail
      refine (sumOf_any _ _ _ _ Hxs.out lxs H64.out).mono ?_; rintro e w1 ⟨rfl, hb1⟩; have hz1 := hb1.size; (try simp only [World.size_alloc, World.size_setCell, World.size_drew, World.heap_drewN] at hz1)
      rw [he, E1.out.1, E1.out.2]
      go_wp2_with fail
      refine (greedyExp_any (sumN xs) (sumD xs) _ (by omega) (by omega)).mono ?_; rintro e w2 ⟨v2, rfl, ho2, hb2⟩; have hz2 := hb2.size; (try simp only [World.size_alloc] at hz2)
      rw [HO.out]
      go_wp2
      go_ret2
      rw [E.out, E2.out]
      exact ⟨rfl, by (repeat' (first | (with_reducible exact Below.refl _ _) | (with_reducible assumption) | (with_reducible refine Below.drew ?_) | (with_reducible refine belowDrewN ?_ _) | (with_reducible refine Below.alloc ?_ ?_ _) | (with_reducible refine Below.setCell ?_ ?_ _) | (with_reducible refine belowStep (by assumption) ?_ ?_) | (with_reducible exact Below.size (by assumption)) | go_size))⟩
    | some ys =>
      have E : Hid (igO xs = some ys) := Lib.hid (by unfold igO; rw [if_pos he, ho])
      have E2 := Lib.hid (igB_some E.out)
      have hyl := gexO_small ho
      have HO := Lib.hid ho
      clear ho
      go_enter Try.func22, Try.ntmps22
      go_wp2_with fail
      refine (sumOf_any _ _ _ _ Hxs.out lxs H64.out).mono ?_; rintro e w1 ⟨rfl, hb1⟩; have hz1 := hb1.size; (try simp only [World.size_alloc, World.size_setCell, World.size_drew, World.heap_drewN] at hz1)
      rw [he, E1.out.1, E1.out.2]
      go_wp2_with fail
      refine (greedyExp_any (sumN xs) (sumD xs) _ (by omega) (by omega)).mono ?_; rintro e w2 ⟨v2, rfl, ho2, hb2⟩; have hz2 := hb2.size; (try simp only [World.size_alloc] at hz2)
      rw [HO.out] at ho2
      rw [HO.out]
      obtain ⟨A2, c2, rfl, hr2⟩ := (show OwnI w2 _ v2 ys from ho2).form
      have Hr2 := Lib.hid hr2
      clear ho2 hr2
      go_wp2_with fail
      refine (equalS_any _ _ _ _ _ _ _ (Hxs.out.below (by (repeat' (first | (with_reducible exact Below.refl _ _) | (with_reducible assumption) | (with_reducible refine Below.drew ?_) | (with_reducible refine belowDrewN ?_ _) | (with_reducible refine Below.alloc ?_ ?_ _) | (with_reducible refine Below.setCell ?_ ?_ _) | (with_reducible refine belowStep (by assumption) ?_ ?_) | (with_reducible exact Below.size (by assumption)) | go_size)))) Hr2.out lxs (by omega)).mono ?_; rintro e w3 ⟨rfl, k3, rfl⟩
      go_wp2
      go_ret2
      rw [E.out, E2.out]
      exact ⟨rfl, by (repeat' (first | (with_reducible exact Below.refl _ _) | (with_reducible assumption) | (with_reducible refine Below.drew ?_) | (with_reducible refine belowDrewN ?_ _) | (with_reducible refine Below.alloc ?_ ?_ _) | (with_reducible refine Below.setCell ?_ ?_ _) | (with_reducible refine belowStep (by assumption) ?_ ?_) | (with_reducible exact Below.size (by assumption)) | go_size))⟩
set_option maxHeartbeats 2000000 in
theorem spec_isGreedy_any (w : World) (Axs : Option Addr) (cxs : Nat) (xs : List Int) (hxs : Reads w Axs xs) (lxs : xs.length ≤ 1048576) : Calls Try.prog 20 #[.slice Axs xs.length cxs] w (Ret (.tuple #[.bool (igB xs), .bool (igO xs).isSome]) w) := by
  have Hxs := Lib.hid hxs
  clear hxs
  cases he : expB xs with
  | false =>
    have E : Hid (igO xs = none) := Lib.hid (by unfold igO; rw [he]; rfl)
    have E2 := Lib.hid (igB_none E.out)
    go_enter Try.func20, Try.ntmps20
    go_wp2_with fail
    refine (spec_sumOf_any _ _ _ _ Hxs.out lxs).mono ?_; rintro e w1 ⟨rfl, hb1⟩; have hz1 := hb1.size; (try simp only [World.size_alloc, World.size_setCell, World.size_drew, World.heap_drewN] at hz1)
    rw [he]
    go_wp2
    go_ret2
    rw [E.out, E2.out]
    exact ⟨rfl, by (repeat' (first | (with_reducible exact Below.refl _ _) | (with_reducible assumption) | (with_reducible refine Below.drew ?_) | (with_reducible refine belowDrewN ?_ _) | (with_reducible refine Below.alloc ?_ ?_ _) | (with_reducible refine Below.setCell ?_ ?_ _) | (with_reducible refine belowStep (by assumption) ?_ ?_) | (with_reducible exact Below.size (by assumption)) | go_size))⟩
  | true =>
    have hgd := good_sum he
    have hg := good_bounds hgd
    have E1 : Hid (eN xs = sumN xs ∧ eD xs = sumD xs) := Lib.hid ⟨by rw [eN, if_pos he], by rw [eD, if_pos he]⟩
    by_cases hle : sumN xs ≤ sumD xs
    · have hG := gexO_one (n := sumN xs) (d := sumD xs) (by simp [atMostB, hgd, hle])
      have HF := Lib.hid fun (w : World) => grFrom1_any 1 (sumN xs) (sumD xs) 24 w hgd (by omega) (by omega) (by omega)
      rw [← hG] at HF
      cases ho : gexO (sumN xs) (sumD xs) with
      | none =>
        have E : Hid (igO xs = none) := Lib.hid (by unfold igO; rw [if_pos he, ho])
        have E2 := Lib.hid (igB_none E.out)
        rw [ho] at HF
        clear ho hG
        go_enter Try.func20, Try.ntmps20
        go_wp2_with fail
        refine (spec_sumOf_any _ _ _ _ Hxs.out lxs).mono ?_; rintro e w1 ⟨rfl, hb1⟩; have hz1 := hb1.size; (try simp only [World.size_alloc, World.size_setCell, World.size_drew, World.heap_drewN] at hz1)
        rw [he, E1.out.1, E1.out.2]
        go_wp2_with fail
        refine (HF.out _).mono ?_; rintro e w2 ⟨A2, c2, rfl, hr2, hb2⟩; have hz2 := hb2.size; (try simp only [World.size_alloc] at hz2)
        go_wp2
        go_ret2
        rw [E.out, E2.out]
        exact ⟨rfl, by (repeat' (first | (with_reducible exact Below.refl _ _) | (with_reducible assumption) | (with_reducible refine Below.drew ?_) | (with_reducible refine belowDrewN ?_ _) | (with_reducible refine Below.alloc ?_ ?_ _) | (with_reducible refine Below.setCell ?_ ?_ _) | (with_reducible refine belowStep (by assumption) ?_ ?_) | (with_reducible exact Below.size (by assumption)) | go_size))⟩
      | some ys =>
        have E : Hid (igO xs = some ys) := Lib.hid (by unfold igO; rw [if_pos he, ho])
        have E2 : Hid (igB xs = decide (ys = xs)) := Lib.hid (by rw [igB_some E.out]; exact decide_eq_decide.2 ⟨fun h => h.symm, fun h => h.symm⟩)
        have hyl := gexO_small ho
        rw [ho] at HF
        clear ho hG
        go_enter Try.func20, Try.ntmps20
        go_wp2_with fail
        refine (spec_sumOf_any _ _ _ _ Hxs.out lxs).mono ?_; rintro e w1 ⟨rfl, hb1⟩; have hz1 := hb1.size; (try simp only [World.size_alloc, World.size_setCell, World.size_drew, World.heap_drewN] at hz1)
        rw [he, E1.out.1, E1.out.2]
        go_wp2_with fail
        refine (HF.out _).mono ?_; rintro e w2 ⟨A2, c2, rfl, hr2, hb2⟩; have hz2 := hb2.size; (try simp only [World.size_alloc] at hz2)
        have Hr2 := Lib.hid (show Reads w2 A2 ys from hr2)
        clear hr2
        rw [Option.getD_some]
        go_wp2_with fail
        refine (l1Same_any _ _ _ _ _ _ _ Hr2.out (Hxs.out.below (by (repeat' (first | (with_reducible exact Below.refl _ _) | (with_reducible assumption) | (with_reducible refine Below.drew ?_) | (with_reducible refine belowDrewN ?_ _) | (with_reducible refine Below.alloc ?_ ?_ _) | (with_reducible refine Below.setCell ?_ ?_ _) | (with_reducible refine belowStep (by assumption) ?_ ?_) | (with_reducible exact Below.size (by assumption)) | go_size)))) (by omega) lxs).mono ?_; rintro e w3 ⟨rfl, k3, rfl⟩
        go_wp2
        go_ret2
        rw [E.out, E2.out]
        exact ⟨rfl, by (repeat' (first | (with_reducible exact Below.refl _ _) | (with_reducible assumption) | (with_reducible refine Below.drew ?_) | (with_reducible refine belowDrewN ?_ _) | (with_reducible refine Below.alloc ?_ ?_ _) | (with_reducible refine Below.setCell ?_ ?_ _) | (with_reducible refine belowStep (by assumption) ?_ ?_) | (with_reducible exact Below.size (by assumption)) | go_size))⟩
    · have E : Hid (igO xs = none) := Lib.hid (by unfold igO gexO; rw [if_pos he, if_neg]; simp [atMostB]; omega)
      have E2 := Lib.hid (igB_none E.out)
      have hlt : sumD xs < sumN xs := by omega
      go_enter Try.func20, Try.ntmps20
      go_wp2_with fail
      refine (spec_sumOf_any _ _ _ _ Hxs.out lxs).mono ?_; rintro e w1 ⟨rfl, hb1⟩; have hz1 := hb1.size; (try simp only [World.size_alloc, World.size_setCell, World.size_drew, World.heap_drewN] at hz1)
      rw [he, E1.out.1, E1.out.2]
      go_wp2
      go_ret2
      rw [E.out, E2.out]
      exact ⟨rfl, by (repeat' (first | (with_reducible exact Below.refl _ _) | (with_reducible assumption) | (with_reducible refine Below.drew ?_) | (with_reducible refine belowDrewN ?_ _) | (with_reducible refine Below.alloc ?_ ?_ _) | (with_reducible refine Below.setCell ?_ ?_ _) | (with_reducible refine belowStep (by assumption) ?_ ?_) | (with_reducible exact Below.size (by assumption)) | go_size))⟩
end Go.Proofs.Ytbjblkfibinenac
