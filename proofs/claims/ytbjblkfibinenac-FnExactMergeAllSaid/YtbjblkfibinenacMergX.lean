
/-
  Contracts of the expansion in which all is merged.
-/
import Derived.Test.YtbjblkfibinenacMergA
namespace Go.Proofs.Ytbjblkfibinenac
open Go.RowKit
set_option maxRecDepth 100000 in
set_option maxHeartbeats 4000000 in
theorem mergeAll_any (w : World) (Axs : Option Addr) (cxs : Nat) (xs : List Int) (hxs : Reads w Axs xs) (lxs : xs.length ≤ 1048576) (r64 : In64 xs) : Calls Try.prog 52 #[.slice Axs xs.length cxs] w (RetLB ((maO xs).getD []) (maO xs).isSome w) := by
  have Hr64 := Lib.hid r64
  have Hxs := Lib.hid hxs
  clear r64 hxs
  cases hx : expB xs with
  | false =>
    have E : Hid (maO xs = none) := Lib.hid (by unfold maO; rw [hx]; rfl)
    go_enter Try.func52, Try.ntmps52
    go_wp2_with fail
    refine (isExpansion_any _ _ _ _ Hxs.out lxs Hr64.out).mono ?_; rintro e w1 ⟨rfl, hb1⟩; have hz1 := hb1.size; (try simp only [World.size_alloc, World.size_setCell, World.size_drew, World.heap_drewN] at hz1)
    rw [hx]
    go_wp2
    go_ret2
    rw [E.out]
    exact ⟨_, rfl, OwnI.empty _ _, by (repeat' (first | (with_reducible exact Below.refl _ _) | (with_reducible assumption) | (with_reducible refine Below.drew ?_) | (with_reducible refine belowDrewN ?_ _) | (with_reducible refine Below.alloc ?_ ?_ _) | (with_reducible refine Below.setCell ?_ ?_ _) | (with_reducible refine belowStep (by assumption) ?_ ?_) | (with_reducible exact Below.size (by assumption)) | go_size))⟩
  | true =>
    have E : Hid (maO xs = some (mall xs.length xs)) := Lib.hid (by unfold maO; rw [hx]; rfl)
    have HX := Lib.hid hx
    go_enter Try.func52, Try.ntmps52
    go_wp2_with fail
    refine (isExpansion_any _ _ _ _ Hxs.out lxs Hr64.out).mono ?_; rintro e w1 ⟨rfl, hb1⟩; have hz1 := hb1.size; (try simp only [World.size_alloc, World.size_setCell, World.size_drew, World.heap_drewN] at hz1)
    rw [hx]
    go_wp2_with fail
    refine (clone_any _ _ _ _ (Hxs.out.below (by (repeat' (first | (with_reducible exact Below.refl _ _) | (with_reducible assumption) | (with_reducible refine Below.drew ?_) | (with_reducible refine belowDrewN ?_ _) | (with_reducible refine Below.alloc ?_ ?_ _) | (with_reducible refine Below.setCell ?_ ?_ _) | (with_reducible refine belowStep (by assumption) ?_ ?_) | (with_reducible exact Below.size (by assumption)) | go_size)))) lxs).mono ?_; rintro e w2 ⟨v2, rfl, ho2, hb2⟩
    have hz2 := hb2.size
    obtain ⟨A2, c2, rfl, hr2⟩ := ho2.form
    have Ho2 := Lib.hid ho2
    have hbw2 : Below w.heap.size w w2 := by (repeat' (first | (with_reducible exact Below.refl _ _) | (with_reducible assumption) | (with_reducible refine Below.drew ?_) | (with_reducible refine belowDrewN ?_ _) | (with_reducible refine Below.alloc ?_ ?_ _) | (with_reducible refine Below.setCell ?_ ?_ _) | (with_reducible refine belowStep (by assumption) ?_ ?_) | (with_reducible exact Below.size (by assumption)) | go_size))
    clear ho2 hr2 hx
    go_wp2
    go_loopw [4] (fun v4 wr => ∃ (k : Nat) (zs : List Int) (A : Option Addr) (c : Nat), v4 = .slice A zs.length c ∧ zs.length ≤ k ∧ expB zs = true ∧ mall xs.length xs = mall k zs ∧ OwnI wr w.heap.size (.slice A zs.length c) zs ∧ Below w.heap.size w wr) (fun v4 _ => slen v4)
    case atStart => exact ⟨xs.length, xs, A2, c2, rfl, Nat.le_refl _, HX.out, rfl, Ho2.out.mono (by (first | (go_size; done) | ((try simp only [World.size_alloc, World.size_setCell, World.size_drew, World.heap_drewN]); omega))), hbw2⟩
    case round =>
      obtain ⟨k, zs, A, c, rfl, hk, hez, hm, ho, hbr⟩ := hrel
      have hzr := hbr.size
      have hzl := expB_len hez
      have Hm := Lib.hid hm
      have Ho := Lib.hid ho
      obtain ⟨Aq, cq, eq1, hr⟩ := ho.form
      injection eq1 with eq2 eq3 eq4
      subst eq2 eq4
      have Hr := Lib.hid hr
      have HF := Lib.hid fun (w : World) (h : Reads w A zs) => mergeFirst_any w A c zs h (by omega) hez
      clear ho hr hm
      cases hf : mf zs with
      | none =>
        have E2 : Hid (maO xs = some zs) := Lib.hid (by rw [E.out, Hm.out, mall_none hf])
        rw [hf] at HF
        go_wp2_with fail
        refine (HF.out _ (Hr.out.below (by (repeat' (first | (with_reducible exact Below.refl _ _) | (with_reducible assumption) | (with_reducible refine Below.drew ?_) | (with_reducible refine belowDrewN ?_ _) | (with_reducible refine Below.alloc ?_ ?_ _) | (with_reducible refine Below.setCell ?_ ?_ _) | (with_reducible refine belowStep (by assumption) ?_ ?_) | (with_reducible exact Below.size (by assumption)) | go_size))))).mono ?_; rintro e w3 ⟨v3, rfl, ho3, hb3⟩
        have hz3 := hb3.size
        clear ho3
        go_wp2
        go_ret2
        rw [E2.out]
        exact ⟨_, rfl, Ho.out.below hb3, by (repeat' (first | (with_reducible exact Below.refl _ _) | (with_reducible assumption) | (with_reducible refine Below.drew ?_) | (with_reducible refine belowDrewN ?_ _) | (with_reducible refine Below.alloc ?_ ?_ _) | (with_reducible refine Below.setCell ?_ ?_ _) | (with_reducible refine belowStep (by assumption) ?_ ?_) | (with_reducible exact Below.size (by assumption)) | go_size))⟩
      | some ys =>
        obtain ⟨l1, l2⟩ := mf_less hf
        obtain ⟨k, rfl⟩ : ∃ j, k = j + 1 := ⟨k - 1, by omega⟩
        have E2 : Hid (mall xs.length xs = mall k ys) := Lib.hid (by rw [Hm.out, mall_some hf])
        have L1 := Lib.hid l1
        have l3 : ys.length < zs.length := by omega
        rw [hf] at HF
        go_wp2_with fail
        refine (HF.out _ (Hr.out.below (by (repeat' (first | (with_reducible exact Below.refl _ _) | (with_reducible assumption) | (with_reducible refine Below.drew ?_) | (with_reducible refine belowDrewN ?_ _) | (with_reducible refine Below.alloc ?_ ?_ _) | (with_reducible refine Below.setCell ?_ ?_ _) | (with_reducible refine belowStep (by assumption) ?_ ?_) | (with_reducible exact Below.size (by assumption)) | go_size))))).mono ?_; rintro e w3 ⟨v3, rfl, ho3, hb3⟩
        have hz3 := hb3.size
        obtain ⟨A3, c3, rfl, hr3⟩ := (show OwnI w3 _ v3 ys from ho3).form
        have Ho3 : Hid (OwnI w3 wr.heap.size (.slice A3 ys.length c3) ys) := Lib.hid ho3
        clear ho3 hr3 l1 l2
        go_wp2
        go_roundw
        case rel => exact ⟨k, ys, A3, c3, rfl, by omega, L1.out, E2.out, Ho3.out.mono (by (first | (go_size; done) | ((try simp only [World.size_alloc, World.size_setCell, World.size_drew, World.heap_drewN]); omega))), by (repeat' (first | (with_reducible exact Below.refl _ _) | (with_reducible assumption) | (with_reducible refine Below.drew ?_) | (with_reducible refine belowDrewN ?_ _) | (with_reducible refine Below.alloc ?_ ?_ _) | (with_reducible refine Below.setCell ?_ ?_ _) | (with_reducible refine belowStep (by assumption) ?_ ?_) | (with_reducible exact Below.size (by assumption)) | go_size))⟩
        case measure => simp [slen]; omega
set_option maxRecDepth 100000 in
set_option maxHeartbeats 4000000 in
theorem spec_mergeAll_any (w : World) (Axs : Option Addr) (cxs : Nat) (xs : List Int) (hxs : Reads w Axs xs) (lxs : xs.length ≤ 1048576) : Calls Try.prog 51 #[.slice Axs xs.length cxs] w (RetRB ((maO xs).getD []) (maO xs).isSome w) := by
  have Hxs := Lib.hid hxs
  clear hxs
  cases hx : expB xs with
  | false =>
    have E : Hid (maO xs = none) := Lib.hid (by unfold maO; rw [hx]; rfl)
    go_enter Try.func51, Try.ntmps51
    go_wp2_with fail
    refine (unExpansion_any _ _ _ _ Hxs.out lxs).mono ?_; rintro e w1 ⟨rfl, hb1⟩; have hz1 := hb1.size; (try simp only [World.size_alloc, World.size_setCell, World.size_drew, World.heap_drewN] at hz1)
    rw [hx]
    go_wp2
    go_ret2
    rw [E.out]
    exact ⟨none, 0, rfl, Reads.nil, by (repeat' (first | (with_reducible exact Below.refl _ _) | (with_reducible assumption) | (with_reducible refine Below.drew ?_) | (with_reducible refine belowDrewN ?_ _) | (with_reducible refine Below.alloc ?_ ?_ _) | (with_reducible refine Below.setCell ?_ ?_ _) | (with_reducible refine belowStep (by assumption) ?_ ?_) | (with_reducible exact Below.size (by assumption)) | go_size))⟩
  | true =>
    have E : Hid (maO xs = some (mall xs.length xs)) := Lib.hid (by unfold maO; rw [hx]; rfl)
    have HX := Lib.hid hx
    have HF := Lib.hid fun (w : World) (zs : List Int) (hz : expB zs = true) (A : Option Addr) (c : Nat) (h : Reads w A zs) => meMerge_any w A c zs h (by have := expB_len hz; omega) hz
    go_enter Try.func51, Try.ntmps51
    go_wp2_with fail
    refine (unExpansion_any _ _ _ _ Hxs.out lxs).mono ?_; rintro e w1 ⟨rfl, hb1⟩; have hz1 := hb1.size; (try simp only [World.size_alloc, World.size_setCell, World.size_drew, World.heap_drewN] at hz1)
    rw [hx]
    go_wp2_with fail
    refine (l1Own_any _ _ _ _ (Hxs.out.below (by (repeat' (first | (with_reducible exact Below.refl _ _) | (with_reducible assumption) | (with_reducible refine Below.drew ?_) | (with_reducible refine belowDrewN ?_ _) | (with_reducible refine Below.alloc ?_ ?_ _) | (with_reducible refine Below.setCell ?_ ?_ _) | (with_reducible refine belowStep (by assumption) ?_ ?_) | (with_reducible exact Below.size (by assumption)) | go_size)))) lxs).mono ?_; rintro e w2 ⟨v2, rfl, ho2, hb2⟩
    have hz2 := hb2.size
    obtain ⟨A2, c2, rfl, hr2⟩ := ho2.form
    have Hr2 := Lib.hid hr2
    clear ho2 hr2 hx
    go_wp2_with fail
    refine (HF.out _ xs HX.out A2 c2 Hr2.out).mono ?_; rintro e w3 ⟨A3, c3, rfl, hr3, hb3⟩
    have hz3 := hb3.size
    have Hr3 := Lib.hid hr3
    have Hr2' := Lib.hid (Hr2.out.below hb3)
    have hbw3 : Below w.heap.size w w3 := by (repeat' (first | (with_reducible exact Below.refl _ _) | (with_reducible assumption) | (with_reducible refine Below.drew ?_) | (with_reducible refine belowDrewN ?_ _) | (with_reducible refine Below.alloc ?_ ?_ _) | (with_reducible refine Below.setCell ?_ ?_ _) | (with_reducible refine belowStep (by assumption) ?_ ?_) | (with_reducible exact Below.size (by assumption)) | go_size))
    clear hr3
    go_wp2
    go_loopw [4, 5, 6] (fun v4 v5 v6 wr => ∃ (k : Nat) (zs : List Int) (A B : Option Addr) (c d : Nat), v4 = .slice A zs.length c ∧ v5 = .slice B ((mf zs).getD []).length d ∧ v6 = .bool (mf zs).isSome ∧ zs.length ≤ k ∧ expB zs = true ∧ mall xs.length xs = mall k zs ∧ Reads wr A zs ∧ Reads wr B ((mf zs).getD []) ∧ Below w.heap.size w wr) (fun v4 _ _ _ => slen v4)
    case atStart => exact ⟨xs.length, xs, A2, A3, c2, c3, rfl, rfl, rfl, Nat.le_refl _, HX.out, rfl, Hr2'.out, Hr3.out, hbw3⟩
    case round =>
      obtain ⟨k, zs, A, B, c, d, rfl, rfl, rfl, hk, hez, hm, hrA, hrB, hbr⟩ := hrel
      have hzr := hbr.size
      have hzl := expB_len hez
      have Hm := Lib.hid hm
      have HrA := Lib.hid hrA
      have HrB := Lib.hid hrB
      clear hm hrA hrB
      cases hf : mf zs with
      | none =>
        have E2 : Hid (maO xs = some zs) := Lib.hid (by rw [E.out, Hm.out, mall_none hf])
        go_wp2
        go_ret2
        rw [E2.out]
        exact ⟨_, _, rfl, HrA.out, by (repeat' (first | (with_reducible exact Below.refl _ _) | (with_reducible assumption) | (with_reducible refine Below.drew ?_) | (with_reducible refine belowDrewN ?_ _) | (with_reducible refine Below.alloc ?_ ?_ _) | (with_reducible refine Below.setCell ?_ ?_ _) | (with_reducible refine belowStep (by assumption) ?_ ?_) | (with_reducible exact Below.size (by assumption)) | go_size))⟩
      | some ys =>
        obtain ⟨l1, l2⟩ := mf_less hf
        obtain ⟨k, rfl⟩ : ∃ j, k = j + 1 := ⟨k - 1, by omega⟩
        have E2 : Hid (mall xs.length xs = mall k ys) := Lib.hid (by rw [Hm.out, mall_some hf])
        have L1 := Lib.hid l1
        have l3 : ys.length < zs.length := by omega
        rw [hf] at HrB
        have HrY : Hid (Reads wr B ys) := HrB
        clear l1 l2
        go_wp2_with fail
        refine (HF.out _ ys L1.out B _ HrY.out).mono ?_; rintro e w4 ⟨A4, c4, rfl, hr4, hb4⟩
        have hz4 := hb4.size
        have Hr4 := Lib.hid hr4
        clear hr4
        go_wp2
        go_roundw
        case rel => exact ⟨k, ys, B, A4, d, c4, rfl, rfl, rfl, by omega, L1.out, E2.out, HrY.out.below hb4, Hr4.out, by (repeat' (first | (with_reducible exact Below.refl _ _) | (with_reducible assumption) | (with_reducible refine Below.drew ?_) | (with_reducible refine belowDrewN ?_ _) | (with_reducible refine Below.alloc ?_ ?_ _) | (with_reducible refine Below.setCell ?_ ?_ _) | (with_reducible refine belowStep (by assumption) ?_ ?_) | (with_reducible exact Below.size (by assumption)) | go_size))⟩
        case measure => simp [slen]; omega
end Go.Proofs.Ytbjblkfibinenac
