
/-
  Contracts of the scaling of an expansion.
-/
import Derived.Test.YtleookfdngnphaaIfExp
namespace Go.Proofs.Ytleookfdngnphaa
open Go.RowKit
def scaleB (xs : List Int) (k : Int) : Bool := expB xs && decide (1 ≤ k) && decide (k ≤ 1000000000) && expB (xs.map (k * ·))
def scaleL (xs : List Int) (k : Int) : List Int := if scaleB xs k = true then xs.map (k * ·) else []
theorem scale_no {xs : List Int} {k : Int} (h : scaleB xs k = false) : scaleL xs k = [] := by rw [scaleL, h]; rfl
theorem scale_exp {xs : List Int} {k : Int} (h : expB xs = false) : scaleB xs k = false := by simp [scaleB, h]
theorem scale_out {xs : List Int} {k : Int} (h : ¬ (1 ≤ k ∧ k ≤ 1000000000)) : scaleB xs k = false := by
  unfold scaleB
  by_cases h1 : 1 ≤ k
  · have : ¬ k ≤ 1000000000 := fun h2 => h ⟨h1, h2⟩
    simp [this]
  · simp [h1]
theorem scale_in {xs : List Int} {k : Int} (h : expB xs = true) (h1 : 1 ≤ k) (h2 : k ≤ 1000000000) : scaleB xs k = expB (xs.map (k * ·)) := by simp [scaleB, h, h1, h2]
theorem scale_len (xs : List Int) (k : Int) : (scaleL xs k).length ≤ 1048576 := by
  unfold scaleL
  split
  · rename_i h
    have : expB xs = true := by simp only [scaleB, Bool.and_eq_true] at h; exact h.1.1.1
    have := expB_len this
    simp; omega
  · simp
theorem scale_64 {xs : List Int} {k : Int} (h : expB xs = true) (h1 : 1 ≤ k) (h2 : k ≤ 1000000000) : In64 (xs.map (k * ·)) := In64.of_mem (fun x hx => by
  obtain ⟨y, hy, rfl⟩ := List.mem_map.1 hx
  have hb := expB_small h y hy
  have := mul_bounds (by omega : 0 ≤ k) h2 (by omega : 0 ≤ y) hb.2
  omega)
theorem take_next {zs : List Int} {j : Nat} {x : Int} (h : zs[j]? = some x) : zs.take (j + 1) = zs.take j ++ [x] := by
  have hk : j < zs.length := (List.getElem?_eq_some_iff.1 h).1
  rw [List.take_succ_eq_append_getElem hk, (List.getElem?_eq_some_iff.1 h).2]
theorem ret_nil {w w' : World} (h : Below w.heap.size w w') : RetLB [] false w (.returned (.tuple #[.slice none 0 0, .bool false])) w' := ⟨_, rfl, OwnI.empty _ _, h⟩
theorem ret_rnil {w w' : World} (h : Below w.heap.size w w') : RetRB [] false w (.returned (.tuple #[.slice none 0 0, .bool false])) w' := ⟨none, 0, rfl, Reads.nil, h⟩

set_option maxHeartbeats 2000000 in
set_option maxRecDepth 100000 in
theorem spec_scale_any (w : World) (k : Int) (rk : -9223372036854775808 ≤ k ∧ k ≤ 9223372036854775807) (Axs : Option Addr) (cxs : Nat) (xs : List Int) (hxs : Reads w Axs xs) (lxs : xs.length ≤ 1048576) : Calls Try.prog 138 #[.slice Axs xs.length cxs, .int .i64 k] w (RetRB (scaleL xs k) (scaleB xs k) w) := by
  have Hxs := Lib.hid hxs
  clear hxs
  cases hx : expB xs with
  | false =>
    have hs := scale_exp (k := k) hx
    rw [scale_no hs, hs]
    go_enter Try.func138, Try.ntmps138
    go_wp2_with fail
    refine (unExpansion_any _ _ _ _ Hxs.out lxs).mono ?_; rintro e w1 ⟨rfl, hb1⟩
    go_wp2
    go_ret2
    exact ret_rnil (by (repeat' (first | (with_reducible exact Below.refl _ _) | (with_reducible assumption) | (with_reducible refine Below.drew ?_) | (with_reducible refine belowDrewN ?_ _) | (with_reducible refine Below.alloc ?_ ?_ _) | (with_reducible refine Below.setCell ?_ ?_ _) | (with_reducible refine belowStep (by assumption) ?_ ?_) | (with_reducible exact Below.size (by assumption)) | go_size)))
  | true =>
    by_cases hk : 1 ≤ k ∧ k ≤ 1000000000
    · obtain ⟨h1, h2⟩ := hk
      have hlen := expB_len hx
      have HS := Lib.hid (scale_in hx h1 h2)
      have Hsm := Lib.hid (expB_small hx)
      have Hlm : Hid ((xs.map (k * ·)).length = xs.length) := by show (xs.map (k * ·)).length = xs.length; simp
      generalize hz : xs.map (k * ·) = zs at HS Hlm
      have Hz := Lib.hid hz
      clear hz
      go_enter Try.func138, Try.ntmps138
      go_wp2_with fail
      refine (unExpansion_any _ _ _ _ Hxs.out lxs).mono ?_; rintro e w1 ⟨rfl, hb1⟩
      go_wp2_with fail
      refine (l1In_yes _ _ _ _ h1 h2).mono ?_; rintro e w2 ⟨rfl, k2, rfl⟩
      go_wp2_with fail
      have hg := hb1.size
      go_loopw [6, 19] (fun v6 v19 wr => ∃ j : Nat, j ≤ xs.length ∧ v19 = .int .i64 j ∧ OwnI wr w.heap.size v6 (zs.take j) ∧ Below w.heap.size w wr) (fun _ v19 _ => xs.length - (intOf v19).toNat)
      case atStart => exact ⟨0, Nat.zero_le _, rfl, OwnI.empty _ _, by (repeat' (first | (with_reducible exact Below.refl _ _) | (with_reducible assumption) | (with_reducible refine Below.drew ?_) | (with_reducible refine belowDrewN ?_ _) | (with_reducible refine Below.alloc ?_ ?_ _) | (with_reducible refine Below.setCell ?_ ?_ _) | (with_reducible refine belowStep (by assumption) ?_ ?_) | (with_reducible exact Below.size (by assumption)) | go_size))⟩
      case round =>
        obtain ⟨j, hj, rfl, ho, hbr⟩ := hrel
        by_cases hlt : j < xs.length
        · obtain ⟨b, o, x, rfl, hb, hxj, hcell⟩ := (Hxs.out.below hbr).at_ hlt
          obtain ⟨x1, x2⟩ := Hsm.out x (List.mem_of_getElem? hxj)
          have p1 := mul_bounds (by omega : 0 ≤ x) x2 (by omega : 0 ≤ k) h2
          have hzj : zs[j]? = some (x * k) := by rw [← Hz.out, List.getElem?_map, hxj, Int.mul_comm]; rfl
          have Ho := Lib.hid ho
          have Hzj := Lib.hid hzj
          have hsz := hbr.size
          clear ho hzj hxj
          go_wp2_with (at_builtin; refine wpList_app _ rfl _ _ rfl rfl (Ho.out.below ((Below.refl _ _).alloc (Nat.le_refl _) _)) 1 1 rfl rfl (Reads.one wr (x * k)) (by rw [List.length_take]; simp; omega) (by simp; omega) ?_; intro v' w3 ho3 hb3 _ _)
          go_roundw
          case rel => exact ⟨j + 1, by omega, by go_num, by rw [take_next Hzj.out]; exact ho3, by (repeat' (first | (with_reducible exact Below.refl _ _) | (with_reducible assumption) | (with_reducible refine Below.drew ?_) | (with_reducible refine belowDrewN ?_ _) | (with_reducible refine Below.alloc ?_ ?_ _) | (with_reducible refine Below.setCell ?_ ?_ _) | (with_reducible refine belowStep (by assumption) ?_ ?_) | (with_reducible exact Below.size (by assumption)) | go_size))⟩
          case measure => simp [intOf]; omega
        · obtain rfl : j = xs.length := by omega
          rw [show zs.take xs.length = zs by rw [← Hlm.out, List.take_length]] at ho
          obtain ⟨A6, c6, rfl, hr6⟩ := ho.form
          have Hr := Lib.hid hr6
          clear ho hr6
          cases hz : expB zs with
          | true =>
            have E2 : Hid (scaleB xs k = true) := by show scaleB xs k = true; rw [HS.out, hz]
            have E1 : Hid (scaleL xs k = zs) := by show scaleL xs k = zs; rw [scaleL, E2.out, if_pos rfl, Hz.out]
            go_wp2_with fail
            refine (unList_yes _ _ _ _ Hr.out (by rw [Hlm.out]; exact lxs) hz).mono ?_; rintro e w3 ⟨rfl, hb3⟩
            go_wp2
            go_ret2
            rw [E1.out, E2.out]
            exact ⟨_, _, rfl, Hr.out.below hb3, by (repeat' (first | (with_reducible exact Below.refl _ _) | (with_reducible assumption) | (with_reducible refine Below.drew ?_) | (with_reducible refine belowDrewN ?_ _) | (with_reducible refine Below.alloc ?_ ?_ _) | (with_reducible refine Below.setCell ?_ ?_ _) | (with_reducible refine belowStep (by assumption) ?_ ?_) | (with_reducible exact Below.size (by assumption)) | go_size))⟩
          | false =>
            have E2 : Hid (scaleB xs k = false) := by show scaleB xs k = false; rw [HS.out, hz]
            have E1 := Lib.hid (scale_no E2.out)
            go_wp2_with fail
            refine (unList_no _ _ _ _ Hr.out (by rw [Hlm.out]; exact lxs) hz).mono ?_; rintro e w3 ⟨rfl, hb3⟩
            go_wp2
            go_ret2
            rw [E1.out, E2.out]
            exact ret_rnil (by (repeat' (first | (with_reducible exact Below.refl _ _) | (with_reducible assumption) | (with_reducible refine Below.drew ?_) | (with_reducible refine belowDrewN ?_ _) | (with_reducible refine Below.alloc ?_ ?_ _) | (with_reducible refine Below.setCell ?_ ?_ _) | (with_reducible refine belowStep (by assumption) ?_ ?_) | (with_reducible exact Below.size (by assumption)) | go_size)))
    · have hs := scale_out (xs := xs) hk
      rw [scale_no hs, hs]
      go_enter Try.func138, Try.ntmps138
      go_wp2_with fail
      refine (unExpansion_any _ _ _ _ Hxs.out lxs).mono ?_; rintro e w1 ⟨rfl, hb1⟩
      go_wp2_with fail
      refine (l1In_no _ _ _ _ hk).mono ?_; rintro e w2 ⟨rfl, k2, rfl⟩
      go_wp2
      go_ret2
      exact ret_rnil (by (repeat' (first | (with_reducible exact Below.refl _ _) | (with_reducible assumption) | (with_reducible refine Below.drew ?_) | (with_reducible refine belowDrewN ?_ _) | (with_reducible refine Below.alloc ?_ ?_ _) | (with_reducible refine Below.setCell ?_ ?_ _) | (with_reducible refine belowStep (by assumption) ?_ ?_) | (with_reducible exact Below.size (by assumption)) | go_size)))
end Go.Proofs.Ytleookfdngnphaa
