
/-
  Contracts of the split of a term, in the program and in the model.
-/
import Derived.Test.YtbjblkfibinenaaSplitP
namespace Go.Proofs.Ytbjblkfibinenaa
open Go.RowKit
set_option maxHeartbeats 2000000 in
theorem splitTerm_any (w : World) (i : Int) (ri : -9223372036854775808 ≤ i ∧ i ≤ 9223372036854775807) (Axs : Option Addr) (cxs : Nat) (xs : List Int) (hxs : Reads w Axs xs) (lxs : xs.length ≤ 1048576) (r64 : In64 xs) : Calls Try.prog 21 #[.slice Axs xs.length cxs, .int .i64 i] w (RetLB (stL xs i) (stB xs i) w) := by
  have Hr64 := Lib.hid r64
  have Hxs := Lib.hid hxs
  clear r64 hxs
  cases hx : expB xs with
  | false =>
    have E := st_idx (idx_exp (i := i) hx)
    rw [st_no E, E]
    go_enter Try.func21, Try.ntmps21
    go_wp2_with fail
    refine (isExpansion_any _ _ _ _ Hxs.out lxs Hr64.out).mono ?_; rintro e w1 ⟨rfl, hb1⟩; have hz1 := hb1.size; (try simp only [World.size_alloc, World.size_setCell, World.size_drew, World.heap_drewN] at hz1)
    go_wp2
    go_ret2
    exact ret_lnil (by (repeat' (first | (with_reducible exact Below.refl _ _) | (with_reducible assumption) | (with_reducible refine Below.drew ?_) | (with_reducible refine belowDrewN ?_ _) | (with_reducible refine Below.alloc ?_ ?_ _) | (with_reducible refine Below.setCell ?_ ?_ _) | (with_reducible refine belowStep (by assumption) ?_ ?_) | (with_reducible exact Below.size (by assumption)) | go_size)))
  | true =>
    by_cases hi : 0 ≤ i ∧ i < xs.length
    · obtain ⟨hi0, hi1⟩ := hi
      obtain ⟨j, rfl⟩ := Int.eq_ofNat_of_zero_le hi0
      have hj : j < xs.length := by omega
      have hlen := expB_len hx
      have Hsm := Lib.hid (expB_small hx)
      have Hri := Lib.hid (expB_rising hx)
      go_enter Try.func21, Try.ntmps21
      go_wp2_with fail
      refine (isExpansion_any _ _ _ _ Hxs.out lxs Hr64.out).mono ?_; rintro e w1 ⟨rfl, hb1⟩; have hz1 := hb1.size; (try simp only [World.size_alloc, World.size_setCell, World.size_drew, World.heap_drewN] at hz1)
      go_wp2_with fail
      refine (isIndex_yes _ _ _ _ _ hi0 hi1 lxs).mono ?_; rintro e w2 ⟨rfl, k2, rfl⟩
      obtain ⟨b, o, x, rfl, hb, hxj, hcell⟩ := (Hxs.out.below hb1).at_ hj
      obtain ⟨x1, x2⟩ := Hsm.out x (List.mem_of_getElem? hxj)
      obtain ⟨m1, m2, m3⟩ := st_mul x1 x2
      obtain ⟨rs, hrs⟩ : ∃ rs, rs = restL xs j := ⟨_, rfl⟩
      have hrl : rs.length ≤ xs.length := by rw [hrs]; exact rest_len xs j
      have R64 : Hid (In64 rs) := by rw [hrs]; exact Hr64.out.rest j
      have Rr : Hid (Rising rs) := by rw [hrs]; exact Hri.out.rest j
      have Hrs := Lib.hid hrs
      clear hrs
      have F64 : Hid (In64 [x + 1, x * (x + 1)]) := In64.of_mem (fun y hy => by rcases List.mem_cons.1 hy with rfl | hy; omega; rcases List.mem_cons.1 hy with rfl | hy; omega; cases hy)
      have M3 := Lib.hid m3
      have Hx := Lib.hid hxj
      clear m3 hxj
      go_wp2_with fail
      refine (without_any _ _ _ _ (Hxs.out.below (by (repeat' (first | (with_reducible exact Below.refl _ _) | (with_reducible assumption) | (with_reducible refine Below.drew ?_) | (with_reducible refine belowDrewN ?_ _) | (with_reducible refine Below.alloc ?_ ?_ _) | (with_reducible refine Below.setCell ?_ ?_ _) | (with_reducible refine belowStep (by assumption) ?_ ?_) | (with_reducible exact Below.size (by assumption)) | go_size)))) lxs _ 1 [(j : Int)] (Reads.one _ _) (by simp)).mono ?_; rintro e w3 ⟨v3, rfl, ho3, hb3⟩; have hz3 := hb3.size; (try simp only [World.size_alloc, World.heap_drewN] at hz3)
      rw [show keepL [(j : Int)] 0 xs = rs by rw [keep_at, Hrs.out]; rfl] at ho3
      obtain ⟨A3, c3, rfl, hr3⟩ := ho3.form
      have hc3 := ho3.cap_
      have Hr3 := Lib.hid hr3
      clear ho3 hr3
      go_wp2_with fail
      refine (putInto_any _ A3 c3 rs (Hr3.out.below (by (repeat' (first | (with_reducible exact Below.refl _ _) | (with_reducible assumption) | (with_reducible refine Below.drew ?_) | (with_reducible refine belowDrewN ?_ _) | (with_reducible refine Below.alloc ?_ ?_ _) | (with_reducible refine Below.setCell ?_ ?_ _) | (with_reducible refine belowStep (by assumption) ?_ ?_) | (with_reducible exact Below.size (by assumption)) | go_size)))) (by omega) _ 2 [x + 1, x * (x + 1)] (Reads.two _ _ _) (by simp) hc3 Rr.out R64.out F64.out (by omega) (by simp) (by simp)).mono ?_; rintro e w4 ⟨v4, rfl, ho4, hb4⟩; have hz4 := hb4.size; (try simp only [World.size_alloc] at hz4)
      by_cases h1 : x = 1
      · have E : Hid (stB xs j = false) := by
          have := Hx.out
          rw [h1] at this
          exact st_one this
        have I := into_twice (rs := rs) 2
        subst h1
        rw [show (1 : Int) + 1 = 2 by omega, show (1 : Int) * 2 = 2 by omega, I.2] at ho4
        have Ho4 := Lib.hid ho4
        have HI := Lib.hid I.1
        clear I ho4 M3
        go_wp2
        go_ret2
        rw [st_no E.out, E.out]
        refine ⟨_, ?_, Ho4.out.mono (by simp only [World.size_alloc]; omega), by (repeat' (first | (with_reducible exact Below.refl _ _) | (with_reducible assumption) | (with_reducible refine Below.drew ?_) | (with_reducible refine belowDrewN ?_ _) | (with_reducible refine Below.alloc ?_ ?_ _) | (with_reducible refine Below.setCell ?_ ?_ _) | (with_reducible refine belowStep (by assumption) ?_ ?_) | (with_reducible exact Below.size (by assumption)) | go_size))⟩
        first | rfl | simp [HI.out]
      · have E := Lib.hid (st_in hx Hx.out h1)
        have I := Lib.hid (into_repl Hri.out j (M3.out h1))
        rw [← Hrs.out] at I
        rw [I.out.2] at ho4
        have Ho4 := Lib.hid ho4
        clear ho4 h1
        go_wp2
        go_ret2
        rw [E.out.1, E.out.2]
        refine ⟨_, ?_, Ho4.out.mono (by simp only [World.size_alloc]; omega), by (repeat' (first | (with_reducible exact Below.refl _ _) | (with_reducible assumption) | (with_reducible refine Below.drew ?_) | (with_reducible refine belowDrewN ?_ _) | (with_reducible refine Below.alloc ?_ ?_ _) | (with_reducible refine Below.setCell ?_ ?_ _) | (with_reducible refine belowStep (by assumption) ?_ ?_) | (with_reducible exact Below.size (by assumption)) | go_size))⟩
        first | rfl | (rw [← I.out.1]; rfl)
    · have E := st_idx (idx_out hi)
      rw [st_no E, E]
      go_enter Try.func21, Try.ntmps21
      go_wp2_with fail
      refine (isExpansion_any _ _ _ _ Hxs.out lxs Hr64.out).mono ?_; rintro e w1 ⟨rfl, hb1⟩; have hz1 := hb1.size; (try simp only [World.size_alloc, World.size_setCell, World.size_drew, World.heap_drewN] at hz1)
      go_wp2_with fail
      refine (isIndex_no _ _ _ _ _ hi lxs).mono ?_; rintro e w2 ⟨rfl, k2, rfl⟩
      go_wp2
      go_ret2
      exact ret_lnil (by (repeat' (first | (with_reducible exact Below.refl _ _) | (with_reducible assumption) | (with_reducible refine Below.drew ?_) | (with_reducible refine belowDrewN ?_ _) | (with_reducible refine Below.alloc ?_ ?_ _) | (with_reducible refine Below.setCell ?_ ?_ _) | (with_reducible refine belowStep (by assumption) ?_ ?_) | (with_reducible exact Below.size (by assumption)) | go_size)))
set_option maxHeartbeats 2000000 in
theorem spec_splitTerm_any (w : World) (i : Int) (ri : -9223372036854775808 ≤ i ∧ i ≤ 9223372036854775807) (Axs : Option Addr) (cxs : Nat) (xs : List Int) (hxs : Reads w Axs xs) (lxs : xs.length ≤ 1048576) (hcap : xs.length ≤ cxs) : Calls Try.prog 22 #[.slice Axs xs.length cxs, .int .i64 i] w (RetRB (stL xs i) (stB xs i) w) := by
  have Hxs := Lib.hid hxs
  clear hxs
  cases hx : expB xs with
  | false =>
    have E := st_idx (idx_exp (i := i) hx)
    rw [st_no E, E]
    go_enter Try.func22, Try.ntmps22
    go_wp2_with fail
    refine (unExpansion_any _ _ _ _ Hxs.out lxs).mono ?_; rintro e w1 ⟨rfl, hb1⟩; have hz1 := hb1.size; (try simp only [World.size_alloc, World.size_setCell, World.size_drew, World.heap_drewN] at hz1)
    go_wp2
    go_ret2
    exact ret_rnil' (by (repeat' (first | (with_reducible exact Below.refl _ _) | (with_reducible assumption) | (with_reducible refine Below.drew ?_) | (with_reducible refine belowDrewN ?_ _) | (with_reducible refine Below.alloc ?_ ?_ _) | (with_reducible refine Below.setCell ?_ ?_ _) | (with_reducible refine belowStep (by assumption) ?_ ?_) | (with_reducible exact Below.size (by assumption)) | go_size)))
  | true =>
    by_cases hi : 0 ≤ i ∧ i < xs.length
    · obtain ⟨hi0, hi1⟩ := hi
      obtain ⟨j, rfl⟩ := Int.eq_ofNat_of_zero_le hi0
      have hj : j < xs.length := by omega
      have hlen := expB_len hx
      have Hsm := Lib.hid (expB_small hx)
      go_enter Try.func22, Try.ntmps22
      go_wp2_with fail
      refine (unExpansion_any _ _ _ _ Hxs.out lxs).mono ?_; rintro e w1 ⟨rfl, hb1⟩; have hz1 := hb1.size; (try simp only [World.size_alloc, World.size_setCell, World.size_drew, World.heap_drewN] at hz1)
      go_wp2_with fail
      refine (l1In_yes _ _ _ _ (by omega) (by omega)).mono ?_; rintro e w2 ⟨rfl, k2, rfl⟩
      obtain ⟨b, o, x, rfl, hb, hxj, hcell⟩ := (Hxs.out.below hb1).at_ hj
      obtain ⟨x1, x2⟩ := Hsm.out x (List.mem_of_getElem? hxj)
      obtain ⟨m1, m2, m3⟩ := st_mul x1 x2
      have Hx := Lib.hid hxj
      clear m3 hxj
      by_cases h1 : x = 1
      · have E : Hid (stB xs j = false) := by
          have := Hx.out
          rw [h1] at this
          exact st_one this
        subst h1
        go_wp2
        go_ret2
        rw [st_no E.out, E.out]
        exact ret_rnil' (by (repeat' (first | (with_reducible exact Below.refl _ _) | (with_reducible assumption) | (with_reducible refine Below.drew ?_) | (with_reducible refine belowDrewN ?_ _) | (with_reducible refine Below.alloc ?_ ?_ _) | (with_reducible refine Below.setCell ?_ ?_ _) | (with_reducible refine belowStep (by assumption) ?_ ?_) | (with_reducible exact Below.size (by assumption)) | go_size)))
      · have E := Lib.hid (st_in hx Hx.out h1)
        have hne : (x == 1) = false := by simp [h1]
        clear h1
        go_wp2_with fail
        refine (unReplace_any _ j _ _ _ _ xs (Hxs.out.below (by (repeat' (first | (with_reducible exact Below.refl _ _) | (with_reducible assumption) | (with_reducible refine Below.drew ?_) | (with_reducible refine belowDrewN ?_ _) | (with_reducible refine Below.alloc ?_ ?_ _) | (with_reducible refine Below.setCell ?_ ?_ _) | (with_reducible refine belowStep (by assumption) ?_ ?_) | (with_reducible exact Below.size (by assumption)) | go_size)))) lxs hcap hj (by omega)).mono ?_; rintro e w3 ⟨A3, c3, rfl, hr3, hb3⟩; have hz3 := hb3.size; (try simp only [World.heap_drewN] at hz3)
        have Hr3 := Lib.hid hr3
        clear hr3
        go_wp2
        go_ret2
        rw [E.out.1, E.out.2]
        exact ⟨_, _, rfl, Hr3.out, by (repeat' (first | (with_reducible exact Below.refl _ _) | (with_reducible assumption) | (with_reducible refine Below.drew ?_) | (with_reducible refine belowDrewN ?_ _) | (with_reducible refine Below.alloc ?_ ?_ _) | (with_reducible refine Below.setCell ?_ ?_ _) | (with_reducible refine belowStep (by assumption) ?_ ?_) | (with_reducible exact Below.size (by assumption)) | go_size))⟩
    · have E := st_idx (idx_out hi)
      rw [st_no E, E]
      go_enter Try.func22, Try.ntmps22
      go_wp2_with fail
      refine (unExpansion_any _ _ _ _ Hxs.out lxs).mono ?_; rintro e w1 ⟨rfl, hb1⟩; have hz1 := hb1.size; (try simp only [World.size_alloc, World.size_setCell, World.size_drew, World.heap_drewN] at hz1)
      go_wp2_with fail
      refine (l1In_no _ _ _ _ (by omega)).mono ?_; rintro e w2 ⟨rfl, k2, rfl⟩
      go_wp2
      go_ret2
      exact ret_rnil' (by (repeat' (first | (with_reducible exact Below.refl _ _) | (with_reducible assumption) | (with_reducible refine Below.drew ?_) | (with_reducible refine belowDrewN ?_ _) | (with_reducible refine Below.alloc ?_ ?_ _) | (with_reducible refine Below.setCell ?_ ?_ _) | (with_reducible refine belowStep (by assumption) ?_ ?_) | (with_reducible exact Below.size (by assumption)) | go_size)))
end Go.Proofs.Ytbjblkfibinenaa
