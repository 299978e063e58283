
/-
  The contract of the numbers of a row at some indices, in the program.
-/
import Derived.Test.YthkchhjidihkpaaDblC
namespace Go.Proofs.Ythkchhjidihkpaa
open Go.RowKit
/-- the numbers of a row at some indices, and 0 behind them -/
def atL (row : List Int) (ls : List Nat) : List Int := ls.map (fun i => row.getD i 0)
def atR (row : List Int) (ls : List Nat) : List Int := atL row ls ++ List.replicate (20 - ls.length) 0
theorem atR_len {row : List Int} {ls : List Nat} (h : ls.length ≤ 20) : (atR row ls).length = 20 := by unfold atR atL; simp; omega
/-- the indices that are allowed -/
def ixB (xs : List Int) : Bool := xs.all (fun x => decide (0 ≤ x) && decide (x < 20))
def natL (xs : List Int) : List Nat := xs.map Int.toNat
theorem natL_len (xs : List Int) : (natL xs).length = xs.length := List.length_map ..
def atB (xs : List Int) : Bool := decide (xs.length ≤ 20) && ixB xs
/-- the row while it is filled: k of the numbers are there -/
def atK (row : List Int) (xs : List Int) (k : Nat) : List Int := atL row (natL (xs.take k)) ++ List.replicate (20 - k) 0
theorem atK_set {row xs : List Int} {k : Nat} {x : Int} (hx : xs[k]? = some x) (hk : k < 20) (_ : 0 ≤ x) {y : Int} (hy : row[x.toNat]? = some y) : (atK row xs k).set k y = atK row xs (k + 1) := by
  have hkl : k < xs.length := (List.getElem?_eq_some_iff.1 hx).1
  have hl : (atL row (natL (xs.take k))).length = k := by unfold atL natL; simp; omega
  unfold atK
  rw [List.set_append_right _ _ (by rw [hl]; exact Nat.le_refl _), hl, Nat.sub_self, show 20 - k = (20 - (k + 1)) + 1 from by omega, List.replicate_succ, List.set_cons_zero, List.take_add_one, hx]
  unfold atL natL
  simp [List.getD, hy]
theorem atK_len {row xs : List Int} {k : Nat} (hk : k ≤ xs.length) (h20 : k ≤ 20) : (atK row xs k).length = 20 := by unfold atK atL natL; simp; omega
theorem atK_all {row xs : List Int} : atK row xs xs.length = atR row (natL xs) := by unfold atK atR; rw [List.take_length, natL_len]
def atV (row xs : List Int) : Value := if atB xs = true then rowV (atR row (natL xs)) else rowV zr
theorem atV_yes {row xs : List Int} (h : atB xs = true) : atV row xs = rowV (atR row (natL xs)) := by unfold atV; rw [if_pos h]
theorem atV_no {row xs : List Int} (h : atB xs = false) : atV row xs = rowV zr := by unfold atV; rw [h]; rfl
set_option maxRecDepth 100000 in
set_option maxHeartbeats 4000000 in
theorem at_any (row : List Int) (w : World) (hr : row.length = 20) (Axs : Option Addr) (cxs : Nat) (xs : List Int) (hxs : Reads w Axs xs) (lxs : xs.length ≤ 1048576) (r64 : In64 xs) : Calls Try.prog 48 #[rowV row, .slice Axs xs.length cxs] w (Ret (.tuple #[atV row xs, .bool (atB xs)]) w) := by
  have HX := Lib.hid hr
  have H64 := Lib.hid r64
  have Hxs := Lib.hid hxs
  clear hr r64 hxs
  by_cases hl : xs.length ≤ 20
  · have hli : ¬ (20 : Int) < (xs.length : Int) := by omega
    go_enter Try.func48, Try.ntmps48
    go_wp2_with (first | (with_reducible show wpList _ _ _ _ _ _; refine step_boxR row HX.out _ (o := ⟨some 2, _, _, _, _, _⟩) rfl rfl rfl ?_; intro w1 hR1 hb1 hz1) | (with_reducible show wpList _ _ _ _ _ _; refine step_allocR (o := ⟨some 4, _, _, _, _, _⟩) rfl rfl ?_; intro w2 hR2 hb2 hz2) | (with_reducible show wpList _ _ _ _ _ _; refine step_buildR (o := ⟨some 9, _, _, _, _, _⟩) rfl rfl ?_) | (with_reducible show wpList _ _ _ _ _ _; refine step_allocR (o := ⟨some 6, _, _, _, _, _⟩) rfl rfl ?_; intro w3 hR3 hb3 hz3) | (with_reducible show wpList _ _ _ _ _ _; refine step_storeR (w2.heap.size) (zr) hR3 rfl (.tmp 6) (.tmp 9) rfl rfl rfl rfl ?_; intro w4 hR4 hb4 hz4 hn4))
    have e1 : w1.heap.size = w.heap.size + 1 := hz1
    have e2 : w2.heap.size = w.heap.size + 1 + 1 := by omega
    rw [e1] at hR2 hb2
    rw [e2] at hR3 hR4 hb3 hb4
    have R1 := Lib.hid (((hR1.belowB hb2 (by omega)).belowB hb3 (by omega)).belowB hb4 (by omega))
    have R2 := Lib.hid ((hR2.belowB hb3 (by omega)).belowB hb4 (by omega))
    have R4 := Lib.hid hR4
    have hz4' : w4.heap.size = w.heap.size + 3 := by omega
    have hb04 : Below w.heap.size w w4 := by (repeat' (first | (with_reducible exact Below.refl _ _) | (with_reducible assumption) | (with_reducible refine Below.drew ?_) | (with_reducible refine belowDrewN ?_ _) | (with_reducible refine Below.alloc ?_ ?_ _) | (with_reducible refine Below.setCell ?_ ?_ _) | (with_reducible refine belowStep (by assumption) ?_ ?_) | (with_reducible exact Below.size (by assumption)) | go_size))
    clear hR1 hR2 hR3 hR4 hn4
    have hE0 : atK row xs 0 = zr := by unfold atK atL natL zr; simp
    rw [← hE0] at R4
    go_loopw [16] (fun v16 wr => ∃ k : Nat, k ≤ xs.length ∧ v16 = .int .i64 (k : Int) ∧ Hid (ixB (xs.take k) = true) ∧ RowAt wr (w.heap.size + 1 + 1) (atK row xs k) ∧ RowAt wr w.heap.size row ∧ RowAt wr (w.heap.size + 1) zr ∧ Below w.heap.size w wr ∧ wr.heap.size = w.heap.size + 3) (fun v16 _ => xs.length - (intOf v16).toNat)
    case atStart => exact ⟨0, by omega, rfl, Lib.hid rfl, R4.out, R1.out, R2.out, by (repeat' (first | (with_reducible exact Below.refl _ _) | (with_reducible assumption) | (with_reducible refine Below.drew ?_) | (with_reducible refine belowDrewN ?_ _) | (with_reducible refine Below.alloc ?_ ?_ _) | (with_reducible refine Below.setCell ?_ ?_ _) | (with_reducible refine belowStep (by assumption) ?_ ?_) | (with_reducible exact Below.size (by assumption)) | go_size)), hz4'⟩
    case round =>
      obtain ⟨k, hk, rfl, HB, hR4, hR1, hR2, hbr, hzr⟩ := hrel
      clear R1 R2 R4 hE0
      have R4 := Lib.hid hR4
      have R1 := Lib.hid hR1
      have R2 := Lib.hid hR2
      clear hR1 hR2 hR4
      by_cases hlt : k < xs.length
      · obtain ⟨b9, o9, x, rfl, hbb, hx, hcell⟩ := (Hxs.out.below hbr).at_ hlt
        obtain ⟨x1, x2⟩ := H64.out k x hx
        have Hx := Lib.hid hx
        clear hx
        have hk20 : k < 20 := by omega
        have hki0 : 0 ≤ (k : Int) := by omega
        have hki2 : (k : Int) < 20 := by omega
        by_cases h1 : 0 ≤ x
        · by_cases h2 : x < 20
          · obtain ⟨X, rfl⟩ := Int.eq_ofNat_of_zero_le h1
            have hX : X < row.length := by rw [HX.out]; omega
            obtain ⟨y, hat⟩ : ∃ y, row[X]? = some y := ⟨_, List.getElem?_eq_getElem hX⟩
            have hC1 := R1.out.cell hat
            have hlk : k < (atK row xs k).length := by rw [atK_len (by omega) (by omega)]; exact hk20
            obtain ⟨z, hz⟩ : ∃ z, (atK row xs k)[k]? = some z := ⟨_, List.getElem?_eq_getElem hlk⟩
            have hC2 := R4.out.cell hz
            have hF2 := R4.out.frozen k
            have HS := Lib.hid (atK_set (row := row) (y := y) Hx.out hk20 h1 hat)
            have HB2 : Hid (ixB (xs.take (k + 1)) = true) := Lib.hid (by
              unfold ixB
              rw [List.take_add_one, Hx.out, List.all_append]
              have := HB.out
              unfold ixB at this
              rw [this]
              simp; omega)
            have hn1 : ¬ (X : Int) < 0 := by omega
            have hn2 : ¬ (20 : Int) ≤ (X : Int) := by omega
            clear hat hz hX hlk
            go_wp2
            go_roundw
            case rel => exact ⟨k + 1, by omega, by go_num, HB2, by rw [← HS.out]; exact R4.out.set _ _, R1.out.other (heap_setCell_other _ _ _ _ (by show w.heap.size ≠ w.heap.size + 1 + 1; omega)), R2.out.other (heap_setCell_other _ _ _ _ (by show w.heap.size + 1 ≠ w.heap.size + 1 + 1; omega)), by (repeat' (first | (with_reducible exact Below.refl _ _) | (with_reducible assumption) | (with_reducible refine Below.drew ?_) | (with_reducible refine belowDrewN ?_ _) | (with_reducible refine Below.alloc ?_ ?_ _) | (with_reducible refine Below.setCell ?_ ?_ _) | (with_reducible refine belowStep (by assumption) ?_ ?_) | (with_reducible exact Below.size (by assumption)) | go_size)), by simpa using hzr⟩
            case measure => simp [intOf]; omega
          · have hn1 : ¬ x < 0 := by omega
            have hn2 : (20 : Int) ≤ x := by omega
            have E : Hid (atB xs = false) := Lib.hid (by
              cases hb : atB xs with
              | false => rfl
              | true =>
                unfold atB ixB at hb
                simp only [Bool.and_eq_true, decide_eq_true_eq] at hb
                have := List.all_eq_true.1 hb.2 x (List.mem_of_getElem? Hx.out)
                simp at this
                omega)
            go_wp2_with (first | (with_reducible show wpList _ _ _ _ _ _; refine step_buildR (o := ⟨some 27, _, _, _, _, _⟩) rfl rfl ?_) | (with_reducible show wpList _ _ _ _ _ _; refine step_storeR (w.heap.size + 1) (zr) R2.out rfl (.tmp 4) (.tmp 27) rfl rfl rfl rfl ?_; intro w7 hR7 hb7 hz7 hn7))
            (try simp only [Exit.inBlock, Exit.then])
            refine bodyPost_ret (results_rowB rfl _ (w.heap.size + 1) zr rfl hR7) rfl ?_
            rw [E.out, atV_no E.out]
            exact ⟨rfl, by (repeat' (first | (with_reducible exact Below.refl _ _) | (with_reducible assumption) | (with_reducible refine Below.drew ?_) | (with_reducible refine belowDrewN ?_ _) | (with_reducible refine Below.alloc ?_ ?_ _) | (with_reducible refine Below.setCell ?_ ?_ _) | (with_reducible refine belowStep (by assumption) ?_ ?_) | (with_reducible exact Below.size (by assumption)) | go_size))⟩
        · have hn1 : x < 0 := by omega
          have E : Hid (atB xs = false) := Lib.hid (by
            cases hb : atB xs with
            | false => rfl
            | true =>
              unfold atB ixB at hb
              simp only [Bool.and_eq_true, decide_eq_true_eq] at hb
              have := List.all_eq_true.1 hb.2 x (List.mem_of_getElem? Hx.out)
              simp at this
              omega)
          go_wp2_with (first | (with_reducible show wpList _ _ _ _ _ _; refine step_buildR (o := ⟨some 27, _, _, _, _, _⟩) rfl rfl ?_) | (with_reducible show wpList _ _ _ _ _ _; refine step_storeR (w.heap.size + 1) (zr) R2.out rfl (.tmp 4) (.tmp 27) rfl rfl rfl rfl ?_; intro w7 hR7 hb7 hz7 hn7))
          (try simp only [Exit.inBlock, Exit.then])
          refine bodyPost_ret (results_rowB rfl _ (w.heap.size + 1) zr rfl hR7) rfl ?_
          rw [E.out, atV_no E.out]
          exact ⟨rfl, by (repeat' (first | (with_reducible exact Below.refl _ _) | (with_reducible assumption) | (with_reducible refine Below.drew ?_) | (with_reducible refine belowDrewN ?_ _) | (with_reducible refine Below.alloc ?_ ?_ _) | (with_reducible refine Below.setCell ?_ ?_ _) | (with_reducible refine belowStep (by assumption) ?_ ?_) | (with_reducible exact Below.size (by assumption)) | go_size))⟩
      · obtain rfl : k = xs.length := by omega
        have E : Hid (atB xs = true) := Lib.hid (by
          have := HB.out
          rw [List.take_length] at this
          unfold atB
          rw [this, decide_eq_true hl]; rfl)
        rw [atK_all] at R4
        go_wp2_with (first | (with_reducible show wpList _ _ _ _ _ _; refine step_loadR (w.heap.size + 1 + 1) (atR row (natL xs)) R4.out (.tmp 6) (o := ⟨some 34, _, _, _, _, _⟩) rfl rfl rfl ?_) | (with_reducible show wpList _ _ _ _ _ _; refine step_storeR (w.heap.size + 1) (atR row (natL xs)) R2.out (atR_len (by rw [natL_len]; exact hl)) (.tmp 4) (.tmp 34) rfl rfl rfl rfl ?_; intro w7 hR7 hb7 hz7 hn7))
        (try simp only [Exit.inBlock, Exit.then])
        refine bodyPost_ret (results_rowB rfl _ (w.heap.size + 1) _ rfl hR7) rfl ?_
        rw [E.out, atV_yes E.out]
        exact ⟨rfl, by (repeat' (first | (with_reducible exact Below.refl _ _) | (with_reducible assumption) | (with_reducible refine Below.drew ?_) | (with_reducible refine belowDrewN ?_ _) | (with_reducible refine Below.alloc ?_ ?_ _) | (with_reducible refine Below.setCell ?_ ?_ _) | (with_reducible refine belowStep (by assumption) ?_ ?_) | (with_reducible exact Below.size (by assumption)) | go_size))⟩
  · have hli : (20 : Int) < (xs.length : Int) := by omega
    have E : Hid (atB xs = false) := Lib.hid (by unfold atB; rw [decide_eq_false hl]; rfl)
    go_enter Try.func48, Try.ntmps48
    go_wp2_with (first | (with_reducible show wpList _ _ _ _ _ _; refine step_boxR row HX.out _ (o := ⟨some 2, _, _, _, _, _⟩) rfl rfl rfl ?_; intro w1 hR1 hb1 hz1) | (with_reducible show wpList _ _ _ _ _ _; refine step_allocR (o := ⟨some 4, _, _, _, _, _⟩) rfl rfl ?_; intro w2 hR2 hb2 hz2) | (with_reducible show wpList _ _ _ _ _ _; refine step_buildR (o := ⟨some 9, _, _, _, _, _⟩) rfl rfl ?_) | (with_reducible show wpList _ _ _ _ _ _; refine step_allocR (o := ⟨some 6, _, _, _, _, _⟩) rfl rfl ?_; intro w3 hR3 hb3 hz3) | (with_reducible show wpList _ _ _ _ _ _; refine step_storeR (w2.heap.size) (zr) hR3 rfl (.tmp 6) (.tmp 9) rfl rfl rfl rfl ?_; intro w4 hR4 hb4 hz4 hn4) | (with_reducible show wpList _ _ _ _ _ _; refine step_buildR (o := ⟨some 13, _, _, _, _, _⟩) rfl rfl ?_) | (have hR2' : RowAt w4 (w.heap.size + 1) zr := (by have := (hR2.belowB hb3 (by omega)).belowB hb4 (by omega); rwa [hz1] at this); (with_reducible show wpList _ _ _ _ _ _; refine step_storeR (w.heap.size + 1) (zr) hR2' rfl (.tmp 4) (.tmp 13) rfl rfl rfl rfl ?_; intro w5 hR5 hb5 hz5 hn5)))
    (try simp only [Exit.inBlock, Exit.then])
    refine bodyPost_ret (results_rowB rfl _ (w.heap.size + 1) zr rfl hR5) rfl ?_
    rw [E.out, atV_no E.out]
    exact ⟨rfl, by (repeat' (first | (with_reducible exact Below.refl _ _) | (with_reducible assumption) | (with_reducible refine Below.drew ?_) | (with_reducible refine belowDrewN ?_ _) | (with_reducible refine Below.alloc ?_ ?_ _) | (with_reducible refine Below.setCell ?_ ?_ _) | (with_reducible refine belowStep (by assumption) ?_ ?_) | (with_reducible exact Below.size (by assumption)) | go_size))⟩
end Go.Proofs.Ythkchhjidihkpaa
