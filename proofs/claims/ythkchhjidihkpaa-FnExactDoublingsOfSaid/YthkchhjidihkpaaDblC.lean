
/-
  Contracts of rows of doublings in the program.
-/
import Derived.Test.YthkchhjidihkpaaRow
import Derived.Test.YthkchhjidihkpaaMkP
import Derived.Test.YthkchhjidihkpaaGqC
namespace Go.Proofs.Ythkchhjidihkpaa
open Go.RowKit
/-- the first k doublings, and 0 behind them -/
def dbl (a k : Nat) : List Int := (List.range k).map (fun i => ((a * 2 ^ i : Nat) : Int))
def dblR (a k : Nat) : List Int := dbl a k ++ List.replicate (20 - k) 0
theorem dbl_len (a k : Nat) : (dbl a k).length = k := by simp [dbl]
theorem dblR_len {a k : Nat} (h : k ≤ 20) : (dblR a k).length = 20 := by unfold dblR; rw [List.length_append, dbl_len, List.length_replicate]; omega
theorem dblR_set {a k : Nat} (h : k < 20) : (dblR a k).set k ((a * 2 ^ k : Nat) : Int) = dblR a (k + 1) := by
  unfold dblR
  rw [List.set_append_right _ _ (by rw [dbl_len]; exact Nat.le_refl _), dbl_len, Nat.sub_self, show 20 - k = (20 - (k + 1)) + 1 from by omega, List.replicate_succ, List.set_cons_zero]
  unfold dbl
  rw [List.range_succ, List.map_append]
  simp
theorem dblR_at {a k : Nat} (h : k < 20) : (dblR a 20)[k]? = some ((a * 2 ^ k : Nat) : Int) := by
  unfold dblR dbl
  rw [List.getElem?_append_left (by simp; exact h)]
  simp [h]
theorem pow20 {k : Nat} (h : k < 20) : 2 ^ k ≤ 524288 := Nat.le_trans (Nat.pow_le_pow_right (by omega) (show k ≤ 19 by omega)) (by decide)
theorem shl_nat {a k : Nat} (hk : k < 20) (ha : a ≤ 1000000) : a * 2 ^ k ≤ 524288000000 := Nat.le_trans (Nat.mul_le_mul ha (pow20 hk)) (by decide)
set_option maxRecDepth 100000 in
set_option maxHeartbeats 2000000 in
theorem doublingsFrom_any (a : Nat) (w : World) (ha : a ≤ 1000000) : Calls Try.prog 47 #[.int .i64 (a : Int)] w (Ret (rowV (dblR a 20)) w) := by
  go_enter Try.func47, Try.ntmps47
  go_wp2_with (first | (with_reducible show wpList _ _ _ _ _ _; refine step_allocR (o := ⟨some 2, _, _, _, _, _⟩) rfl rfl ?_; intro w1 hR1 hb1 hz1) | (with_reducible show wpList _ _ _ _ _ _; refine step_buildR (o := ⟨some 5, _, _, _, _, _⟩) rfl rfl ?_) | (with_reducible show wpList _ _ _ _ _ _; refine step_allocR (o := ⟨some 3, _, _, _, _, _⟩) rfl rfl ?_; intro w2 hR2 hb2 hz2) | (with_reducible show wpList _ _ _ _ _ _; refine step_storeR (w1.heap.size) (zr) hR2 rfl (.tmp 3) (.tmp 5) rfl rfl rfl rfl ?_; intro w3 hR3 hb3 hz3 hn3))
  have e1 : w1.heap.size = w.heap.size + 1 := hz1
  rw [e1] at hR2 hR3 hb2 hb3 hn3
  have hR1' : RowAt w3 w.heap.size zr := (hR1.belowB hb2 (by omega)).belowB hb3 (by omega)
  have R3 := Lib.hid hR3
  have R1 := Lib.hid hR1'
  clear hR1 hR2 hR3 hR1' hn3
  have hE0 : dblR a 0 = zr := by unfold dblR dbl zr; simp
  rw [← hE0] at R3
  have hz3' : w3.heap.size = w.heap.size + 2 := by omega
  go_loopw [6] (fun v6 wr => ∃ k : Nat, k ≤ 20 ∧ v6 = .int .i64 (k : Int) ∧ RowAt wr (w.heap.size + 1) (dblR a k) ∧ RowAt wr w.heap.size zr ∧ Below w.heap.size w wr ∧ wr.heap.size = w.heap.size + 2) (fun v6 _ => 20 - (intOf v6).toNat)
  case atStart => exact ⟨0, by omega, rfl, R3.out, R1.out, by (repeat' (first | (with_reducible exact Below.refl _ _) | (with_reducible assumption) | (with_reducible refine Below.drew ?_) | (with_reducible refine belowDrewN ?_ _) | (with_reducible refine Below.alloc ?_ ?_ _) | (with_reducible refine Below.setCell ?_ ?_ _) | (with_reducible refine belowStep (by assumption) ?_ ?_) | (with_reducible exact Below.size (by assumption)) | go_size)), hz3'⟩
  case round =>
    obtain ⟨k, hk, rfl, hRr, hRz, hbr, hzr⟩ := hrel
    clear R3 R1
    by_cases hlt : k < 20
    · have hki : (k : Int) < 20 := by omega
      have hki0 : 0 ≤ (k : Int) := by omega
      have hat : (dblR a k)[k]? = some 0 := by
        unfold dblR
        rw [List.getElem?_append_right (by rw [dbl_len]; exact Nat.le_refl _), dbl_len, Nat.sub_self, List.getElem?_replicate, if_pos (by omega)]
      have hC := hRr.cell hat
      have hF := hRr.frozen k
      have hS := shl_nat hlt ha
      have HS := Lib.hid (dblR_set (a := a) hlt)
      have R := Lib.hid hRr
      have Z := Lib.hid hRz
      clear hRr hRz hat
      have p1 : 0 ≤ (a : Int) * 2 ^ k ∧ (a : Int) * 2 ^ k ≤ 524288000000 := by
        rw [show (a : Int) * 2 ^ k = ((a * 2 ^ k : Nat) : Int) from by simp]
        omega
      go_wp2
      go_roundw
      case rel => exact ⟨k + 1, by omega, by go_num, by rw [show (a : Int) * 2 ^ k = ((a * 2 ^ k : Nat) : Int) from by simp, ← HS.out]; exact R.out.set _ _, Z.out.other (heap_setCell_other _ _ _ _ (by show w.heap.size ≠ w.heap.size + 1; omega)), by (repeat' (first | (with_reducible exact Below.refl _ _) | (with_reducible assumption) | (with_reducible refine Below.drew ?_) | (with_reducible refine belowDrewN ?_ _) | (with_reducible refine Below.alloc ?_ ?_ _) | (with_reducible refine Below.setCell ?_ ?_ _) | (with_reducible refine belowStep (by assumption) ?_ ?_) | (with_reducible exact Below.size (by assumption)) | go_size)), by simpa using hzr⟩
      case measure => simp [intOf]; omega
    · obtain rfl : k = 20 := by omega
      have R := Lib.hid hRr
      have Z := Lib.hid hRz
      clear hRr hRz
      go_wp2_with (first | (with_reducible show wpList _ _ _ _ _ _; refine step_loadR (w.heap.size + 1) (dblR a 20) R.out (.tmp 3) (o := ⟨some 15, _, _, _, _, _⟩) rfl rfl rfl ?_) | (with_reducible show wpList _ _ _ _ _ _; refine step_storeR (w.heap.size) (dblR a 20) Z.out (dblR_len (Nat.le_refl _)) (.tmp 2) (.tmp 15) rfl rfl rfl rfl ?_; intro w4 hR4 hb4 hz4 hn4))
      (try simp only [Exit.inBlock, Exit.then])
      refine bodyPost_ret (results_rowR rfl _ w.heap.size (dblR a 20) rfl hR4) rfl ?_
      exact ⟨rfl, by (repeat' (first | (with_reducible exact Below.refl _ _) | (with_reducible assumption) | (with_reducible refine Below.drew ?_) | (with_reducible refine belowDrewN ?_ _) | (with_reducible refine Below.alloc ?_ ?_ _) | (with_reducible refine Below.setCell ?_ ?_ _) | (with_reducible refine belowStep (by assumption) ?_ ?_) | (with_reducible exact Below.size (by assumption)) | go_size))⟩
/-- the sum of a row -/
def sumI : List Int → Int
  | [] => 0
  | x :: xs => x + sumI xs
theorem sumI_append (xs ys : List Int) : sumI (xs ++ ys) = sumI xs + sumI ys := by
  induction xs with
  | nil => simp [sumI]
  | cons x xs ih => simp only [List.cons_append, sumI, ih]; omega
theorem sumI_take {xs : List Int} {k : Nat} {x : Int} (h : xs[k]? = some x) : sumI (xs.take (k + 1)) = sumI (xs.take k) + x := by
  rw [List.take_add_one, h, sumI_append]
  simp [sumI]
theorem sumI_zero (n : Nat) : sumI (List.replicate n 0) = 0 := by
  induction n with
  | zero => rfl
  | succ n ih => rw [List.replicate_succ, sumI, ih]; rfl
theorem sumI_bounds : ∀ {xs : List Int}, (∀ x ∈ xs, 0 ≤ x ∧ x ≤ 1000000000000) → 0 ≤ sumI xs ∧ sumI xs ≤ xs.length * 1000000000000
  | [], _ => by simp [sumI]
  | x :: xs, h => by
    have ih := sumI_bounds (xs := xs) (fun y hy => h y (by simp [hy]))
    have := h x (by simp)
    rw [sumI, List.length_cons]
    omega
set_option maxRecDepth 100000 in
set_option maxHeartbeats 2000000 in
theorem total_any (xs : List Int) (w : World) (hx : xs.length = 20) (hin : ∀ x ∈ xs, 0 ≤ x ∧ x ≤ 1000000000000) : Calls Try.prog 49 #[rowV xs] w (Ret (.int .i64 (sumI xs)) w) := by
  have HX := Lib.hid hx
  have HI := Lib.hid hin
  clear hx hin
  go_enter Try.func49, Try.ntmps49
  go_wp2_with (with_reducible show wpList _ _ _ _ _ _; refine step_boxR xs HX.out _ (o := ⟨some 1, _, _, _, _, _⟩) rfl rfl rfl ?_; intro w1 hR1 hb1 hz1)
  have R1 := Lib.hid hR1
  clear hR1
  go_loopw [3, 5] (fun v3 v5 wr => ∃ k : Nat, k ≤ 20 ∧ v5 = .int .i64 (k : Int) ∧ v3 = .int .i64 (sumI (xs.take k)) ∧ RowAt wr w.heap.size xs ∧ Below w.heap.size w wr) (fun _ v5 _ => 20 - (intOf v5).toNat)
  case atStart => exact ⟨0, by omega, rfl, rfl, R1.out, by (repeat' (first | (with_reducible exact Below.refl _ _) | (with_reducible assumption) | (with_reducible refine Below.drew ?_) | (with_reducible refine belowDrewN ?_ _) | (with_reducible refine Below.alloc ?_ ?_ _) | (with_reducible refine Below.setCell ?_ ?_ _) | (with_reducible refine belowStep (by assumption) ?_ ?_) | (with_reducible exact Below.size (by assumption)) | go_size))⟩
  case round =>
    obtain ⟨k, hk, rfl, rfl, hRr, hbr⟩ := hrel
    have hzr := hbr.size
    clear R1
    by_cases hlt : k < 20
    · have hki : (k : Int) < 20 := by omega
      have hki0 : 0 ≤ (k : Int) := by omega
      have hlx : k < xs.length := by rw [HX.out]; exact hlt
      obtain ⟨x, hat⟩ : ∃ x, xs[k]? = some x := ⟨_, List.getElem?_eq_getElem hlx⟩
      obtain ⟨x1, x2⟩ := HI.out x (List.mem_of_getElem? hat)
      have hC := hRr.cell hat
      have HT := Lib.hid (sumI_take hat)
      obtain ⟨s1, s2⟩ := sumI_bounds (xs := xs.take k) (fun y hy => HI.out y (List.mem_of_mem_take hy))
      have s3 : sumI (xs.take k) ≤ 20000000000000 := by
        have : (xs.take k).length ≤ 20 := by rw [List.length_take]; omega
        omega
      have R := Lib.hid hRr
      clear hRr hat s2 hlx
      generalize sumI (xs.take k) = s at *
      go_wp2
      go_roundw
      case rel => exact ⟨k + 1, by omega, by go_num, by rw [HT.out], R.out, by (repeat' (first | (with_reducible exact Below.refl _ _) | (with_reducible assumption) | (with_reducible refine Below.drew ?_) | (with_reducible refine belowDrewN ?_ _) | (with_reducible refine Below.alloc ?_ ?_ _) | (with_reducible refine Below.setCell ?_ ?_ _) | (with_reducible refine belowStep (by assumption) ?_ ?_) | (with_reducible exact Below.size (by assumption)) | go_size))⟩
      case measure => simp [intOf]; omega
    · obtain rfl : k = 20 := by omega
      have E : Hid (sumI (xs.take 20) = sumI xs) := Lib.hid (by rw [List.take_of_length_le (by rw [HX.out]; exact Nat.le_refl _)])
      clear hRr
      go_wp2
      go_ret
      exact ⟨ret_int E.out, by (repeat' (first | (with_reducible exact Below.refl _ _) | (with_reducible assumption) | (with_reducible refine Below.drew ?_) | (with_reducible refine belowDrewN ?_ _) | (with_reducible refine Below.alloc ?_ ?_ _) | (with_reducible refine Below.setCell ?_ ?_ _) | (with_reducible refine belowStep (by assumption) ?_ ?_) | (with_reducible exact Below.size (by assumption)) | go_size))⟩
end Go.Proofs.Ythkchhjidihkpaa
