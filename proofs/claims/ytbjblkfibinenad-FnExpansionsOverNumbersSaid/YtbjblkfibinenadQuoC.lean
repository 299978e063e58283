
/-
  The contract of the quotients by divisors in the program.
-/
import Derived.Test.YtbjblkfibinenadQuoP
import Derived.Test.YtbjblkfibinenadScale
namespace Go.Proofs.Ytbjblkfibinenad
open Go.RowKit
theorem mk_ownQ {w1 : World} {base n : Nat} {v : Value} (h : w1.ownsRow base 3 1 v n (madeCells (Value.int .i64 0).cells (n * 1)).toList) : OwnI w1 base v (List.replicate n 0) := by
  unfold OwnI
  rw [List.map_replicate, List.length_replicate]
  rw [show (Value.int IntKind.i64 0).cells = #[Value.int IntKind.i64 0] from rfl, Nat.mul_one, toList_madeCells_one] at h
  exact h
set_option maxRecDepth 100000 in
set_option maxHeartbeats 4000000 in
theorem quotientsOf_any (w : World) (n : Int) (h0 : 0 ≤ n) (hn : n ≤ 4611686018427387904) (Ads : Option Addr) (cds : Nat) (ds : List Int) (hds : Reads w Ads ds) (lds : ds.length ≤ 1048576) (r64 : In64 ds) : Calls Try.prog 36 #[.int .i64 n, .slice Ads ds.length cds] w (RetLB (qR n ds) (qB n ds) w) := by
  obtain ⟨i0, hi, hj0, hj1, hj2⟩ := info_parts intInfo
  have Hds := Lib.hid hds
  have H64 := Lib.hid r64
  have hql := qL_len n ds
  have HQ := Lib.hid hql
  clear hds r64 hql
  go_enter Try.func36, Try.ntmps36
  go_wp2_with (at_make; refine wpList_make_full _ rfl _ _ 24 rfl w.heap.size 3 i0 (.int .i64 0) 1 Try.underlying24 hi hj0 hj1 .i64 .i64 _ _ ds.length rfl rfl rfl rfl (by rw [hj2]; omega) (by unfold maxLen; omega) (Nat.le_refl _) ?_; intro w4 hown4 hgrow4; have hown := mk_ownQ hown4; have hb4 : Below w.heap.size w w4 := (Below.refl _ _).grown hgrow4 (Nat.le_refl _) (by simp); have hz4 := hb4.size; clear hown4 hgrow4)
  have hf0 : OwnI w4 w.heap.size (.slice (some ⟨w.heap.size, 0, none⟩) ds.length ds.length) (filled (qL n ds) 0) := by
    rw [filled_none, HQ.out]
    exact hown
  have HF0 := Lib.hid hf0
  clear hown hf0
  go_loopw [14] (fun vk wr => ∃ k : Nat, k ≤ ds.length ∧ vk = .int .i64 (k : Int) ∧ Hid (qB n (ds.take k) = true) ∧ OwnI wr w.heap.size (.slice (some ⟨w.heap.size, 0, none⟩) ds.length ds.length) (filled (qL n ds) k) ∧ Below w.heap.size w wr) (fun vk _ => ds.length - (intOf vk).toNat)
  case atStart => exact ⟨0, Nat.zero_le _, rfl, Lib.hid rfl, HF0.out, by (repeat' (first | (with_reducible exact Below.refl _ _) | (with_reducible assumption) | (with_reducible refine Below.drew ?_) | (with_reducible refine belowDrewN ?_ _) | (with_reducible refine Below.alloc ?_ ?_ _) | (with_reducible refine Below.setCell ?_ ?_ _) | (with_reducible refine belowStep (by assumption) ?_ ?_) | (with_reducible exact Below.size (by assumption)) | go_size))⟩
  case round =>
    obtain ⟨k, hk, rfl, HB, ho, hbr⟩ := hrel
    have hzr := hbr.size
    have Ho := Lib.hid ho
    clear ho HF0
    by_cases hlt : k < ds.length
    · obtain ⟨b9, o9, d, rfl, hbb, hx, hcell⟩ := (Hds.out.below hbr).at_ hlt
      obtain ⟨x1, x2⟩ := H64.out k d hx
      have Hx := Lib.hid hx
      clear hx
      by_cases h1 : 1 ≤ d
      · have hd1 : ¬ d < 1 := by omega
        have hdn : d ≠ 0 := by omega
        have ht1 : n.tdiv d = n / d := Int.tdiv_eq_ediv_of_nonneg h0
        have ht2 : n.tmod d = n % d := Int.tmod_eq_emod_of_nonneg h0
        have hq1 := Int.ediv_le_self d h0
        have hq2 := Int.ediv_nonneg h0 (show 0 ≤ d by omega)
        have hr1 := Int.emod_nonneg n hdn
        have hr2 := Int.emod_lt_of_pos n (show 0 < d by omega)
        by_cases hm : n % d = 0
        · have hat := qL_at (n := n) Hx.out
          obtain ⟨hC, hF⟩ := Ho.out.cell_ (by rw [filled_len _ _ (by rw [HQ.out]; omega), HQ.out]) (filled_at (qL n ds) k (by rw [HQ.out]; exact hlt))
          have HS9 := Lib.hid (show OwnI (wr.setCell ⟨w.heap.size, k, none⟩ (.int .i64 (n / d))) w.heap.size (.slice (some ⟨w.heap.size, 0, none⟩) ds.length ds.length) (filled (qL n ds) (k + 1)) from by rw [← filled_set _ _ _ hat]; exact Ho.out.set_ (by rw [filled_len _ _ (by rw [HQ.out]; omega), HQ.out]) k _)
          have HB2 : Hid (qB n (ds.take (k + 1)) = true) := Lib.hid (by
            refine qB_of fun y hy => ?_
            rw [List.take_add_one, Hx.out] at hy
            rcases List.mem_append.1 hy with hy | hy
            · exact qB_mem HB.out hy
            · obtain rfl : y = d := by simpa using hy
              exact ⟨h1, hm⟩)
          have hmb : (n % d != 0) = false := by simp [hm]
          rw [hm] at ht2 hr1 hr2
          clear hat hm hmb
          generalize n / d = q at *
          go_wp2
          go_roundw
          case rel => exact ⟨k + 1, by omega, by go_num, HB2, HS9.out, by (repeat' (first | (with_reducible exact Below.refl _ _) | (with_reducible assumption) | (with_reducible refine Below.drew ?_) | (with_reducible refine belowDrewN ?_ _) | (with_reducible refine Below.alloc ?_ ?_ _) | (with_reducible refine Below.setCell ?_ ?_ _) | (with_reducible refine belowStep (by assumption) ?_ ?_) | (with_reducible exact Below.size (by assumption)) | go_size))⟩
          case measure => simp [intOf]; omega
        · have E : Hid (qB n ds = false) := Lib.hid (qB_no Hx.out (fun e => hm e.2))
          generalize n % d = r at *
          have hmb : (r != 0) = true := by simp [hm]
          go_wp2
          go_ret2
          rw [E.out, qR_no E.out]
          exact ⟨_, rfl, OwnI.empty _ _, by (repeat' (first | (with_reducible exact Below.refl _ _) | (with_reducible assumption) | (with_reducible refine Below.drew ?_) | (with_reducible refine belowDrewN ?_ _) | (with_reducible refine Below.alloc ?_ ?_ _) | (with_reducible refine Below.setCell ?_ ?_ _) | (with_reducible refine belowStep (by assumption) ?_ ?_) | (with_reducible exact Below.size (by assumption)) | go_size))⟩
      · have hd1 : d < 1 := by omega
        have E : Hid (qB n ds = false) := Lib.hid (qB_no Hx.out (fun e => h1 e.1))
        go_wp2
        go_ret2
        rw [E.out, qR_no E.out]
        exact ⟨_, rfl, OwnI.empty _ _, by (repeat' (first | (with_reducible exact Below.refl _ _) | (with_reducible assumption) | (with_reducible refine Below.drew ?_) | (with_reducible refine belowDrewN ?_ _) | (with_reducible refine Below.alloc ?_ ?_ _) | (with_reducible refine Below.setCell ?_ ?_ _) | (with_reducible refine belowStep (by assumption) ?_ ?_) | (with_reducible exact Below.size (by assumption)) | go_size))⟩
    · obtain rfl : k = ds.length := by omega
      have E : Hid (qB n ds = true) := Lib.hid (by have := HB.out; rwa [List.take_length] at this)
      have ho := Ho.out
      rw [show ds.length = (qL n ds).length from HQ.out.symm, filled_all] at ho
      have O7 := Lib.hid ho
      clear Ho ho
      go_wp2
      go_ret2
      rw [E.out, qR_yes E.out]
      exact ⟨_, rfl, by rw [HQ.out] at O7; exact O7.out, by (repeat' (first | (with_reducible exact Below.refl _ _) | (with_reducible assumption) | (with_reducible refine Below.drew ?_) | (with_reducible refine belowDrewN ?_ _) | (with_reducible refine Below.alloc ?_ ?_ _) | (with_reducible refine Below.setCell ?_ ?_ _) | (with_reducible refine belowStep (by assumption) ?_ ?_) | (with_reducible exact Below.size (by assumption)) | go_size))⟩
end Go.Proofs.Ytbjblkfibinenad
