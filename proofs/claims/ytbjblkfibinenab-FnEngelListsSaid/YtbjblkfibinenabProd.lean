
/-
  Contracts of the program's test of a list that rises or does not fall, and of its products.
-/
import Derived.Test.YtbjblkfibinenabIfExp
import Derived.Test.YtbjblkfibinenabProdP
import Derived.Test.YtbjblkfibinenabRis
namespace Go.Proofs.Ytbjblkfibinenab
open Go.RowKit
/-- what the program's products are: none at all if one is too great -/
def prodB (xs : List Int) : Bool := (prodL 1 xs).isSome
def prodQ (xs : List Int) : List Int := (prodL 1 xs).getD []
theorem prod_some {xs ps : List Int} (h : prodL 1 xs = some ps) : prodB xs = true ∧ prodQ xs = ps := by simp [prodB, prodQ, h]
theorem prod_none {xs : List Int} (h : prodL 1 xs = none) : prodB xs = false ∧ prodQ xs = [] := by simp [prodB, prodQ, h]
set_option maxRecDepth 100000 in
set_option maxHeartbeats 4000000 in
theorem products_any (w : World) (Axs : Option Addr) (cxs : Nat) (xs : List Int) (hxs : Reads w Axs xs) (lxs : xs.length ≤ 1048576) (hin : ∀ x ∈ xs, 1 ≤ x ∧ x ≤ 1000000000) (hl : xs.length ≤ 24) : Calls Try.prog 42 #[.slice Axs xs.length cxs] w (RetLB (prodQ xs) (prodB xs) w) := by
  have Hxs := Lib.hid hxs
  have Hin := Lib.hid hin
  clear hxs hin
  obtain ⟨i0, hi, hz0, hz1, hz2⟩ := info_parts intInfo
  go_enter Try.func42, Try.ntmps42
  go_wp2_with (at_make; refine wpList_make_full _ rfl _ _ 24 rfl w.heap.size 3 i0 (.int .i64 0) 1 Try.underlying24 hi hz0 hz1 .i64 .i64 _ _ xs.length rfl rfl rfl rfl (by rw [hz2]; omega) (by unfold maxLen; omega) (Nat.le_refl _) ?_; intro w1 hown1 hgrow1)
  have hown : OwnI w1 w.heap.size (.slice (some ⟨w.heap.size, 0, none⟩) xs.length xs.length) ([] ++ List.replicate (xs.length - 0) 0) := by
    unfold OwnI
    rw [List.nil_append, Nat.sub_zero, List.length_replicate, List.map_replicate]
    rw [show (Value.int IntKind.i64 0).cells = #[Value.int IntKind.i64 0] from rfl, Nat.mul_one, toList_madeCells_one] at hown1
    exact hown1
  have hb1 : Below w.heap.size w w1 := (Below.refl _ _).grown hgrow1 (Nat.le_refl _) (by simp)
  clear hown1 hgrow1
  go_loopw [5, 13] (fun v5 v13 wr => ∃ (k : Nat) (p : Int) (qs : List Int), k ≤ xs.length ∧ v5 = .int .i64 p ∧ v13 = .int .i64 k ∧ 1 ≤ p ∧ p ≤ 1000000000 ∧ qs.length = k ∧ prodL 1 xs = (prodL p (xs.drop k)).map (qs ++ ·) ∧ OwnI wr w.heap.size (.slice (some ⟨w.heap.size, 0, none⟩) xs.length xs.length) (qs ++ List.replicate (xs.length - k) 0) ∧ Below w.heap.size w wr) (fun _ v13 _ => xs.length - (intOf v13).toNat)
  case atStart => exact ⟨0, 1, [], Nat.zero_le _, rfl, rfl, by omega, by omega, rfl, by cases h : prodL 1 xs <;> simp [h], hown, hb1⟩
  case round =>
    obtain ⟨k, p, qs, hk, rfl, rfl, p1, p2, hql, hr, ho, hbr⟩ := hrel
    have Hr := Lib.hid hr
    clear hr
    by_cases hlt : k < xs.length
    · obtain ⟨b, o, x, rfl, hb, hx, hcell⟩ := (Hxs.out.below hbr).at_ hlt
      obtain ⟨x1, x2⟩ := Hin.out x (List.mem_of_getElem? hx)
      have hlen : (qs ++ List.replicate (xs.length - k) (0 : Int)).length = xs.length := by simp; omega
      have hat : (qs ++ List.replicate (xs.length - k) (0 : Int))[k]? = some 0 := by
        rw [List.getElem?_append_right (by omega), hql, Nat.sub_self, List.getElem?_replicate, if_pos (by omega)]
      obtain ⟨hC, hF⟩ := ho.cell_ hlen.symm hat
      have Ho := Lib.hid ho
      have Hx := Lib.hid hx
      have hm := mul_bounds (a := p) (b := x) (by omega) p2 (by omega) x2
      have hm1 := mul_pos1 p1 x1
      have Hset : Hid ((qs ++ List.replicate (xs.length - k) (0 : Int)).set k (p * x) = (qs ++ [p * x]) ++ List.replicate (xs.length - (k + 1)) 0) := Lib.hid (by
        rw [List.set_append_right _ _ (by omega), hql, Nat.sub_self, show xs.length - k = (xs.length - (k + 1)) + 1 from by omega, List.replicate_succ, List.set_cons_zero, List.append_assoc, List.singleton_append])
      have Hlen := Lib.hid hlen
      clear ho hx hlen hat
      by_cases hle : p * x ≤ 1000000000
      · have Hst := Lib.hid (prodL_yes (xs := xs.drop (k + 1)) hle)
        go_wp2
        go_roundw
        case rel => exact ⟨k + 1, p * x, qs ++ [p * x], by omega, rfl, by go_num, hm1, hle, by simp [hql], by
            rw [Hr.out, drop_at Hx.out, Hst.out, Option.map_map]
            congr 1
            funext z
            simp, by rw [← Hset.out]; exact Ho.out.set_ Hlen.out.symm k (p * x), hbr.setCell (Nat.le_refl _) _⟩
        case measure => simp [intOf]; omega
      · have Hn : Hid (prodL 1 xs = none) := Lib.hid (by rw [Hr.out, drop_at Hx.out, prodL_no hle]; rfl)
        go_wp2
        go_ret2
        rw [(prod_none Hn.out).1, (prod_none Hn.out).2]
        exact ⟨_, rfl, OwnI.empty _ _, by (repeat' (first | (with_reducible exact Below.refl _ _) | (with_reducible assumption) | (with_reducible refine Below.drew ?_) | (with_reducible refine belowDrewN ?_ _) | (with_reducible refine Below.alloc ?_ ?_ _) | (with_reducible refine Below.setCell ?_ ?_ _) | (with_reducible refine belowStep (by assumption) ?_ ?_) | (with_reducible exact Below.size (by assumption)) | go_size))⟩
    · obtain rfl : k = xs.length := by omega
      have Hn : Hid (prodL 1 xs = some qs) := Lib.hid (by rw [Hr.out, drop_all]; simp [prodL])
      rw [Nat.sub_self, List.replicate_zero, List.append_nil] at ho
      have Ho := Lib.hid ho
      clear ho
      go_wp2
      go_ret2
      rw [(prod_some Hn.out).1, (prod_some Hn.out).2]
      exact ⟨_, rfl, Ho.out, hbr⟩
end Go.Proofs.Ytbjblkfibinenab
