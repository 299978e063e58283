
/-
  Contracts of indices of a list: the test of one, and the list without some.
-/
import Derived.Test.YtbjblkfibinenacLists
import Derived.Test.YtbjblkfibinenacHas
namespace Go.Proofs.Ytbjblkfibinenac
open Go.RowKit
/-- the list without the numbers at the indices ls, the first one's index being k -/
def keepL (ls : List Int) : Nat → List Int → List Int
  | _, [] => []
  | k, x :: xs => if hasB ls k = true then keepL ls (k + 1) xs else x :: keepL ls (k + 1) xs
theorem keep_snoc (ls : List Int) (x : Int) : ∀ (ys : List Int) (k : Nat), keepL ls k (ys ++ [x]) = keepL ls k ys ++ (if hasB ls (k + ys.length : Nat) = true then [] else [x])
  | [], k => by simp [keepL]
  | y :: ys, k => by
    rw [List.cons_append, keepL, keepL, keep_snoc ls x ys (k + 1), show k + 1 + ys.length = k + (y :: ys).length by simp; omega]
    split <;> simp
theorem keep_len (ls : List Int) : ∀ (ys : List Int) (k : Nat), (keepL ls k ys).length ≤ ys.length
  | [], k => by simp [keepL]
  | y :: ys, k => by
    rw [keepL]
    have := keep_len ls ys (k + 1)
    split <;> simp <;> omega
theorem keep_mem (ls : List Int) : ∀ (ys : List Int) (k : Nat) (x : Int), x ∈ keepL ls k ys → x ∈ ys
  | [], k, x, h => by simp [keepL] at h
  | y :: ys, k, x, h => by
    rw [keepL] at h
    split at h
    · exact List.mem_cons_of_mem _ (keep_mem ls ys _ x h)
    · rcases List.mem_cons.1 h with rfl | h
      · exact List.mem_cons_self
      · exact List.mem_cons_of_mem _ (keep_mem ls ys _ x h)
theorem keep_take {xs ls : List Int} {k : Nat} {x : Int} (h : xs[k]? = some x) : keepL ls 0 (xs.take (k + 1)) = keepL ls 0 (xs.take k) ++ (if hasB ls k = true then [] else [x]) := by
  have hk : k < xs.length := (List.getElem?_eq_some_iff.1 h).1
  rw [List.take_succ_eq_append_getElem hk, (List.getElem?_eq_some_iff.1 h).2, keep_snoc]
  simp [List.length_take, Nat.min_eq_left (Nat.le_of_lt hk)]
/-- nothing is left out from an index on that is greater than all of these -/
theorem keep_all (ls : List Int) : ∀ (ys : List Int) (k : Nat), (∀ l ∈ ls, l < k) → keepL ls k ys = ys
  | [], k, _ => rfl
  | y :: ys, k, h => by
    rw [keepL, if_neg (fun e => by have := h _ ((hasB_iff _ _).1 e); omega), keep_all ls ys (k + 1) (fun l hl => by have := h l hl; omega)]
theorem keep_one (i : Nat) : ∀ (ys : List Int) (k : Nat), keepL [((k + i : Nat) : Int)] k ys = ys.take i ++ ys.drop (i + 1)
  | [], k => by simp [keepL]
  | y :: ys, k => by
    cases i with
    | zero =>
      rw [keepL, if_pos (by simp [hasB]), keep_all _ _ _ (by simp; omega)]
      simp
    | succ i =>
      have := keep_one i ys (k + 1)
      rw [show k + 1 + i = k + (i + 1) by omega] at this
      rw [keepL, if_neg (by simp [hasB]; omega), this]
      simp
theorem keep_at (ys : List Int) (i : Nat) : keepL [(i : Int)] 0 ys = ys.take i ++ ys.drop (i + 1) := by
  have := keep_one i ys 0
  rwa [Nat.zero_add] at this

theorem isIndex_yes (w : World) (i : Int) (A : Option Addr) (n c : Nat) (h1 : 0 ≤ i) (h2 : i < n) (_ : n ≤ 1048576) :
    Calls Try.prog 118 #[.slice A n c, .int .i64 i] w (RetQ (.bool true) w) := by
  go_enter Try.func118, Try.ntmps118
  go_wp2
  go_ret
  exact ⟨rfl, 0, rfl⟩
theorem isIndex_no (w : World) (i : Int) (A : Option Addr) (n c : Nat) (h : ¬ (0 ≤ i ∧ i < n)) (_ : n ≤ 1048576) :
    Calls Try.prog 118 #[.slice A n c, .int .i64 i] w (RetQ (.bool false) w) := by
  by_cases h1 : 0 ≤ i
  · have h2 : ¬ i < n := by omega
    clear h
    go_enter Try.func118, Try.ntmps118
    go_wp2
    go_ret
    exact ⟨ret_bool (by first | (simp; done) | (simp; omega)), 0, rfl⟩
  · clear h
    go_enter Try.func118, Try.ntmps118
    go_wp2
    go_ret
    exact ⟨ret_bool (by first | (simp; done) | (simp; omega)), 0, rfl⟩

set_option maxHeartbeats 2000000 in
theorem without_any (w : World) (Axs : Option Addr) (cxs : Nat) (xs : List Int) (hxs : Reads w Axs xs) (lxs : xs.length ≤ 1048576) (Als : Option Addr) (cls : Nat) (ls : List Int) (hls : Reads w Als ls) (lls : ls.length ≤ 1048576) : Calls Try.prog 120 #[.slice Axs xs.length cxs, .slice Als ls.length cls] w (RetL (keepL ls 0 xs) w) := by
  have Hxs := Lib.hid hxs
  have Hls := Lib.hid hls
  clear hxs hls
  go_enter Try.func120, Try.ntmps120
  go_wp2
  go_loopw [5, 11] (fun v5 v11 wr => ∃ k : Nat, k ≤ xs.length ∧ v11 = .int .i64 k ∧ OwnI wr w.heap.size v5 (keepL ls 0 (xs.take k)) ∧ Below w.heap.size w wr) (fun _ v11 _ => xs.length - (intOf v11).toNat)
  case atStart => exact ⟨0, Nat.zero_le _, rfl, OwnI.zero _ _ (Nat.le_refl _), by (repeat' (first | (with_reducible exact Below.refl _ _) | (with_reducible assumption) | (with_reducible refine Below.drew ?_) | (with_reducible refine belowDrewN ?_ _) | (with_reducible refine Below.alloc ?_ ?_ _) | (with_reducible refine Below.setCell ?_ ?_ _) | (with_reducible refine belowStep (by assumption) ?_ ?_) | (with_reducible exact Below.size (by assumption)) | go_size))⟩
  case round =>
    obtain ⟨k, hk, rfl, ho, hbr⟩ := hrel
    by_cases hlt : k < xs.length
    · obtain ⟨b, o, x, rfl, hb, hx, hcell⟩ := (Hxs.out.below hbr).at_ hlt
      have Hkt := Lib.hid (keep_take (ls := ls) hx)
      have hkl := keep_len ls (xs.take k) 0
      have hkl2 : (xs.take k).length ≤ k := List.length_take_le _ _
      generalize keepL ls 0 (xs.take k) = ys at *
      have Ho := Lib.hid ho
      have hsz := hbr.size
      clear ho hx
      cases hin : hasB ls k with
      | true =>
        go_wp2_with fail
        refine (contains_any _ _ _ _ _ (Hls.out.below (by (repeat' (first | (with_reducible exact Below.refl _ _) | (with_reducible assumption) | (with_reducible refine Below.drew ?_) | (with_reducible refine belowDrewN ?_ _) | (with_reducible refine Below.alloc ?_ ?_ _) | (with_reducible refine Below.setCell ?_ ?_ _) | (with_reducible refine belowStep (by assumption) ?_ ?_) | (with_reducible exact Below.size (by assumption)) | go_size)))) lls).mono ?_; rintro e w1 ⟨rfl, k1, rfl⟩
        go_wp2
        go_roundw
        case rel => exact ⟨k + 1, by omega, by go_num, by rw [Hkt.out, hin]; simpa using Ho.out.drewN k1, by (repeat' (first | (with_reducible exact Below.refl _ _) | (with_reducible assumption) | (with_reducible refine Below.drew ?_) | (with_reducible refine belowDrewN ?_ _) | (with_reducible refine Below.alloc ?_ ?_ _) | (with_reducible refine Below.setCell ?_ ?_ _) | (with_reducible refine belowStep (by assumption) ?_ ?_) | (with_reducible exact Below.size (by assumption)) | go_size))⟩
        case measure => simp [intOf]; omega
      | false =>
        go_wp2_with fail
        refine (contains_any _ _ _ _ _ (Hls.out.below (by (repeat' (first | (with_reducible exact Below.refl _ _) | (with_reducible assumption) | (with_reducible refine Below.drew ?_) | (with_reducible refine belowDrewN ?_ _) | (with_reducible refine Below.alloc ?_ ?_ _) | (with_reducible refine Below.setCell ?_ ?_ _) | (with_reducible refine belowStep (by assumption) ?_ ?_) | (with_reducible exact Below.size (by assumption)) | go_size)))) lls).mono ?_; rintro e w1 ⟨rfl, k1, rfl⟩
        go_wp2_with (at_builtin; refine wpList_app _ rfl _ _ rfl rfl (OwnI.below (Ho.out.drewN k1) ((Below.refl _ _).alloc (Nat.le_refl _) _)) 1 1 rfl rfl (Reads.one _ x) (by rw [List.length_singleton]; omega) (by simp; omega) ?_; intro v3 w3 ho3 hb3 hg3 ht3; clear hg3 ht3)
        go_roundw
        case rel => exact ⟨k + 1, by omega, by go_num, by rw [Hkt.out, hin]; simpa using ho3, by (repeat' (first | (with_reducible exact Below.refl _ _) | (with_reducible assumption) | (with_reducible refine Below.drew ?_) | (with_reducible refine belowDrewN ?_ _) | (with_reducible refine Below.alloc ?_ ?_ _) | (with_reducible refine Below.setCell ?_ ?_ _) | (with_reducible refine belowStep (by assumption) ?_ ?_) | (with_reducible exact Below.size (by assumption)) | go_size))⟩
        case measure => simp [intOf]; omega
    · obtain rfl : k = xs.length := by omega
      rw [List.take_length] at ho
      have Ho := Lib.hid ho
      clear ho
      go_wp2
      go_ret
      exact ⟨_, rfl, Ho.out, hbr⟩
end Go.Proofs.Ytbjblkfibinenac
