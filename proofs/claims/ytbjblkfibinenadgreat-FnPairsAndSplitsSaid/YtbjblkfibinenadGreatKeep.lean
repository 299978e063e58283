
/-
  Contracts of indices of a list: the test of one, and the list without some.
-/
import Derived.Test.YtbjblkfibinenadGreatLists
import Derived.Test.YtbjblkfibinenadGreatHas
namespace Go.Proofs.YtbjblkfibinenadGreat
open Go.RowKit
/-- the list without the numbers at the indices ls, the first one's index being k -/
def keepL (ls : List Int) : Nat → List Int → List Int
  | _, [] => []
  | k, x :: xs => if hasB ls k = true then keepL ls (k + 1) xs else x :: keepL ls (k + 1) xs
theorem keep_snoc (ls : List Int) (x : Int) : ∀ (ys : List Int) (k : Nat), keepL ls k (ys ++ [x]) = keepL ls k ys ++ (if hasB ls (k + ys.length : Nat) = true then [] else [x])
  | [], k => by simp [keepL]
  | y :: ys, k => by
    rw [List.cons_append, keepL, keepL, keep_snoc ls x ys (k + 1), show k + 1 + ys.length = k + (y :: ys).length by simp; omega]
    split <;> simp
theorem keep_len (ls : List Int) : ∀ (ys : List Int) (k : Nat), (keepL ls k ys).length ≤ ys.length
  | [], k => by simp [keepL]
  | y :: ys, k => by
    rw [keepL]
    have := keep_len ls ys (k + 1)
    split <;> simp <;> omega
theorem keep_mem (ls : List Int) : ∀ (ys : List Int) (k : Nat) (x : Int), x ∈ keepL ls k ys → x ∈ ys
  | [], k, x, h => by simp [keepL] at h
  | y :: ys, k, x, h => by
    rw [keepL] at h
    split at h
    · exact List.mem_cons_of_mem _ (keep_mem ls ys _ x h)
    · rcases List.mem_cons.1 h with rfl | h
      · exact List.mem_cons_self
      · exact List.mem_cons_of_mem _ (keep_mem ls ys _ x h)
theorem keep_take {xs ls : List Int} {k : Nat} {x : Int} (h : xs[k]? = some x) : keepL ls 0 (xs.take (k + 1)) = keepL ls 0 (xs.take k) ++ (if hasB ls k = true then [] else [x]) := by
  have hk : k < xs.length := (List.getElem?_eq_some_iff.1 h).1
  rw [List.take_succ_eq_append_getElem hk, (List.getElem?_eq_some_iff.1 h).2, keep_snoc]
  simp [List.length_take, Nat.min_eq_left (Nat.le_of_lt hk)]
/-- nothing is left out from an index on that is greater than all of these -/
theorem keep_all (ls : List Int) : ∀ (ys : List Int) (k : Nat), (∀ l ∈ ls, l < k) → keepL ls k ys = ys
  | [], k, _ => rfl
  | y :: ys, k, h => by
    rw [keepL, if_neg (fun e => by have := h _ ((hasB_iff _ _).1 e); omega), keep_all ls ys (k + 1) (fun l hl => by have := h l hl; omega)]
theorem keep_one (i : Nat) : ∀ (ys : List Int) (k : Nat), keepL [((k + i : Nat) : Int)] k ys = ys.take i ++ ys.drop (i + 1)
  | [], k => by simp [keepL]
  | y :: ys, k => by
    cases i with
    | zero =>
      rw [keepL, if_pos (by simp [hasB]), keep_all _ _ _ (by simp; omega)]
      simp
    | succ i =>
      have := keep_one i ys (k + 1)
      rw [show k + 1 + i = k + (i + 1) by omega] at this
      rw [keepL, if_neg (by simp [hasB]; omega), this]
      simp
theorem keep_at (ys : List Int) (i : Nat) : keepL [(i : Int)] 0 ys = ys.take i ++ ys.drop (i + 1) := by
  have := keep_one i ys 0
  rwa [Nat.zero_add] at this

end Go.Proofs.YtbjblkfibinenadGreat
