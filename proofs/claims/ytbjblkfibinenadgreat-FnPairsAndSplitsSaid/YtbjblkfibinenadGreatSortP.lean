
/-
  Plain facts on sorted lists, and on numbers that are put into a list one by one.
-/
import Derived.Test.YtbjblkfibinenadGreatUnite
namespace Go.Proofs.YtbjblkfibinenadGreat
open Go.RowKit
def srt (xs : List Int) : List Int := xs.mergeSort fun x y => decide (x ≤ y)
theorem srt_perm (xs : List Int) : (srt xs).Perm xs := List.mergeSort_perm _ _
theorem srt_sorted (xs : List Int) : (srt xs).Pairwise (· ≤ ·) := by
  have := List.pairwise_mergeSort (le := fun x y : Int => decide (x ≤ y)) (by intro a b c; simp; omega) (by intro a b; simp; omega) xs
  exact this.imp (by simp)
theorem srt_len (xs : List Int) : (srt xs).length = xs.length := (srt_perm xs).length_eq
theorem srt_mem {xs : List Int} {x : Int} : x ∈ srt xs ↔ x ∈ xs := (srt_perm xs).mem_iff
theorem srt_of {xs ys : List Int} (hp : ys.Perm xs) (hs : ys.Pairwise (· ≤ ·)) : srt xs = ys :=
  List.Perm.eq_of_pairwise (le := (· ≤ ·)) (fun _ _ _ _ h1 h2 => Int.le_antisymm h1 h2) (srt_sorted xs) hs ((srt_perm xs).trans hp.symm)
theorem srt_rising {xs : List Int} (h : Rising xs) : srt xs = xs := srt_of (List.Perm.refl _) (h.imp (fun h => Int.le_of_lt h))
theorem srt_64 {xs : List Int} (h : In64 xs) : In64 (srt xs) := In64.of_mem fun x hx => h.mem x (srt_mem.1 hx)
theorem put_perm {xs : List Int} (hx : Rising xs) {v : Int} (h : v ∉ xs) : (putL xs v).Perm (v :: xs) := by
  rw [put_no hx (fun hb => h ((hasB_iff xs v).1 hb))]
  unfold insAt
  refine List.perm_middle.trans ?_
  rw [List.take_append_drop]
theorem putAll_perm : ∀ (ys : List Int) {xs : List Int}, Rising xs → (xs ++ ys).Nodup → (putAll xs ys).Perm (xs ++ ys)
  | [], xs, _, _ => by simp [putAll]
  | y :: ys, xs, hx, hn => by
    have h1 : ((y :: xs) ++ ys).Nodup := (List.perm_middle (a := y) (l₁ := xs) (l₂ := ys)).nodup_iff.1 hn
    have hy : y ∉ xs := fun h => (List.nodup_cons.1 h1).1 (List.mem_append_left _ h)
    have hp := put_perm hx hy
    have h2 : (putL xs y ++ ys).Nodup := ((hp.append_right ys).nodup_iff).2 h1
    exact (putAll_perm ys (hx.put y) h2).trans ((hp.append_right ys).trans (List.perm_middle (a := y) (l₁ := xs) (l₂ := ys)).symm)
/-- different numbers, put one by one, are the sorted list -/
theorem putAll_srt {ys : List Int} (h : ys.Nodup) : putAll [] ys = srt ys := by
  have hr : Rising (putAll [] ys) := putAll_rising ys List.Pairwise.nil
  exact (srt_of (by simpa using putAll_perm ys (xs := []) List.Pairwise.nil (by simpa using h)) (hr.imp (fun h => Int.le_of_lt h))).symm
/-- the least number first, falling: turned round it rises -/
theorem falling_nodup {xs : List Int} (h : xs.Pairwise (fun a b => b < a)) : xs.Nodup := h.imp (fun h => by omega)
end Go.Proofs.YtbjblkfibinenadGreat
