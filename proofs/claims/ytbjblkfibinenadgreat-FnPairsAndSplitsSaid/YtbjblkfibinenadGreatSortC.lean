
/-
  The contract of the library's sort at a list of the call's own.
-/
import Derived.Test.YtbjblkfibinenadGreatShelf
import Derived.Test.YtbjblkfibinenadGreatSortP
import Derived.Test.YtbjblkfibinenadGreatWalk
import Derived.Sort.OwnSortedInts
namespace Go.Proofs.YtbjblkfibinenadGreat
open Go.RowKit
def SortP (w : World) (base : Nat) (v : Value) (xs : List Int) (e : Ending) (w' : World) : Prop := e = .returned (.tuple #[]) ∧ OwnI w' base v (srt xs) ∧ w.grownBy w' v.ownBlock
theorem sort_own (w : World) (base : Nat) (v : Value) (xs : List Int) (ho : OwnI w base v xs) (h0 : xs ≠ []) (hl : xs.length ≤ 100000) : Calls Tryz.prog 61 #[v] w (SortP w base v xs) := by
  have ho' := ho
  rcases ho.2 with ⟨_, hz⟩ | ⟨g, cap, cur, rfl, hbg, hg, hnc, hcm, hcs, ht⟩
  · exact absurd (List.eq_nil_of_length_eq_zero hz) h0
  · have hlt := (ho'.block g rfl).2
    have hH := holds_of_blockI (ss := xs) hg (by simpa using ht)
    refine (Tryz.slices_Sort_int g 0 cap xs w hH hlt (by omega)).mono ?_
    rintro e w' ⟨rfl, n, os, rfl⟩
    refine ⟨rfl, ?_, grownBy_sortedI _⟩
    have := ownsRow_sortedI (n := n) (os := os) (ts := srt xs) (ss := xs) (srt_len xs) hbg hg hnc hcm hcs
    unfold OwnI
    rw [srt_len]
    exact this
end Go.Proofs.YtbjblkfibinenadGreat
