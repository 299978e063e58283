
/-
  The contract of the library's Reverse at a list of the call's own.
-/
import Derived.Test.YthkchhjidihkpaaShelf
import Derived.Test.YthkchhjidihkpaaLists
import Derived.Test.YthkchhjidihkpaaApp
import Derived.Sort.OwnSortedInts
namespace Go.Proofs.Ythkchhjidihkpaa
open Go.RowKit
def RevP (w : World) (base : Nat) (v : Value) (xs : List Int) (e : Ending) (w' : World) : Prop := e = .returned (.tuple #[]) ∧ OwnI w' base v xs.reverse ∧ w.grownBy w' v.ownBlock
set_option maxRecDepth 100000 in
theorem rev_own (w : World) (base : Nat) (v : Value) (xs : List Int) (ho : OwnI w base v xs) (hl : xs.length ≤ 100000) : Calls Try.prog 54 #[v] w (RevP w base v xs) := by
  cases xs with
  | nil =>
    obtain ⟨A, c, rfl, _⟩ := ho.form
    have HO := Lib.hid ho
    clear ho hl
    go_enter Try.func54, Try.ntmps54
    go_wp2
    go_loopw [2, 3] (fun v2 v3 wr => v2 = .int .i64 0 ∧ v3 = .int .i64 (-1) ∧ wr = w) (fun _ _ _ => 0)
    case atStart => exact ⟨rfl, rfl, rfl⟩
    case round =>
      obtain ⟨rfl, rfl, rfl⟩ := hrel
      go_wp2
      go_end0
      exact ⟨rfl, HO.out, World.grownBy.refl _ _⟩
  | cons x xs =>
    have ho' := ho
    rcases ho.2 with ⟨_, hz⟩ | ⟨g, cap, cur, rfl, hbg, hg, hnc, hcm, hcs, ht⟩
    · exact absurd hz (by simp)
    · have hlt := (ho'.block g rfl).2
      have hH := holds_of_blockI (ss := x :: xs) hg (by simpa using ht)
      refine (Try.slices_Reverse_int g 0 cap (x :: xs) w hH (by omega)).mono ?_
      rintro e w' ⟨rfl, n, rfl⟩
      have e : Sort.putRow (Value.int .i64) (Sort.ahead w n) g 0 (x :: xs).reverse.toArray = Sort.grow (Sort.putRow (Value.int .i64) (Sort.ahead w n) g 0 (x :: xs).reverse.toArray) #[] := (Sort.grow_empty _).symm
      rw [e]
      refine ⟨rfl, ?_, grownBy_sortedI _⟩
      have := ownsRow_sortedI (n := n) (os := #[]) (ts := (x :: xs).reverse) (ss := x :: xs) (by simp) hbg hg hnc hcm hcs
      unfold OwnI
      rw [List.length_reverse]
      exact this
end Go.Proofs.Ythkchhjidihkpaa
