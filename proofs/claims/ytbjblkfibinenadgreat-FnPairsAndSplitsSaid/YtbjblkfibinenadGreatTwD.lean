
/-
  The contracts of the library's Delete at a list of the call's own, and of the two functions that say what replaces a number.
-/
import Derived.Test.YtbjblkfibinenadGreatShelf
import Derived.Test.YtbjblkfibinenadGreatTwR
import Derived.Test.YtbjblkfibinenadGreatExpBy
import Derived.Lib.OwnBridge
namespace Go.Proofs.YtbjblkfibinenadGreat
open Go.RowKit
open Go.Lib in
theorem delete_own (w : World) (base : Nat) (v : Value) (xs : List Int) (ho : OwnI w base v xs) (h0 : xs ≠ []) (i j : Nat) (hij : i ≤ j) (hj : j ≤ xs.length) : Calls Tryz.prog 137 #[v, .int .i64 i, .int .i64 j] w (fun e w' => ∃ v', e = .returned v' ∧ OwnI w' base v' (xs.take i ++ xs.drop j) ∧ w.grownBy w' v.ownBlock) := by
  have ho' := ho
  rcases ho.2 with ⟨_, hz⟩ | ⟨g, cap, cur, rfl, hbg, hg, hnc, hcm, hcs, ht⟩
  · exact absurd (List.eq_nil_of_length_eq_zero hz) h0
  · have hH := holds_of_blockI (ss := xs) hg (by simpa using ht)
    refine (Tryz.slices_Delete_int g 0 cap i j xs w hH hnc (by simpa [maxLen] using hcm) hij hj).mono ?_
    rintro e w' ⟨rfl, q, rfl⟩
    have hy : (xs.take i ++ xs.drop j ++ List.replicate (j - i) 0).length = xs.length := by
      rw [List.length_append, List.length_append, List.length_take, List.length_drop, List.length_replicate]; omega
    have hk : (xs.take i ++ xs.drop j).length = xs.length - (j - i) := by rw [List.length_append, List.length_take, List.length_drop]; omega
    have := ownsRow_putRow (k := xs.length - (j - i)) (q := q) ho' hy (by omega)
    rw [List.take_left' hk] at this
    have hgr := Go.grownBy_sortedI (w := w) (g := g) (n := q) (os := #[]) (xs.take i ++ xs.drop j ++ List.replicate (j - i) 0).toArray
    rw [Go.Sort.grow_empty] at hgr
    refine ⟨_, rfl, ?_, hgr⟩
    unfold OwnI
    rw [hk]
    exact this
/-- of a function that says what replaces a number -/
def RetG (g : Nat × List Int) (w : World) (e : Ending) (w' : World) : Prop := ∃ v, e = .returned (.tuple #[.int .i64 (g.1 : Int), v]) ∧ OwnI w' w.heap.size v g.2 ∧ Below w.heap.size w w'
set_option maxHeartbeats 2000000 in
theorem splitBy_any (w : World) (d : Int) (h1 : 1 ≤ d) (h2 : d ≤ 1000000000) : Calls Tryz.prog 142 #[.int .i64 d] w (RetG (repS d) w) := by
  have p1 : d * (d + 1) ≤ 1000000000 * 1000000001 := Int.mul_le_mul h2 (by omega) (by omega) (by omega)
  have p0 : 0 ≤ d * (d + 1) := Int.mul_nonneg (by omega) (by omega)
  have m1 : IntKind.i64.wrap (d + 1) = d + 1 := IntWalk.i64_in _ (by omega)
  have m2 : IntKind.i64.wrap (d * (d + 1)) = d * (d + 1) := IntWalk.i64_in _ (by omega)
  go_enter Tryz.func142, Tryz.ntmps142
  go_wp2
  go_ret2
  exact ⟨_, rfl, World.ownsRow_lit w #[.int .i64 (d + 1), .int .i64 (d * (d + 1))] 2 (Nat.le_refl _) (by unfold maxLen; omega) rfl, by (repeat' (first | (with_reducible exact Below.refl _ _) | (with_reducible assumption) | (with_reducible refine Below.drew ?_) | (with_reducible refine belowDrewN ?_ _) | (with_reducible refine Below.alloc ?_ ?_ _) | (with_reducible refine Below.setCell ?_ ?_ _) | (with_reducible refine belowStep (by assumption) ?_ ?_) | (with_reducible exact Below.size (by assumption)) | go_size))⟩
set_option maxHeartbeats 2000000 in
theorem pairBy_any (w : World) (d : Int) (h1 : 1 ≤ d) (h2 : d ≤ 1000000000) : Calls Tryz.prog 133 #[.int .i64 d] w (RetG (repP d) w) := by
  have p1 : d * (d + 1) ≤ 1000000000 * 1000000001 := Int.mul_le_mul h2 (by omega) (by omega) (by omega)
  have p0 : 0 ≤ d * (d + 1) := Int.mul_nonneg (by omega) (by omega)
  have m1 : IntKind.i64.wrap (d + 1) = d + 1 := IntWalk.i64_in _ (by omega)
  have m2 : IntKind.i64.wrap (d * (d + 1)) = d * (d + 1) := IntWalk.i64_in _ (by omega)
  have m3 : IntKind.i64.wrap ((d + 1).tdiv 2) = (d + 1) / 2 := by rw [Int.tdiv_eq_ediv_of_nonneg (by omega)]; exact IntWalk.i64_in _ (by omega)
  have m4 : IntKind.i64.wrap ((d * (d + 1)).tdiv 2) = d * (d + 1) / 2 := by rw [Int.tdiv_eq_ediv_of_nonneg p0]; exact IntWalk.i64_in _ (by omega)
  have m5 : IntKind.i64.wrap (d.tdiv 2) = d / 2 := by rw [Int.tdiv_eq_ediv_of_nonneg (by omega)]; exact IntWalk.i64_in _ (by omega)
  have m6 : d.tmod 2 = d % 2 := Int.tmod_eq_emod_of_nonneg (by omega)
  by_cases he : d % 2 = 0
  · have E : Hid (repP d = (2, [d / 2])) := Lib.hid (by unfold repP; rw [if_pos he])
    have he1 : (d % 2 == 0) = true := by simp [he]
    clear he
    go_enter Tryz.func133, Tryz.ntmps133
    go_wp2
    go_ret2
    rw [E.out]
    exact ⟨_, rfl, World.ownsRow_lit w #[.int .i64 (d / 2)] 1 (Nat.le_refl _) (by unfold maxLen; omega) rfl, by (repeat' (first | (with_reducible exact Below.refl _ _) | (with_reducible assumption) | (with_reducible refine Below.drew ?_) | (with_reducible refine belowDrewN ?_ _) | (with_reducible refine Below.alloc ?_ ?_ _) | (with_reducible refine Below.setCell ?_ ?_ _) | (with_reducible refine belowStep (by assumption) ?_ ?_) | (with_reducible exact Below.size (by assumption)) | go_size))⟩
  · have E : Hid (repP d = (2, [(d + 1) / 2, d * (d + 1) / 2])) := Lib.hid (by unfold repP; rw [if_neg he])
    have he1 : (d % 2 == 0) = false := by simp [he]
    clear he
    go_enter Tryz.func133, Tryz.ntmps133
    go_wp2
    go_ret2
    rw [E.out]
    exact ⟨_, rfl, World.ownsRow_lit w #[.int .i64 ((d + 1) / 2), .int .i64 (d * (d + 1) / 2)] 2 (Nat.le_refl _) (by unfold maxLen; omega) rfl, by (repeat' (first | (with_reducible exact Below.refl _ _) | (with_reducible assumption) | (with_reducible refine Below.drew ?_) | (with_reducible refine belowDrewN ?_ _) | (with_reducible refine Below.alloc ?_ ?_ _) | (with_reducible refine Below.setCell ?_ ?_ _) | (with_reducible refine belowStep (by assumption) ?_ ?_) | (with_reducible exact Below.size (by assumption)) | go_size))⟩
end Go.Proofs.YtbjblkfibinenadGreat
