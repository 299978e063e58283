
/-
  Contracts of the law's helpers that write marks into a slice and look for them.
-/
import Derived.Test.YtbjblkfibinenadGreatApp
namespace Go.Proofs.YtbjblkfibinenadGreat
open Go.RowKit
/-- k, k + 1, .. -/
def marks : Int → Nat → List Int
  | _, 0 => []
  | k, n + 1 => k :: marks (k + 1) n
theorem marks_len (k : Int) (n : Nat) : (marks k n).length = n := by
  induction n generalizing k with
  | zero => rfl
  | succ n ih => simp [marks, ih]
theorem marks_at (k : Int) (n : Nat) : ∀ (i : Nat), i < n → (marks k n)[i]? = some (k + i) := by
  induction n generalizing k with
  | zero => intro i h; omega
  | succ n ih =>
    intro i h
    cases i with
    | zero => simp [marks]
    | succ i =>
      show (marks (k + 1) n)[i]? = _
      rw [ih (k + 1) i (by omega)]
      congr 1
      omega
/-- a slice of the call's own, its form laid open: nil, or a row from its head on -/
theorem OwnI.cases_ {w : World} {base : Nat} {v : Value} {xs : List Int} (h : OwnI w base v xs) : (v = .slice none 0 0 ∧ xs = []) ∨ ∃ g c, v = .slice (some ⟨g, 0, none⟩) xs.length c ∧ base ≤ g ∧ g < w.heap.size := by
  rcases h.2 with ⟨hv, h0⟩ | ⟨g, cap, cur, hv, hb, _⟩
  · exact .inl ⟨hv, List.eq_nil_of_length_eq_zero h0⟩
  · exact .inr ⟨g, cap, hv, hb, (h.block g (by rw [hv]; rfl)).2⟩

/-- the list after the first j of its numbers have been marked -/
def marked (xs : List Int) (k : Int) (j : Nat) : List Int := marks k j ++ xs.drop j
theorem marked_len (xs : List Int) (k : Int) (j : Nat) (h : j ≤ xs.length) : (marked xs k j).length = xs.length := by simp [marked, marks_len]; omega
theorem marks_snoc (k : Int) (j : Nat) : marks k (j + 1) = marks k j ++ [k + j] := by
  induction j generalizing k with
  | zero => simp [marks]
  | succ j ih =>
    show k :: marks (k + 1) (j + 1) = (k :: marks (k + 1) j) ++ _
    rw [ih (k + 1), List.cons_append]
    congr 3
    omega
theorem marked_set (xs : List Int) (k : Int) (j : Nat) (h : j < xs.length) : (marked xs k j).set j (k + j) = marked xs k (j + 1) := by
  unfold marked
  rw [List.set_append_right _ _ (by rw [marks_len]; exact Nat.le_refl _), marks_len, Nat.sub_self, List.drop_eq_getElem_cons h, List.set_cons_zero, marks_snoc, List.append_assoc, List.singleton_append]
theorem marked_at (xs : List Int) (k : Int) (j : Nat) (h : j < xs.length) : (marked xs k j)[j]? = some xs[j] := by
  unfold marked
  rw [List.getElem?_append_right (by rw [marks_len]; exact Nat.le_refl _), marks_len, Nat.sub_self, List.drop_eq_getElem_cons h]
  rfl
theorem marked_all (xs : List Int) (k : Int) : marked xs k xs.length = marks k xs.length := by simp [marked]

/-- what markIntS leaves: its row turned, and nothing else -/
def Marked (v : Value) (xs : List Int) (base : Nat) (k : Int) (w : World) (e : Ending) (w' : World) : Prop :=
  e = .returned (.int .i64 (k + xs.length)) ∧ OwnI w' base v (marks k xs.length) ∧ w.grownBy w' v.ownBlock

theorem grownSet {a w : World} {g : Nat} {row : Option Nat} (h : a.grownBy w row) (hr : row = some g) (i : Nat) (u : Value) : a.grownBy (w.setCell ⟨g, i, none⟩ u) row :=
  ⟨h.os, h.tape, h.output, by simpa [World.setCell] using h.size, fun k hk hne => (Below.heap_setCell w ⟨g, i, none⟩ u k (fun e => hne (by rw [hr, e]))).trans (h.block k hk hne)⟩

end Go.Proofs.YtbjblkfibinenadGreat
