
/-
  What functions leave that return a list and whether it is told.
-/
import Derived.Test.YtbjblkfibinenadGreatMark
namespace Go.Proofs.YtbjblkfibinenadGreat
open Go.RowKit
/-- of the program: a new slice of the call's own -/
def RetLB (ys : List Int) (b : Bool) (w : World) (e : Ending) (w' : World) : Prop := ∃ v, e = .returned (.tuple #[v, .bool b]) ∧ OwnI w' w.heap.size v ys ∧ Below w.heap.size w w'
/-- of the model: a slice that reads so -/
def RetRB (ys : List Int) (b : Bool) (w : World) (e : Ending) (w' : World) : Prop := ∃ A c, e = .returned (.tuple #[.slice A ys.length c, .bool b]) ∧ Reads w' A ys ∧ Below w.heap.size w w'
def RetR (ys : List Int) (w : World) (e : Ending) (w' : World) : Prop := ∃ A c, e = .returned (.slice A ys.length c) ∧ ys.length ≤ c ∧ Reads w' A ys ∧ Below w.heap.size w w'
section
variable {w w' : World} {base : Nat} {v : Value} {xs ys : List Int}
theorem OwnI.reads {A : Option Addr} {n c : Nat} (h : OwnI w base (.slice A n c) xs) : Reads w A xs ∧ n = xs.length := by
  obtain ⟨A', c', e, hr⟩ := h.form
  injection e with e1 e2 e3
  subst e1
  exact ⟨hr, e2⟩
theorem OwnI.cap_ {A : Option Addr} {n c : Nat} (h : OwnI w base (.slice A n c) xs) : n ≤ c := by
  rcases h.2 with ⟨hv, h0⟩ | ⟨g, cap, cur, hv, _, _, hnc, _⟩
  · injection hv with _ h1 h2; omega
  · injection hv with _ h1 h2; omega
theorem Reads.cutTo {A : Option Addr} (k : Nat) (h : Reads w A xs) : Reads w A (xs.take k) := fun h0 => by
  rw [List.length_take] at h0
  obtain ⟨b, o, rfl, hb, hx⟩ := h (by omega)
  refine ⟨b, o, rfl, hb, fun i x hi => hx i x ?_⟩
  rw [List.getElem?_take] at hi
  split at hi
  · exact hi
  · cases hi
theorem Reads.cutFrom {A : Option Addr} {k c : Nat} (h : Reads w A xs) (hk : k ≤ xs.length) (hc : xs.length ≤ c) : Reads w (if c = k then A else A.map (·.add k)) (xs.drop k) := fun h0 => by
  rw [List.length_drop] at h0
  obtain ⟨b, o, rfl, hb, hx⟩ := h (by omega)
  refine ⟨b, o + k, by rw [if_neg (by omega), Option.map_some, Go.WideShapes.add_plain], hb, fun i x hi => ?_⟩
  rw [List.getElem?_drop] at hi
  rw [Nat.add_assoc]
  exact hx (k + i) x hi
/-- other spellings of the address of a cut -/
theorem Reads.cutA {A : Option Addr} {k c : Nat} (h : Reads w A xs) (hk : k ≤ xs.length) (hc : xs.length ≤ c) (hne : ¬ c = k) : Reads w (A.map (·.add k)) (xs.drop k) := by
  have := h.cutFrom hk hc
  rwa [if_neg hne] at this
theorem Reads.cutS {b o k : Nat} (h : Reads w (some ⟨b, o, none⟩) xs) : Reads w (some ⟨b, o + k, none⟩) (xs.drop k) := fun h0 => by
  rw [List.length_drop] at h0
  obtain ⟨b', o', e, hb, hx⟩ := h (by omega)
  injection e with e
  injection e with e1 e2 _
  subst e1 e2
  refine ⟨b, o + k, rfl, hb, fun i x hi => ?_⟩
  rw [List.getElem?_drop] at hi
  rw [Nat.add_assoc]
  exact hx (k + i) x hi
theorem OwnI.drewN (h : OwnI w base v xs) (k : Nat) : OwnI (w.drewN k) base v xs := h
theorem OwnI.kept_ {v' : Value} (h : OwnI w base v xs) (hg : w.grownBy w' v'.ownBlock) (hlt : ∀ k, v'.ownBlock = some k → k < base) : OwnI w' base v xs := by
  refine World.ownsRow.kept h hg ?_
  cases hv : v.ownBlock with
  | none => exact .inl rfl
  | some k =>
    refine .inr fun e => ?_
    have h1 := (h.block k hv).1
    have h2 := hlt k e.symm
    omega
theorem belowMark {v' : Value} {B : Nat} (hg : w.grownBy w' v'.ownBlock) (hB : B ≤ w.heap.size) (hlt : ∀ k, v'.ownBlock = some k → B ≤ k) : Below B w w' :=
  (Below.refl B w).grown hg hB hlt
theorem OwnI.slice_ {A : Option Addr} {n c : Nat} (h : OwnI w base (.slice A n c) xs) : OwnI w base (.slice A xs.length c) xs := by
  have := h.reads.2
  subst this
  exact h
end
end Go.Proofs.YtbjblkfibinenadGreat
