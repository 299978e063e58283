
/-
  The contract of the loop that makes steps until nothing is left, for whatever step: what it takes and what it leaves.
-/
import Derived.Test.YtbjblkfibinenaaApp
import Derived.Test.YtbjblkfibinenaaDraw
import Derived.Test.YtbjblkfibinenaaSteps
import Derived.IntWalk
import Derived.Deep.RegionHeld3
namespace Go.Proofs.Ytbjblkfibinenaa
open Go.RowKit
/-- the cells of a list of fractions -/
def fcells (fs : List (Int × Int)) : List Value := fs.flatMap fun p => [.int .i64 p.1, .int .i64 p.2]
theorem fcells_len (fs : List (Int × Int)) : (fcells fs).length = fs.length * 2 := by
  induction fs with
  | nil => rfl
  | cons p fs ih => simp only [fcells, List.flatMap_cons, List.length_append, List.length_cons, List.length_nil] at ih ⊢; omega
theorem fcells_append (fs gs : List (Int × Int)) : fcells (fs ++ gs) = fcells fs ++ fcells gs := by simp [fcells]
/-- a slice of fractions of the call's own -/
def OwnF (w : World) (base : Nat) (v : Value) (fs : List (Int × Int)) : Prop := w.ownsRow base 34 2 v fs.length (fcells fs)
theorem fracInfo : (Try.prog.info? 34).map (fun i => (i.zero, i.size, i.bytes)) = some (some (.agg #[.int .i64 0, .int .i64 0]), 2, 16) := by kernel_rfl
section
variable {w w' : World} {base : Nat} {v : Value} {xs : List Int} {fs : List (Int × Int)}
theorem OwnF.block (h : OwnF w base v fs) : ∀ k, v.ownBlock = some k → base ≤ k ∧ k < w.heap.size := World.ownsRow.lt h
theorem OwnF.below (h : OwnF w base v fs) (hb : Below w.heap.size w w') : OwnF w' base v fs := by
  refine ⟨h.1, ?_⟩
  rcases h.2 with h0 | ⟨g, cap, cur, hv, hbg, hg, r⟩
  · exact .inl h0
  · refine .inr ⟨g, cap, cur, hv, hbg, ?_, r⟩
    have hlt := (World.ownsRow.lt h g (by rw [hv]; rfl)).2
    rw [hb.block g hlt]
    exact hg
/-- the two slices lie in different blocks -/
theorem own_apart {v2 : Value} (h : OwnF w base v fs) (h2 : OwnI w base v2 xs) : v.ownBlock = none ∨ v.ownBlock ≠ v2.ownBlock := by
  rcases h.2 with ⟨rfl, _⟩ | ⟨g, cap, cur, rfl, _, hg, _⟩
  · exact .inl rfl
  · refine .inr fun e => ?_
    rcases h2.2 with ⟨rfl, _⟩ | ⟨g2, cap2, cur2, rfl, _, hg2, _⟩
    · simp [Value.ownBlock] at e
    · simp only [Value.ownBlock, Option.some.injEq] at e
      subst e
      rw [hg] at hg2
      simp at hg2
theorem OwnF.kept (h : OwnF w base v fs) {v2 : Value} (h2 : OwnI w base v2 xs) (hg : w.grownBy w' v2.ownBlock) : OwnF w' base v fs := World.ownsRow.kept h hg (own_apart h h2)
theorem OwnI.keptF {v2 : Value} (h2 : OwnI w base v2 xs) (h : OwnF w base v fs) (hg : w.grownBy w' v.ownBlock) : OwnI w' base v2 xs :=
  World.ownsRow.kept h2 hg (by
    rcases own_apart h h2 with e | e
    · cases hv : v2.ownBlock with
      | none => exact .inl rfl
      | some k => rw [e]; exact .inr (by simp)
    · exact .inr (fun e2 => e e2.symm))
theorem OwnF.one (w : World) (base : Nat) (n d : Int) (hb : base ≤ w.heap.size) : OwnF (w.alloc (.cells #[.int .i64 n, .int .i64 d] 34)) base (.slice (some ⟨w.heap.size, 0, none⟩) 1 1) [(n, d)] :=
  World.ownsRow_lit w #[.int .i64 n, .int .i64 d] 1 hb (by unfold maxLen; omega) rfl
end
/-- what a step leaves, from the least number l and n / d -/
def StepB (B : Int) (st : Stp) (I : Int → World → Prop) (row : Option Nat) (l n d : Int) (w : World) (e : Ending) (w' : World) : Prop :=
  w.grownBy w' row ∧ ∃ (t n' d' : Int) (b : Bool), e = .returned (.tuple #[.int .i64 t, .agg #[.int .i64 n', .int .i64 d'], .bool b]) ∧ (b = true → st l n d = some (t, n', d') ∧ I (t + 1) w' ∧ goodB n' d' = true ∧ 0 ≤ t ∧ t ≤ B) ∧ (b = false → st l n d = none)
abbrev StepR := StepB 1000000000
/-- all is as it was but for new blocks and one block -/
def Row (W w : World) (row : Option Nat) : Prop := W.grownBy w row
theorem Row.cell {W w : World} {row : Option Nat} (h : Row W w row) {b o : Nat} {v : Value} (hc : W.cell? ⟨b, o, none⟩ = some v) (hne : row ≠ some b) : w.cell? ⟨b, o, none⟩ = some v := World.grownBy.cell h hc (fun e => hne (by rw [← e]))
section
variable {w w' : World} {base : Nat} {v : Value} {xs : List Int} {fs : List (Int × Int)}
theorem cellFar {g k b o : Nat} {u y : Value} (hne : b ≠ g) (h : w.cell? ⟨b, o, none⟩ = some y) : (w.setCell ⟨g, k, none⟩ u).cell? ⟨b, o, none⟩ = some y := by
  exact (World.cell?_setCell_far w ⟨g, k, none⟩ ⟨b, o, none⟩ u (fun e => hne e.symm)).trans h
theorem litNew {W : World} {b k : Nat} {vs : Array Value} {T : TypeId} {u : Value} (hb : b = W.heap.size) (h : vs[k]? = some u) : (W.alloc (.cells vs T)).drew.cell? ⟨b, k, none⟩ = some u := by
  subst hb
  show (W.alloc (.cells vs T)).cell? ⟨W.heap.size, k, none⟩ = some u
  simpa using h
theorem litOld {W : World} {b k : Nat} {vs : Array Value} {T : TypeId} {o : Obj} {u : Value} (hb : b = W.heap.size) (h : vs[k]? = some u) : ((W.alloc (.cells vs T)).alloc o).drew.cell? ⟨b, k, none⟩ = some u := by
  have h1 : (W.alloc (.cells vs T)).cell? ⟨b, k, none⟩ = some u := litNew hb h
  exact (World.cell?_alloc_some _ _ _ (by rw [h1]; rfl)).trans h1
theorem OwnI.setO (h : OwnI w base v xs) (g k : Nat) (u : Value) (hne : v.ownBlock ≠ some g) : OwnI (w.setCell ⟨g, k, none⟩ u) base v xs := ownsRow_setCell_other h hne u
theorem OwnF.setO (h : OwnF w base v fs) (g k : Nat) (u : Value) (hne : v.ownBlock ≠ some g) : OwnF (w.setCell ⟨g, k, none⟩ u) base v fs := ownsRow_setCell_other h hne u
theorem OwnI.row {row : Option Nat} (h : OwnI w base v xs) (hg : w.grownBy w' row) (hlt : ∀ g, row = some g → g < base) : OwnI w' base v xs := by
  refine World.ownsRow.kept h hg ?_
  cases hv : v.ownBlock with
  | none => exact .inl rfl
  | some k =>
    refine .inr fun e => ?_
    have := (h.block k hv).1
    have := hlt k e.symm
    omega
theorem OwnF.row {row : Option Nat} (h : OwnF w base v fs) (hg : w.grownBy w' row) (hlt : ∀ g, row = some g → g < base) : OwnF w' base v fs := by
  refine World.ownsRow.kept h hg ?_
  cases hv : v.ownBlock with
  | none => exact .inl rfl
  | some k =>
    refine .inr fun e => ?_
    have := (h.block k hv).1
    have := hlt k e.symm
    omega
theorem OwnF.form (h : OwnF w base v fs) : ∃ A c, v = .slice A fs.length c := by
  rcases h.2 with ⟨hv, h0⟩ | ⟨g, cap, cur, hv, hb, hg, hnc, hcm, hcs, ht⟩
  · exact ⟨none, 0, by rw [hv, h0]⟩
  · exact ⟨_, cap, hv⟩
theorem Reads.oneAt {b : Nat} {t : Int} (hc : w.cell? ⟨b, 0, none⟩ = some (.int .i64 t)) (hb : b < w.heap.size) : Reads w (some ⟨b, 0, none⟩) [t] := fun _ =>
  ⟨b, 0, rfl, hb, fun i x hx => by
    match i, hx with
    | 0, hx =>
      simp only [List.getElem?_cons_zero, Option.some.injEq] at hx
      subst hx
      exact hc⟩
theorem belowOf {row : Option Nat} {B : Nat} (hg : w.grownBy w' row) (hB : B ≤ w.heap.size) (hrow : ∀ g, row = some g → B ≤ g) : Below B w w' :=
  (Below.refl B w).grown hg hB hrow
/-- what an append leaves elsewhere -/
theorem keptCell {row : Option Nat} (hg : w.grownBy w' row) {m : Nat} (hrow : ∀ k, row = some k → k < m) {b o : Nat} {u : Value} (hm : m ≤ b) (h : w.cell? ⟨b, o, none⟩ = some u) : w'.cell? ⟨b, o, none⟩ = some u :=
  hg.cell h (fun e => by have := hrow b e.symm; omega)
theorem keptAt {row : Option Nat} (hg : w.grownBy w' row) {g : Nat} (hne : row ≠ some g) {n d : Int} (h : TwoAt w g n d) : TwoAt w' g n d := by
  obtain ⟨h1, h2, h3, h4, h5⟩ := h
  have e : w'.heap[g]? = w.heap[g]? := hg.block g h5 (fun e => hne e.symm)
  exact ⟨(World.cell?_of_block (a := ⟨g, 0, none⟩) e).trans h1, (World.cell?_of_block (a := ⟨g, 1, none⟩) e).trans h2, (World.frozen?_of_block (a := ⟨g, 0, none⟩) e).trans h3, (World.frozen?_of_block (a := ⟨g, 1, none⟩) e).trans h4, Nat.lt_of_lt_of_le h5 hg.size⟩
end
theorem litI (W W' : World) (base g : Nat) (hg : g = W.heap.size) (hb : base ≤ W.heap.size) (h : Below (W.alloc (.cells #[] 3)).heap.size (W.alloc (.cells #[] 3)) W') : OwnI W' base (.slice (some ⟨g, 0, none⟩) 0 0) [] := by
  subst hg
  exact (OwnI.zero W base hb).below h
theorem litF (W W' : World) (base g : Nat) (n d : Int) (hg : g = W.heap.size) (hb : base ≤ W.heap.size) (h : Below (W.alloc (.cells #[.int .i64 n, .int .i64 d] 34)).heap.size (W.alloc (.cells #[.int .i64 n, .int .i64 d] 34)) W') : OwnF W' base (.slice (some ⟨g, 0, none⟩) 1 1) [(n, d)] := by
  subst hg
  exact (OwnF.one W base n d hb).below h
def slen : Value → Nat | .slice _ n _ => n | _ => 0
/-- what the loop leaves -/
def WalkM (m : Nat) (st : Stp) (row : Option Nat) (l n d : Int) (w : World) (e : Ending) (w' : World) : Prop :=
  w.grownBy w' row ∧ ((∃ es v1 v2, walkR st m l n d = some es ∧ es.length ≤ m ∧ e = .returned (.tuple #[v1, v2, .bool true]) ∧ OwnI w' w.heap.size v1 (takenOf es) ∧ OwnF w' w.heap.size v2 ((n, d) :: es.map (·.2))) ∨ (walkR st m l n d = none ∧ e = .returned (.tuple #[.slice none 0 0, .slice none 0 0, .bool false])))
abbrev WalkP := WalkM 24
end Go.Proofs.Ytbjblkfibinenaa
