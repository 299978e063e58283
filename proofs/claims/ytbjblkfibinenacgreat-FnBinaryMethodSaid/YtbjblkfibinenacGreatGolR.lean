
/-
  Contracts of what the steps by inverses leave, in the program and in the model.
-/
import Derived.Test.YtbjblkfibinenacGreatGolM
import Derived.Test.YtbjblkfibinenacGreatFracS
import Derived.Test.YtbjblkfibinenacGreatOwn
import Derived.Test.YtbjblkfibinenacGreatUnite
namespace Go.Proofs.YtbjblkfibinenacGreat
open Go.RowKit
/-- the step from a proper fraction leaves a proper one, or 0 -/
theorem goN_small {n d : Int} (h : proB n d = true) : goodB (goN n d) (goD n d) = true ∧ goN n d < goD n d ∧ goN n d < n ∧ goD n d < d ∧ 0 ≤ goN n d ∧ 1 ≤ goD n d ∧ 0 ≤ goT n d ∧ goT n d ≤ 1000000000000000000 := by
  obtain ⟨n1, n2, d1, d2, hnd, hg, hgc, hi⟩ := proB_bounds h
  have G := gol h
  obtain ⟨e1, e2, e3⟩ := goR h
  rw [e1, e2, e3]
  have p2 := mul_bounds (a := d) (b := invI n d) (by omega) d2 (by have := G.s1; omega) (by have := G.sd; omega)
  exact ⟨G.gd, G.rs, G.rn, G.sd, G.r0, G.s1, p2.1, p2.2⟩
/-- of the program and of the model: the rests, if there are so few -/
def grsO (n d : Int) : Option (List (Int × Int)) := if proB n d = true then (walkR stI 300 0 n d).map fun es => (n, d) :: es.map (·.2) else none
theorem walkR_len {st : Stp} : ∀ (k : Nat) {l n d : Int} {es : List (Int × Int × Int)}, walkR st k l n d = some es → es.length ≤ k
  | 0, l, n, d, es, h => by
    by_cases h0 : n ≤ 0
    · rw [walkR_end h0] at h; injection h with h; subst h; simp
    · rw [walkR_out (by omega)] at h; cases h
  | k + 1, l, n, d, es, h => by
    by_cases h0 : n ≤ 0
    · rw [walkR_end h0] at h; injection h with h; subst h; simp
    · cases hs : st l n d with
      | none => rw [walkR_none (by omega) hs] at h; cases h
      | some p =>
        obtain ⟨t, n', d'⟩ := p
        rw [walkR_some (by omega) hs] at h
        cases hr : walkR st k (t + 1) n' d' with
        | none => rw [hr] at h; cases h
        | some es' =>
          rw [hr] at h
          injection h with h
          subst h
          have := walkR_len k hr
          simp; omega
theorem grsO_len (n d : Int) : ((grsO n d).getD []).length ≤ 301 := by
  unfold grsO
  split
  · cases h : walkR stI 300 0 n d with
    | none => simp
    | some es =>
      have := walkR_len 300 h
      simp
      omega
  · simp
theorem golombStep_R (I : Int → World → Prop) (hI : ∀ l w1 w2, I l w1 → Below w1.heap.size w1 w2 → ∀ l', I l' w2) (l n d : Int) (w : World) (hg : goodB n d = true) (hn : 1 ≤ n) (hi : I l w) : Calls Tryz.prog 92 (#[.agg #[.int .i64 n, .int .i64 d]] ++ #[]) w (StepB 1000000000000000000 stI I none l n d w) := by
  obtain ⟨b1, b2, b3, b4⟩ := good_bounds hg
  refine (golombStep_any n d w ⟨by omega, by omega⟩ ⟨by omega, by omega⟩).mono ?_
  rintro e w' ⟨rfl, hb⟩
  refine ⟨⟨hb.os, hb.tape, hb.output, hb.size, fun k hk _ => hb.block k hk⟩, _, _, _, _, rfl, fun h => ?_, fun h => stI_no h⟩
  have G := goN_small h
  exact ⟨stI_yes h, hI _ _ _ hi hb _, G.1, G.2.2.2.2.2.2.1, G.2.2.2.2.2.2.2⟩
def RetFO (o : Option (List (Int × Int))) (w : World) (e : Ending) (w' : World) : Prop := ∃ v, e = .returned (.tuple #[v, .bool o.isSome]) ∧ OwnF w' w.heap.size v (o.getD []) ∧ Below w.heap.size w w'
/-- what the model's steps leave: the numbers, put in order, and the rests -/
def TermsP (m : Nat) (n d : Int) (w : World) (e : Ending) (w' : World) : Prop :=
  Below w.heap.size w w' ∧ ((∃ es v1 v2, walkR stI m 0 n d = some es ∧ e = .returned (.tuple #[v1, v2, .bool true]) ∧ OwnI w' w.heap.size v1 (putAll [] (takenOf es)) ∧ OwnF w' w.heap.size v2 ((n, d) :: es.map (·.2))) ∨ (walkR stI m 0 n d = none ∧ e = .returned (.tuple #[.slice none 0 0, .slice none 0 0, .bool false])))
/-- the numbers that are taken fall -/
theorem goT_less {n d : Int} (h : proB n d = true) : goT n d < d * d ∧ goD n d * goD n d < goT n d ∧ goD n d * goD n d < d * d := by
  obtain ⟨n1, n2, d1, d2, hnd, hg, hgc, hi⟩ := proB_bounds h
  have G := gol h
  obtain ⟨e1, e2, e3⟩ := goR h
  rw [e1, e3]
  have s1 := G.s1
  have sd := G.sd
  generalize invI n d = s at *
  have h1 : d * s < d * d := Int.mul_lt_mul_of_pos_left sd (by omega)
  have h2 : s * s < d * s := Int.mul_lt_mul_of_pos_right sd (by omega)
  exact ⟨h1, h2, by omega⟩
theorem has_no {xs : List Int} {v b : Int} (h : ∀ x ∈ xs, b < x) (hv : v < b) : ¬ hasB xs v = true := fun hh => by
  have := h v ((hasB_iff xs v).1 hh)
  omega
theorem put_more {xs : List Int} {v b c : Int} (h : ∀ x ∈ xs, b < x) (hc : c < b) (hv : c < v) : ∀ x ∈ putL xs v, c < x := fun x hx => by
  unfold putL at hx
  split at hx
  · have := h x hx; omega
  · rcases ins_mem.1 hx with h1 | h1
    · omega
    · have := h x h1; omega
end Go.Proofs.YtbjblkfibinenacGreat
