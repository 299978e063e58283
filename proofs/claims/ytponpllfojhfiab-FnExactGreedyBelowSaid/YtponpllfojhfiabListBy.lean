
/-
  The contract of the function that makes a list by steps and looks whether the list is taken.
-/
import Derived.Test.YtponpllfojhfiabWalk
namespace Go.Proofs.Ytponpllfojhfiab
open Go.RowKit
theorem grownDrew {a w : World} {row : Option Nat} (h : a.grownBy w row) : a.grownBy w.drew row := ⟨h.os, h.tape, h.output, h.size, h.block⟩
/-- the list that the steps take, if it is taken -/
def lstO (st : Stp) (ok : List Int → Bool) (m : Nat) (l n d : Int) : Option (List Int) := (walkR st m l n d).bind fun es => if ok (takenOf es) = true then some (takenOf es) else none
theorem lstO_none {st : Stp} {ok : List Int → Bool} {m : Nat} {l n d : Int} (h : walkR st m l n d = none) : lstO st ok m l n d = none := by simp [lstO, h]
theorem lstO_yes {st : Stp} {ok : List Int → Bool} {m : Nat} {l n d : Int} {es : List (Int × Int × Int)} (h : walkR st m l n d = some es) (hk : ok (takenOf es) = true) : lstO st ok m l n d = some (takenOf es) := by simp [lstO, h, hk]
theorem lstO_no {st : Stp} {ok : List Int → Bool} {m : Nat} {l n d : Int} {es : List (Int × Int × Int)} (h : walkR st m l n d = some es) (hk : ok (takenOf es) = false) : lstO st ok m l n d = none := by simp [lstO, h, hk]
/-- of the program: a new list of the call's own, if there is one -/
def RetLO (o : Option (List Int)) (row : Option Nat) (w : World) (e : Ending) (w' : World) : Prop := ∃ v, e = .returned (.tuple #[v, .bool o.isSome]) ∧ OwnI w' w.heap.size v (o.getD []) ∧ w.grownBy w' row
/-- what the steps take is small -/
def Small (st : Stp) : Prop := ∀ l n d t n' d', goodB n d = true → 1 ≤ n → 0 ≤ l → st l n d = some (t, n', d') → 0 ≤ t ∧ t ≤ 1000000000 ∧ goodB n' d' = true
theorem walkR_small {st : Stp} (hst : Small st) : ∀ {k : Nat} {l n d : Int} {es : List (Int × Int × Int)}, goodB n d = true → 0 ≤ l → walkR st k l n d = some es → ∀ x ∈ takenOf es, 0 ≤ x ∧ x ≤ 1000000000
  | 0, l, n, d, es, hg, _, h => by
    by_cases h0 : n ≤ 0
    · rw [walkR_end h0] at h
      injection h with h
      subst h
      intro x hx
      cases hx
    · rw [walkR_out (by omega)] at h; cases h
  | k + 1, l, n, d, es, hg, hl, h => by
    by_cases h0 : n ≤ 0
    · rw [walkR_end h0] at h
      injection h with h
      subst h
      intro x hx
      cases hx
    · have hn : 0 < n := by omega
      cases hs : st l n d with
      | none => rw [walkR_none hn hs] at h; cases h
      | some p =>
        obtain ⟨t, n', d'⟩ := p
        rw [walkR_some hn hs] at h
        obtain ⟨a, b, c⟩ := hst l n d t n' d' hg (by omega) hl hs
        cases hr : walkR st k (t + 1) n' d' with
        | none => rw [hr] at h; cases h
        | some es' =>
          rw [hr] at h
          injection h with h
          subst h
          intro x hx
          rcases List.mem_cons.1 (show x ∈ t :: takenOf es' from hx) with rfl | hx
          · exact ⟨a, b⟩
          · exact walkR_small hst c (by omega) hr x hx
end Go.Proofs.Ytponpllfojhfiab
