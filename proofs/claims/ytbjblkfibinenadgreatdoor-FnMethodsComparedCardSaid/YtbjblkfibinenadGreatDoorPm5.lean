import Derived.Test.YtbjblkfibinenadGreatDoorPk32
import Derived.Test.YtbjblkfibinenadGreatDoorPm2
import Derived.Test.YtbjblkfibinenadGreatDoorPm3
import Derived.Test.YtbjblkfibinenadGreatDoorPm4

/-
  Every expansion by a method that is compared has the fraction as its sum; the best one is one of them, with the fewest terms.
-/
namespace Go.Proofs.YtbjblkfibinenadGreatDoor
open Go.RowKit
structure MsB (n d : Int) (xs : List Int) : Prop where
  exp : expB xs = true
  sum : eN xs = n ∧ eD xs = d
  l24 : xs.length ≤ 24
  x64 : In64 xs
theorem MsB.mk' {n d : Int} {xs : List Int} (h : expB xs = true) (s : eN xs = n ∧ eD xs = d) : MsB n d xs :=
  ⟨h, s, expB_len h, In64.of_mem fun x hx => by have := expB_small h x hx; omega⟩
theorem msO_back {k : Nat} {n d : Int} {xs : List Int} (hp : proB n d = true) (h : msO k n d = some xs) : MsB n d xs := by
  unfold msO at h
  split at h
  · have := gexO_back h; exact .mk' this.exp this.sum
  · have := gxO_back h; exact .mk' this.exp this.sum
  · obtain ⟨zs, h1, rfl, hx⟩ := pexO_exp (o := biO n d) h
    injection h1 with h1
    subst h1
    exact .mk' hx (bL_exp hp hx)
  · obtain ⟨zs, h1, rfl, hx⟩ := pexO_exp (o := faO n d) h
    unfold faO at h1
    cases hf : fdO n d with
    | none => rw [hf] at h1; cases h1
    | some ds =>
      have F := fdO_back hf
      rw [F.told] at h
      injection h with h
      rw [← h]
      exact .mk' F.exp F.sum
  · have := (twE_back repP_good repP_q h).1; exact .mk' this.exp this.sum
  · unfold etO at h
    cases he : engO n d with
    | none => rw [he] at h; cases h
    | some es =>
      obtain ⟨ps, E⟩ := engO_back he
      have e := E.terms
      unfold etO at e
      rw [e] at h
      injection h with h
      rw [← h]
      exact .mk' E.exp E.sum
theorem msL_back {k : Nat} {n d : Int} (hp : proB n d = true) (h : 0 < (msL k n d).length) : MsB n d (msL k n d) := by
  unfold msL at h ⊢
  cases ho : msO k n d with
  | none => rw [ho] at h; simp at h
  | some xs => exact msO_back hp ho
theorem beL_back {n d : Int} (hp : proB n d = true) : ∀ k, 0 < (beL n d k).length → MsB n d (beL n d k)
  | 0, h => by simp [beL] at h
  | k + 1, h => by
    rw [beL] at h ⊢
    split
    · rename_i hc; exact msL_back hp hc.1
    · rename_i hc; rw [if_neg hc] at h; exact beL_back hp k h
theorem beL_least {n d : Int} : ∀ k j, j < k → 0 < (msL j n d).length → 0 < (beL n d k).length ∧ (beL n d k).length ≤ (msL j n d).length
  | 0, j, hj, _ => by omega
  | k + 1, j, hj, h => by
    rw [beL]
    split
    · rename_i hc
      refine ⟨hc.1, ?_⟩
      rcases Nat.lt_succ_iff_lt_or_eq.1 hj with hj | rfl
      · have := beL_least k j hj h
        rcases hc.2 with h0 | h0 <;> omega
      · exact Nat.le_refl _
    · rename_i hc
      rcases Nat.lt_succ_iff_lt_or_eq.1 hj with hj | rfl
      · exact beL_least k j hj h
      · constructor <;> omega
theorem beL_some {n d : Int} : ∀ k, 0 < (beL n d k).length → ∃ j, j < k ∧ 0 < (msL j n d).length
  | 0, h => by simp [beL] at h
  | k + 1, h => by
    rw [beL] at h
    split at h
    · rename_i hc; exact ⟨k, by omega, hc.1⟩
    · obtain ⟨j, h1, h2⟩ := beL_some k h; exact ⟨j, by omega, h2⟩
end Go.Proofs.YtbjblkfibinenadGreatDoor
