
/-
  Plain facts on the steps of Engel and of Pierce lists.
-/
import Derived.Test.YtbjblkfibinenacWalkP
import Derived.Test.YtbjblkfibinenacProdP
namespace Go.Proofs.Ytbjblkfibinenac
open Go.RowKit
def stE : Stp := fun _ n d => some (ucd n d, redN (n * ucd n d - d) d, redD (n * ucd n d - d) d)
def stP : Stp := fun _ n d => some (d / n, redN (d - n * (d / n)) d, redD (d - n * (d / n)) d)
/-- small parts are small in lowest terms, too -/
theorem redB_small {n d : Int} (hn : 0 ≤ n) (hn2 : n ≤ 1000000000) (hd : 1 ≤ d) (hd2 : d ≤ 1000000000) : redB n d = true := by
  have hg := gcdI_pos n d (by omega)
  exact redB_yes (by have := Int.ediv_le_self (gcdI n d) hn; omega) (by have := Int.ediv_le_self (gcdI n d) (by omega : 0 ≤ d); omega)
theorem stE_facts {n d : Int} (hg : goodB n d = true) (hn : 1 ≤ n) :
    (1 ≤ ucd n d ∧ ucd n d ≤ d) ∧ (0 ≤ n * ucd n d - d ∧ n * ucd n d - d < n) ∧ redB (n * ucd n d - d) d = true ∧ goodB (redN (n * ucd n d - d) d) (redD (n * ucd n d - d) d) = true ∧ redN (n * ucd n d - d) d < n := by
  obtain ⟨_, n2, d1, d2⟩ := good_bounds hg
  obtain ⟨u1, u2, u3, u4⟩ := ucd_facts hn d1
  have hb := redB_small (n := n * ucd n d - d) (by omega) (by omega) d1 d2
  have hl := red_le (n := n * ucd n d - d) (d := d) (by omega) d1
  exact ⟨⟨u1, u4⟩, ⟨by omega, by omega⟩, hb, good_of_redB (by omega) d1 hb, by omega⟩
theorem stP_facts {n d : Int} (hg : goodB n d = true) (hn : 1 ≤ n) :
    (0 ≤ d / n ∧ d / n ≤ d) ∧ (0 ≤ d - n * (d / n) ∧ d - n * (d / n) < n) ∧ redB (d - n * (d / n)) d = true ∧ goodB (redN (d - n * (d / n)) d) (redD (d - n * (d / n)) d) = true ∧ redN (d - n * (d / n)) d < n := by
  obtain ⟨_, n2, d1, d2⟩ := good_bounds hg
  have h1 : n * (d / n) + d % n = d := Int.mul_ediv_add_emod _ _
  have h2 := Int.emod_nonneg d (by omega : n ≠ 0)
  have h3 := Int.emod_lt_of_pos d (by omega : 0 < n)
  have h4 := Int.ediv_nonneg (by omega : 0 ≤ d) (by omega : 0 ≤ n)
  have h5 := Int.ediv_le_self n (by omega : 0 ≤ d)
  have hb := redB_small (n := d - n * (d / n)) (by omega) (by omega) d1 d2
  have hl := red_le (n := d - n * (d / n)) (d := d) (by omega) d1
  exact ⟨⟨h4, h5⟩, ⟨by omega, by omega⟩, hb, good_of_redB (by omega) d1 hb, by omega⟩
/-- a walk with more steps allowed -/
theorem walkR_more {st : Stp} : ∀ {k : Nat} {l n d : Int} {es : List (Int × Int × Int)}, walkR st k l n d = some es → walkR st (k + 1) l n d = some es ∧ es.length ≤ k
  | 0, l, n, d, es, h => by
    by_cases h0 : n ≤ 0
    · rw [walkR_end h0] at h ⊢
      injection h with h
      subst h
      exact ⟨rfl, Nat.le_refl _⟩
    · rw [walkR_out (by omega)] at h; cases h
  | k + 1, l, n, d, es, h => by
    by_cases h0 : n ≤ 0
    · rw [walkR_end h0] at h ⊢
      injection h with h
      subst h
      exact ⟨rfl, Nat.zero_le _⟩
    · have hn : 0 < n := by omega
      cases hs : st l n d with
      | none => rw [walkR_none hn hs] at h; cases h
      | some p =>
        obtain ⟨t, n', d'⟩ := p
        rw [walkR_some hn hs] at h ⊢
        cases hr : walkR st k (t + 1) n' d' with
        | none => rw [hr] at h; cases h
        | some es' =>
          rw [hr] at h
          injection h with h
          subst h
          obtain ⟨a, b⟩ := walkR_more hr
          rw [a]
          exact ⟨rfl, by simp; omega⟩
theorem walkR_less {st : Stp} {k : Nat} {l n d : Int} (h : walkR st (k + 1) l n d = none) : walkR st k l n d = none := by
  cases hr : walkR st k l n d with
  | none => rfl
  | some es => rw [(walkR_more hr).1] at h; cases h
theorem walkR_long {st : Stp} {k : Nat} {l n d : Int} {es : List (Int × Int × Int)} (h : walkR st (k + 1) l n d = some es) (hl : es.length = k + 1) : walkR st k l n d = none := by
  cases hr : walkR st k l n d with
  | none => rfl
  | some es' =>
    obtain ⟨a, b⟩ := walkR_more hr
    rw [a] at h
    injection h with h
    subst h
    omega
theorem walkR_fit {st : Stp} : ∀ {k : Nat} {l n d : Int} {es : List (Int × Int × Int)}, walkR st (k + 1) l n d = some es → es.length ≤ k → walkR st k l n d = some es
  | 0, l, n, d, es, h, hl => by
    by_cases h0 : n ≤ 0
    · rw [walkR_end h0] at h ⊢; exact h
    · have hn : 0 < n := by omega
      cases hs : st l n d with
      | none => rw [walkR_none hn hs] at h; cases h
      | some p =>
        obtain ⟨t, n', d'⟩ := p
        rw [walkR_some hn hs] at h
        cases hr : walkR st 0 (t + 1) n' d' with
        | none => rw [hr] at h; cases h
        | some es' =>
          rw [hr] at h
          injection h with h
          subst h
          simp at hl
  | k + 1, l, n, d, es, h, hl => by
    by_cases h0 : n ≤ 0
    · rw [walkR_end h0] at h ⊢; exact h
    · have hn : 0 < n := by omega
      cases hs : st l n d with
      | none => rw [walkR_none hn hs] at h; cases h
      | some p =>
        obtain ⟨t, n', d'⟩ := p
        rw [walkR_some hn hs] at h ⊢
        cases hr : walkR st (k + 1) (t + 1) n' d' with
        | none => rw [hr] at h; cases h
        | some es' =>
          rw [hr] at h
          injection h with h
          subst h
          rw [walkR_fit hr (by simp at hl; omega)]
          rfl
end Go.Proofs.Ytbjblkfibinenac
