
/-
  Plain facts: an Engel list is got back from its fraction and the other way round, and what its products are.
-/
import Derived.Test.YtbjblkfibinenabEngT
import Derived.Test.YtbjblkfibinenabEngQ
namespace Go.Proofs.Ytbjblkfibinenab
open Go.RowKit
theorem engO_again {zs : List Int} (h : engB zs = true) : engO (engN zs) (engD zs) = some zs ∧ (-9223372036854775808 ≤ engN zs ∧ engN zs ≤ 9223372036854775807) ∧ (-9223372036854775808 ≤ engD zs ∧ engD zs ≤ 9223372036854775807) := by
  obtain ⟨hlt, es, hw, ht⟩ := eng_again h
  have hg := (eng_q h).1
  have hb := good_bounds hg
  refine ⟨?_, by omega, by omega⟩
  have hB : belowB (engN zs) (engD zs) = true := by simp [belowB, hg, hlt]
  unfold engO
  rw [if_pos hB, lstO_yes hw (by rw [ht]; exact h), ht]
structure EngL (n d : Int) (xs ps : List Int) : Prop where
  back : engN xs = n ∧ engD xs = d ∧ engB xs = true
  few : (xs.length : Int) ≤ n
  terms : etO n d = some ps
  prod : prodL 1 xs = some ps
  exp : expB ps = true
  sum : eN ps = n ∧ eD ps = d
  len : ps.length = xs.length
  up : up 0 2 xs = true
  l24 : xs.length ≤ 24
  x64 : In64 xs
  p64 : In64 ps
theorem engO_back {n d : Int} {xs : List Int} (h : engO n d = some xs) : ∃ ps, EngL n d xs ps := by
  have hk := engO_some h
  obtain ⟨ps, h1, h2, h3⟩ := engB_prod hk
  have hp := engB_parts hk
  have ht : etO n d = some ps := by unfold etO; rw [h]; exact h1
  unfold engO at h
  split at h
  · rename_i hb
    obtain ⟨hg, _⟩ := belowB_yes hb
    obtain ⟨es, hw, hes, hk2⟩ := lstO_some h
    subst hes
    obtain ⟨a, b, c⟩ := eng_back hg hw hk2
    have hs : sumL 0 1 ps = some (engN (takenOf es), engD (takenOf es)) := by
      have := hp.2.2
      unfold engS at this
      rw [h1] at this
      exact this
    rw [a, b] at hs
    have hin : ∀ x ∈ takenOf es, 1 ≤ x ∧ x ≤ 1000000000 := fun x hx => by have := up_in (by omega) hp.2.1 x hx; omega
    refine ⟨ps, ⟨a, b, hk⟩, by rw [takenOf_len]; exact c, ht, h1, h2, ⟨by rw [eN, if_pos h2, sumN_of hs], by rw [eD, if_pos h2, sumD_of hs]⟩, h3, hp.2.1, hp.1, In64.of_mem fun x hx => by have := hin x hx; omega, In64.of_mem fun q hq => by have := prodL_in (by omega) (fun x hx => (hin x hx).1) h1 q hq; omega⟩
  · cases h
/-- one product more -/
theorem prod_at {p x : Int} {xs ps : List Int} (h : prodL p (x :: xs) = some ps) : p * x ≤ 1000000000 ∧ ∃ qs, ps = p * x :: qs ∧ prodL (p * x) xs = some qs := by
  by_cases hle : p * x ≤ 1000000000
  · rw [prodL_yes hle] at h
    cases hr : prodL (p * x) xs with
    | none => rw [hr] at h; cases h
    | some qs =>
      rw [hr] at h
      injection h with h
      exact ⟨hle, qs, h.symm, rfl⟩
  · rw [prodL_no hle] at h; cases h
end Go.Proofs.Ytbjblkfibinenab
