
/-
  Plain facts on the numerators of greedy walks.
-/
import Derived.Test.YtbjblkfibinenacGreedyP
import Derived.Test.YtbjblkfibinenacEngP
namespace Go.Proofs.Ytbjblkfibinenac
open Go.RowKit
theorem walkR_at {st : Stp} : ∀ {k m : Nat} {l n d : Int} {es : List (Int × Int × Int)}, walkR st k l n d = some es → es.length ≤ m → walkR st m l n d = some es
  | 0, m, l, n, d, es, h, hm => by
    by_cases h0 : n ≤ 0
    · rw [walkR_end h0] at h ⊢; exact h
    · rw [walkR_out (by omega)] at h; cases h
  | k + 1, m, l, n, d, es, h, hm => by
    by_cases h0 : n ≤ 0
    · rw [walkR_end h0] at h ⊢; exact h
    · have hn : 0 < n := by omega
      cases hs : st l n d with
      | none => rw [walkR_none hn hs] at h; cases h
      | some p =>
        obtain ⟨t, n', d'⟩ := p
        rw [walkR_some hn hs] at h
        cases hr : walkR st k (t + 1) n' d' with
        | none => rw [hr] at h; cases h
        | some es' =>
          rw [hr] at h
          injection h with h
          subst h
          cases m with
          | zero => simp at hm
          | succ m =>
            rw [walkR_some hn hs, walkR_at hr (by simpa using hm)]
            rfl
/-- the numerators of a greedy walk fall -/
theorem greedy_len : ∀ {k : Nat} {l n d : Int} {es : List (Int × Int × Int)}, goodB n d = true → walkR (stG pick0) k l n d = some es → (es.length : Int) ≤ n
  | 0, l, n, d, es, hg, h => by
    by_cases h0 : n ≤ 0
    · rw [walkR_end h0] at h
      injection h with h
      subst h
      have := (good_bounds hg).1
      simpa using this
    · rw [walkR_out (by omega)] at h; cases h
  | k + 1, l, n, d, es, hg, h => by
    by_cases h0 : n ≤ 0
    · rw [walkR_end h0] at h
      injection h with h
      subst h
      have := (good_bounds hg).1
      simpa using this
    · have hn : 0 < n := by omega
      obtain ⟨_, _, d1, _⟩ := good_bounds hg
      obtain ⟨u1, _⟩ := ucd_facts (by omega : 1 ≤ n) d1
      cases hb : tB n d (ucd n d) with
      | false => rw [walkR_none hn (stG_no (p := pick0) hb)] at h; cases h
      | true =>
        have s1 := stG_yes (p := pick0) (l := l) (n := n) (d := d) hb
        have hp0 : pick0 l n d = ucd n d := rfl
        rw [hp0] at s1
        rw [walkR_some hn s1] at h
        cases hr : walkR (stG pick0) k (ucd n d + 1) (tN n d (ucd n d)) (tD n d (ucd n d)) with
        | none => rw [hr] at h; cases h
        | some es' =>
          rw [hr] at h
          injection h with h
          subst h
          have := greedy_len (tB_good d1 u1 hb) hr
          have := tN_less hg (by omega) hb
          simp only [List.length_cons]
          omega
/-- below 1 the walk has few steps -/
theorem greedy_six {k : Nat} {l n d : Int} {es : List (Int × Int × Int)} (hg : goodB n d = true) (hnd : n < d) (h : walkR (stG pick0) k l n d = some es) : es.length ≤ 6 := by
  obtain ⟨_, b⟩ := greedy_walk k hg hnd h
  have := Gr.len 0 (by omega) (b.mono (show syl 0 ≤ _ by simp only [syl]; omega))
  rw [takenOf_len] at this
  omega
/-- whether so many steps are allowed as the numerator tells, or 24 -/
theorem greedy_24 {l n d : Int} (hg : goodB n d = true) (hnd : n < d) : walkR (stG pick0) n.toNat l n d = walkR (stG pick0) 24 l n d := by
  cases h : walkR (stG pick0) 24 l n d with
  | some es => exact walkR_at h (by have := greedy_len hg h; omega)
  | none =>
    cases h2 : walkR (stG pick0) n.toNat l n d with
    | none => rfl
    | some es => rw [walkR_at h2 (by have := greedy_six hg hnd h2; omega)] at h; cases h
theorem ucd_two {n d : Int} (hn : 1 ≤ n) (hnd : n < d) : 2 ≤ ucd n d := by
  obtain ⟨u1, u2, _, _⟩ := ucd_facts hn (by omega : 1 ≤ d)
  rcases (by omega : ucd n d = 1 ∨ 2 ≤ ucd n d) with h | h
  · rw [h] at u2; omega
  · exact h
theorem syl_grow {k : Nat} {u v : Int} (h : syl k ≤ u) (hv : u * (u - 1) < v) : syl (k + 1) ≤ v := by
  have h2 := syl_two k
  have := sq_mono (by omega : 1 ≤ syl k) h
  simp only [syl]
  omega
theorem syl_five {k : Nat} (hk : k ≤ 6) {u : Int} (h : syl k ≤ u) (hu : u ≤ 1000000000) : k ≤ 5 := by
  have h6 := syl6
  rcases Nat.lt_or_ge k 6 with h1 | h1
  · omega
  · obtain rfl : k = 6 := by omega
    omega
end Go.Proofs.Ytbjblkfibinenac
