
/-
  Plain facts on the method by inverses: what its expansion and its rests are like.
-/
import Derived.Test.YtbjblkfibinenadGreatGolX
import Derived.Test.YtbjblkfibinenadGreatRq
namespace Go.Proofs.YtbjblkfibinenadGreat
open Go.RowKit
theorem sumQ_permG {xs ys : List Int} (h : xs.Perm ys) : sumQ xs = sumQ ys := by
  induction h with
  | nil => rfl
  | cons x _ ih => show 1 / (x : Rat) + sumQ _ = 1 / (x : Rat) + sumQ _; rw [ih]
  | swap x y l => show 1 / (y : Rat) + (1 / (x : Rat) + sumQ l) = 1 / (x : Rat) + (1 / (y : Rat) + sumQ l); grind
  | trans _ _ i1 i2 => exact i1.trans i2
theorem gol_q {n d : Int} (h : proB n d = true) : rq n d = 1 / ((goT n d : Int) : Rat) + rq (goN n d) (goD n d) := by
  obtain ⟨n1, n2, d1, d2, hnd, hg, hgc, hi⟩ := proB_bounds h
  have G := gol h
  obtain ⟨e1, e2, e3⟩ := goR h
  rw [e1, e2, e3]
  have hs := G.s1
  have he := G.e
  generalize (n * invI n d - 1) / d = r at *
  generalize invI n d = s at *
  have h1 := ne0 (by omega : 1 ≤ d)
  have h2 := ne0 hs
  have h3 : (n : Rat) * s - 1 = d * r := by exact_mod_cast congrArg (fun x : Int => (x : Rat)) he
  unfold rq
  simp only [Rat.intCast_mul]
  grind
/-- the rests of a walk by inverses -/
def restsOf (n d : Int) (es : List (Int × Int × Int)) : List (Int × Int) := (n, d) :: es.map (·.2)
structure GolW (n d : Int) (es : List (Int × Int × Int)) : Prop where
  sum : sumQ (takenOf es) = rq n d
  few : (es.length : Int) ≤ n
  good : ∀ (i : Nat) (p q : Int), (restsOf n d es)[i]? = some (p, q) → goodB p q = true
  step : ∀ (i : Nat) (p q p' q' : Int), (restsOf n d es)[i]? = some (p, q) → (restsOf n d es)[i + 1]? = some (p', q') → proB p q = true ∧ p' = goN p q ∧ q' = goD p q ∧ p' < p ∧ q' < q ∧ goT p q ∈ takenOf es
  last : ∃ q, (restsOf n d es)[es.length]? = some (0, q)
theorem gol_w : ∀ (k : Nat) {l n d : Int} {es : List (Int × Int × Int)}, goodB n d = true → n < d → walkR stI k l n d = some es → GolW n d es
  | k, l, n, d, es, hg, hd, h => by
    by_cases h0 : n ≤ 0
    · rw [walkR_end h0] at h
      injection h with h
      subst h
      have hgb := good_bounds hg
      obtain rfl : n = 0 := by omega
      refine ⟨by simp [takenOf, sumQ, rq]; grind, by simp, fun i p q hi => ?_, fun i p q p' q' _ h2 => by simp [restsOf] at h2, d, rfl⟩
      cases i with
      | zero =>
        simp only [restsOf, List.getElem?_cons_zero, Option.some.injEq, Prod.mk.injEq] at hi
        rw [← hi.1, ← hi.2]; exact hg
      | succ i => simp [restsOf] at hi
    · have hp : proB n d = true := (proB_iff n d).2 ⟨hg, by omega, hd⟩
      have G := goN_small hp
      cases k with
      | zero => rw [walkR_out (by omega)] at h; cases h
      | succ k =>
        rw [walkR_some (by omega) (stI_yes (l := l) hp)] at h
        cases hr : walkR stI k (goT n d + 1) (goN n d) (goD n d) with
        | none => rw [hr] at h; cases h
        | some es' =>
          rw [hr] at h
          injection h with h
          subst h
          have W := gol_w k G.1 G.2.1 hr
          have hc : restsOf n d ((goT n d, goN n d, goD n d) :: es') = (n, d) :: restsOf (goN n d) (goD n d) es' := rfl
          refine ⟨?_, by have := W.few; simp only [List.length_cons]; omega, fun i p q hi => ?_, fun i p q p' q' h1 h2 => ?_, ?_⟩
          · show 1 / ((goT n d : Int) : Rat) + sumQ (takenOf es') = rq n d
            rw [W.sum, gol_q hp]
          · rw [hc] at hi
            cases i with
            | zero =>
              simp only [List.getElem?_cons_zero, Option.some.injEq, Prod.mk.injEq] at hi
              rw [← hi.1, ← hi.2]; exact hg
            | succ i => rw [List.getElem?_cons_succ] at hi; exact W.good i p q hi
          · rw [hc] at h1 h2
            cases i with
            | zero =>
              simp only [List.getElem?_cons_zero, Option.some.injEq, Prod.mk.injEq] at h1
              obtain ⟨rfl, rfl⟩ := h1
              simp only [Nat.zero_add, List.getElem?_cons_succ] at h2
              have e0 : (restsOf (goN n d) (goD n d) es')[0]? = some (goN n d, goD n d) := rfl
              rw [e0] at h2
              simp only [Option.some.injEq, Prod.mk.injEq] at h2
              obtain ⟨rfl, rfl⟩ := h2
              exact ⟨hp, rfl, rfl, G.2.2.1, G.2.2.2.1, List.mem_cons_self⟩
            | succ i =>
              rw [List.getElem?_cons_succ] at h1 h2
              obtain ⟨a, b, c, e, f, g⟩ := W.step i p q p' q' h1 h2
              exact ⟨a, b, c, e, f, List.mem_cons_of_mem _ g⟩
          · obtain ⟨q, hq⟩ := W.last
            exact ⟨q, by rw [hc, List.length_cons, List.getElem?_cons_succ]; exact hq⟩
theorem gol_top {k : Nat} {l n d : Int} {es : List (Int × Int × Int)} (hp : proB n d = true) (h : walkR stI k l n d = some es) : es ≠ [] ∧ ∀ t ∈ takenOf es, t ≤ d * (d - 1) := by
  obtain ⟨hg, hn, hd⟩ := (proB_iff n d).1 hp
  obtain ⟨n1, n2, d1, d2, _, _, _, _⟩ := proB_bounds hp
  have G := gol hp
  obtain ⟨e1, _, _⟩ := goR hp
  have hf := (gol_falls k hg hd h).1
  cases k with
  | zero => rw [walkR_out (by omega)] at h; cases h
  | succ k =>
    rw [walkR_some (by omega) (stI_yes (l := l) hp)] at h
    cases hr : walkR stI k (goT n d + 1) (goN n d) (goD n d) with
    | none => rw [hr] at h; cases h
    | some es' =>
      rw [hr] at h
      injection h with h
      subst h
      refine ⟨by simp, fun t ht => ?_⟩
      have hT : goT n d ≤ d * (d - 1) := by
        rw [e1]
        exact Int.mul_le_mul_of_nonneg_left (by have := G.sd; omega) (by omega)
      rcases List.mem_cons.1 (show t ∈ goT n d :: takenOf es' from ht) with rfl | h1
      · exact hT
      · have := (List.pairwise_cons.1 (show (goT n d :: takenOf es').Pairwise (fun a b => b < a) from hf)).1 t h1
        omega
theorem walkG_at {st : Stp} : ∀ {k m : Nat} {l n d : Int} {es : List (Int × Int × Int)}, walkR st k l n d = some es → es.length ≤ m → walkR st m l n d = some es
  | 0, m, l, n, d, es, h, hm => by
    by_cases h0 : n ≤ 0
    · rw [walkR_end h0] at h ⊢; exact h
    · rw [walkR_out (by omega)] at h; cases h
  | k + 1, m, l, n, d, es, h, hm => by
    by_cases h0 : n ≤ 0
    · rw [walkR_end h0] at h ⊢; exact h
    · have hn : 0 < n := by omega
      cases hs : st l n d with
      | none => rw [walkR_none hn hs] at h; cases h
      | some p =>
        obtain ⟨t, n', d'⟩ := p
        rw [walkR_some hn hs] at h
        cases hr : walkR st k (t + 1) n' d' with
        | none => rw [hr] at h; cases h
        | some es' =>
          rw [hr] at h
          injection h with h
          subst h
          cases m with
          | zero => simp at hm
          | succ m =>
            rw [walkR_some hn hs, walkG_at hr (by simpa using hm)]
            rfl
/-- of the expansion -/
structure GolA (n d : Int) (xs : List Int) : Prop where
  pro : proB n d = true
  exp : expB xs = true
  sum : eN xs = n ∧ eD xs = d
  few : (xs.length : Int) ≤ n
  ne : 1 ≤ xs.length
  le : ∀ x ∈ xs, x ≤ d * (d - 1)
  l24 : xs.length ≤ 24
  x64 : In64 xs
  walk : ∃ es, walkR stI 24 0 n d = some es ∧ (∀ t ∈ takenOf es, hasB xs t = true) ∧ xs.length = es.length
theorem gxO_back {n d : Int} {xs : List Int} (h : gxO n d = some xs) : GolA n d xs := by
  cases hp : proB n d with
  | false => rw [gxO_pro hp] at h; cases h
  | true =>
    cases hw : walkR stI 24 0 n d with
    | none => rw [gxO_none hw] at h; cases h
    | some es =>
      obtain ⟨hg, hn, hd⟩ := (proB_iff n d).1 hp
      have hf := golO_facts (xs := takenOf es) hp (by unfold golO; rw [hw]; rfl)
      rw [gxO_some hp hw, putAll_srt hf.2.2.2] at h
      split at h
      · rename_i hx
        injection h with h
        subst h
        have W := gol_w 24 hg hd hw
        have T := gol_top hp hw
        have hq := sum_q hx
        rw [sumQ_permG (srt_perm _), W.sum] at hq
        obtain ⟨a, b⟩ := good_same (good_sum hx) hg hq
        have hl : (srt (takenOf es)).length = es.length := by rw [srt_len, takenOf_len]
        refine ⟨hp, hx, ⟨by rw [eN, if_pos hx, a], by rw [eD, if_pos hx, b]⟩, by rw [hl]; exact W.few, ?_, fun x hx => T.2 x (srt_mem.1 hx), expB_len hx, srt_64 hf.2.2.1, es, hw, fun t ht => (hasB_iff _ _).2 (srt_mem.2 ht), hl⟩
        rw [hl]
        have := T.1
        cases es with
        | nil => exact absurd rfl this
        | cons _ _ => simp
      · cases h
/-- of the rests -/
theorem grsO_back {n d : Int} {fs : List (Int × Int)} (h : grsO n d = some fs) : proB n d = true ∧ ∃ es, walkR stI 300 0 n d = some es ∧ fs = restsOf n d es ∧ GolW n d es ∧ es.length ≤ 300 := by
  unfold grsO at h
  split at h
  · rename_i hp
    obtain ⟨hg, hn, hd⟩ := (proB_iff n d).1 hp
    cases hw : walkR stI 300 0 n d with
    | none => rw [hw] at h; cases h
    | some es =>
      rw [hw] at h
      injection h with h
      exact ⟨hp, es, rfl, h.symm, gol_w 300 hg hd hw, walkR_len 300 hw⟩
  · cases h
end Go.Proofs.YtbjblkfibinenadGreat
