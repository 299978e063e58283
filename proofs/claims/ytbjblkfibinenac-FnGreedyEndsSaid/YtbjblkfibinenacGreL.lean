
/-
  Plain facts on greedy expansions: their numerators fall to 0, their terms grow, and the rest has the rest of the list.
-/
import Derived.Test.YtbjblkfibinenacNumO
import Derived.Test.YtbjblkfibinenacIsGr
import Derived.Test.YtbjblkfibinenacGrow
namespace Go.Proofs.Ytbjblkfibinenac
open Go.RowKit
theorem gexO_parts {n d : Int} {xs : List Int} (h : gexO n d = some xs) : goodB n d = true ∧ n ≤ d ∧ expB xs = true ∧ ∃ es, walkR (stG pick0) 24 0 n d = some es ∧ takenOf es = xs := by
  unfold gexO at h
  split at h
  · rename_i hb
    obtain ⟨hg, hle⟩ := atMostB_yes hb
    unfold lstO at h
    cases hw : walkR (stG pick0) 24 0 n d with
    | none => rw [hw] at h; cases h
    | some es =>
      rw [hw] at h
      simp only [Option.bind_some] at h
      split at h
      · rename_i hk
        injection h with h
        subst h
        exact ⟨hg, hle, hk, es, rfl, rfl⟩
      · cases h
  · cases h
/-- of each greedy expansion -/
structure GreL (n d : Int) (xs : List Int) : Prop where
  exp : expB xs = true
  sum : eN xs = n ∧ eD xs = d
  same : igO xs = some xs
  l24 : xs.length ≤ 24
  x64 : In64 xs
  nd : goodB n d = true ∧ n ≤ d
theorem gexO_back {n d : Int} {xs : List Int} (h : gexO n d = some xs) : GreL n d xs := by
  obtain ⟨hg, hle, hk, es, hw, hes⟩ := gexO_parts h
  subst hes
  obtain ⟨_, a, b⟩ := greedy_exp hg hle hw
  refine ⟨hk, ⟨by rw [eN, if_pos hk, a], by rw [eD, if_pos hk, b]⟩, ?_, expB_len hk, In64.of_mem fun x hx => by have := expB_small hk x hx; omega, hg, hle⟩
  unfold igO
  rw [if_pos hk, a, b]
  exact h
theorem numsOf_cons (n t n' d' : Int) (es : List (Int × Int × Int)) : numsOf n ((t, n', d') :: es) = n :: numsOf n' es := rfl
theorem nums_fall : ∀ {k : Nat} {l n d : Int} {es : List (Int × Int × Int)}, goodB n d = true → walkR (stG pick0) k l n d = some es →
    (∀ (i : Nat) (x y : Int), (numsOf n es)[i]? = some x → (numsOf n es)[i + 1]? = some y → y < x) ∧ (numsOf n es)[es.length]? = some 0
  | 0, l, n, d, es, hg, h => by
    by_cases h0 : n ≤ 0
    · rw [walkR_end h0] at h
      injection h with h
      subst h
      have := good_bounds hg
      obtain rfl : n = 0 := by omega
      exact ⟨fun i x y _ h2 => by simp [numsOf] at h2, rfl⟩
    · rw [walkR_out (by omega)] at h; cases h
  | k + 1, l, n, d, es, hg, h => by
    by_cases h0 : n ≤ 0
    · rw [walkR_end h0] at h
      injection h with h
      subst h
      have := good_bounds hg
      obtain rfl : n = 0 := by omega
      exact ⟨fun i x y _ h2 => by simp [numsOf] at h2, rfl⟩
    · have hn : 0 < n := by omega
      obtain ⟨_, _, d1, _⟩ := good_bounds hg
      obtain ⟨u1, _⟩ := ucd_facts (by omega : 1 ≤ n) d1
      cases hb : tB n d (ucd n d) with
      | false => rw [walkR_none hn (stG_no (p := pick0) hb)] at h; cases h
      | true =>
        have s1 := stG_yes (p := pick0) (l := l) (n := n) (d := d) hb
        have hp0 : pick0 l n d = ucd n d := rfl
        rw [hp0] at s1
        rw [walkR_some hn s1] at h
        cases hr : walkR (stG pick0) k (ucd n d + 1) (tN n d (ucd n d)) (tD n d (ucd n d)) with
        | none => rw [hr] at h; cases h
        | some es' =>
          rw [hr] at h
          injection h with h
          subst h
          obtain ⟨a, b⟩ := nums_fall (tB_good d1 u1 hb) hr
          have hl := tN_less hg (by omega) hb
          refine ⟨fun i x y hx hy => ?_, by rw [numsOf_cons, List.length_cons, List.getElem?_cons_succ]; exact b⟩
          rw [numsOf_cons] at hx hy
          cases i with
          | zero =>
            simp only [List.getElem?_cons_zero, Option.some.injEq] at hx
            simp only [Nat.zero_add, List.getElem?_cons_succ] at hy
            have : (numsOf (tN n d (ucd n d)) es')[0]? = some (tN n d (ucd n d)) := rfl
            rw [this] at hy
            injection hy with hy
            omega
          | succ i =>
            rw [List.getElem?_cons_succ] at hx hy
            exact a i x y hx hy
theorem Gr.grows : ∀ {xs : List Int} {lo : Int}, Gr lo xs → growsL xs = true
  | [], _, _ => growsL_short (by simp)
  | [_], _, _ => growsL_short (by simp)
  | x :: y :: ys, lo, h => by
    have hs := growsL_step (xs := x :: y :: ys) (k := 0) (x := x) (y := y) rfl rfl
    simp only [List.drop_zero, Nat.zero_add, List.drop_succ_cons] at hs
    rw [hs, Gr.grows h.2.2, Bool.and_true]
    exact decide_eq_true (by have := h.2.2.1; omega)
/-- of a greedy expansion of a fraction between 0 and 1 -/
structure GreM (n d : Int) (xs : List Int) (u p q : Int) (ys ns : List Int) : Prop where
  cut : xs = u :: ys
  step : tB n d (ucd n d) = true ∧ tT n d (ucd n d) = u ∧ tN n d (ucd n d) = p ∧ tD n d (ucd n d) = q
  nums : nmO n d = some (n :: p :: ns)
  nlen : (n :: p :: ns).length = xs.length + 1
  fall : ∀ (i : Nat) (x y : Int), (n :: p :: ns)[i]? = some x → (n :: p :: ns)[i + 1]? = some y → y < x
  last : (n :: p :: ns)[xs.length]? = some 0
  grows : gB xs = true
  few : (xs.length : Int) ≤ n
  rest : gexO p q = some ys
  pq : goodB p q = true
  n25 : (n :: p :: ns).length ≤ 25
  n64 : In64 (n :: p :: ns)
  st : stepB n d = true
theorem numsOf_in : ∀ {k : Nat} {l n d : Int} {es : List (Int × Int × Int)}, goodB n d = true → walkR (stG pick0) k l n d = some es → ∀ x ∈ numsOf n es, 0 ≤ x ∧ x ≤ 1000000000
  | 0, l, n, d, es, hg, h => by
    by_cases h0 : n ≤ 0
    · rw [walkR_end h0] at h
      injection h with h
      subst h
      have := good_bounds hg
      intro x hx
      simp [numsOf] at hx
      omega
    · rw [walkR_out (by omega)] at h; cases h
  | k + 1, l, n, d, es, hg, h => by
    by_cases h0 : n ≤ 0
    · rw [walkR_end h0] at h
      injection h with h
      subst h
      have := good_bounds hg
      intro x hx
      simp [numsOf] at hx
      omega
    · have hn : 0 < n := by omega
      obtain ⟨_, _, d1, _⟩ := good_bounds hg
      obtain ⟨u1, _⟩ := ucd_facts (by omega : 1 ≤ n) d1
      cases hb : tB n d (ucd n d) with
      | false => rw [walkR_none hn (stG_no (p := pick0) hb)] at h; cases h
      | true =>
        have s1 := stG_yes (p := pick0) (l := l) (n := n) (d := d) hb
        have hp0 : pick0 l n d = ucd n d := rfl
        rw [hp0] at s1
        rw [walkR_some hn s1] at h
        cases hr : walkR (stG pick0) k (ucd n d + 1) (tN n d (ucd n d)) (tD n d (ucd n d)) with
        | none => rw [hr] at h; cases h
        | some es' =>
          rw [hr] at h
          injection h with h
          subst h
          have ih := numsOf_in (tB_good d1 u1 hb) hr
          intro x hx
          rw [numsOf_cons] at hx
          rcases List.mem_cons.1 hx with rfl | hx
          · have := good_bounds hg; omega
          · exact ih x hx
theorem gexO_more {n d : Int} {xs : List Int} (h : gexO n d = some xs) (h0 : n ≠ 0) (h1 : n ≠ d) : ∃ u p q ys ns, GreM n d xs u p q ys ns := by
  obtain ⟨hg, hle, hk, es, hw, hes⟩ := gexO_parts h
  have hlt : n < d := by omega
  obtain ⟨n0, n1, d1, d2⟩ := good_bounds hg
  have hn : 0 < n := by omega
  obtain ⟨u1, u2, u3, u4⟩ := ucd_facts (by omega : 1 ≤ n) d1
  cases hb : tB n d (ucd n d) with
  | false => rw [walkR_none hn (stG_no (p := pick0) hb)] at hw; cases hw
  | true =>
    have hw0 := hw
    have s1 := stG_yes (p := pick0) (l := 0) (n := n) (d := d) hb
    have hp0 : pick0 0 n d = ucd n d := rfl
    rw [hp0] at s1
    rw [walkR_some hn s1] at hw
    cases hr : walkR (stG pick0) 23 (ucd n d + 1) (tN n d (ucd n d)) (tD n d (ucd n d)) with
    | none => rw [hr] at hw; cases hw
    | some es' =>
      rw [hr] at hw
      injection hw with hw
      subst hw
      subst hes
      have hg' := tB_good d1 u1 hb
      have hp := tB_parts hb
      have hb6 := greedy_six hg hlt hw0
      have hl := greedy_len hg hw0
      have hgw := (greedy_walk 24 hg hlt hw0).2
      have hf := nums_fall hg hw0
      have hin := numsOf_in hg hw0
      have hlt' : tN n d (ucd n d) < tD n d (ucd n d) := by
        obtain ⟨_, _, h3, _, h5, h6⟩ := hp
        obtain ⟨hc, hd'⟩ := red_cross (mul_pos1 d1 u1) h3
        rw [← h5, ← h6] at hc
        have h7 : n * ucd n d - d < d * ucd n d := by
          have := Int.mul_le_mul_of_nonneg_right (by omega : n ≤ d) (by omega : 0 ≤ ucd n d)
          omega
        have h8 := Int.mul_lt_mul_of_pos_right h7 (by omega : 0 < tD n d (ucd n d))
        rw [← hc, Int.mul_comm (d * ucd n d)] at h8
        exact Int.lt_of_mul_lt_mul_right h8 (by have := mul_pos1 d1 u1; omega)
      have hw24 := (walkR_more hr).1
      have hw24' : walkR (stG pick0) 24 0 (tN n d (ucd n d)) (tD n d (ucd n d)) = some es' := by
        rw [walk_pick 24 (l := 0) (l' := 0) hg' (by omega) (fun h => by have := (ucd_facts h (good_bounds hg').2.2.1).1; omega)]
        rw [← walk_pick 24 (l := 0) (l' := ucd n d + 1) hg' (by omega) (fun h => by have := (ucd_facts h (good_bounds hg').2.2.1).1; omega)]
        exact hw24
      have hrest : gexO (tN n d (ucd n d)) (tD n d (ucd n d)) = some (takenOf es') := by
        obtain ⟨hk', _, _⟩ := greedy_exp hg' (by omega) hw24'
        unfold gexO
        rw [if_pos (by simp [atMostB, hg']; omega), lstO_yes hw24' hk']
      have hnm : nmO n d = some (numsOf n ((ucd n d, tN n d (ucd n d), tD n d (ucd n d)) :: es')) := by
        unfold nmO
        rw [if_pos (by simp [belowB, hg, hlt]), hw0]
        rfl
      refine ⟨ucd n d, tN n d (ucd n d), tD n d (ucd n d), takenOf es', es'.map (fun p : Int × Int × Int => p.2.1), rfl, ⟨hb, hp.2.2.2.1, rfl, rfl⟩, hnm, by simp [takenOf], hf.1, ?_, ?_, by rw [takenOf_len]; exact hl, hrest, hg', by simp at hb6 ⊢; omega, In64.of_mem fun x hx => by have := hin x hx; omega, by simp [stepB, hg, h0]⟩
      · rw [takenOf_len]; exact hf.2
      · rw [gB_yes hk]; exact Gr.grows hgw
theorem gexO_ends {n d : Int} {xs : List Int} (h : gexO n d = some xs) (h0 : n = 0 ∨ n = d) : (xs.length : Int) = n := by
  obtain ⟨hg, hle, hk, es, hw, hes⟩ := gexO_parts h
  subst hes
  rcases h0 with rfl | rfl
  · rw [walkR_end (by omega)] at hw
    injection hw with hw
    subst hw
    rfl
  · have hg1 := ((goodB_iff n n).1 hg).2.2
    have hn1 : n = 1 := by
      have : gcdI n n = n := by unfold gcdI; rw [Int.gcd_self]; omega
      omega
    subst hn1
    have e1 : stG pick0 0 1 1 = some (1, 0, 1) := by decide +kernel
    rw [walkR_some (by omega) e1, walkR_end (by omega)] at hw
    injection hw with hw
    subst hw
    rfl
end Go.Proofs.Ytbjblkfibinenac
