import Derived.Test.YtbjblkfibinenadGreatDoorPk2
import Derived.Test.YtbjblkfibinenadGreatDoorPk14
import Derived.Test.YtbjblkfibinenadGreatDoorPk23
import Derived.Test.YtbjblkfibinenadGreatDoorPm1
import Derived.Test.YtbjblkfibinenadGreatDoorPk19
import Derived.Test.YtbjblkfibinenadGreatDoorPk9
import Derived.Test.YtbjblkfibinenadGreatDoorPk21
import Derived.Test.YtbjblkfibinenadGreatDoorPk5
import Derived.Test.YtbjblkfibinenadGreatDoorPk3
import Derived.Test.YtbjblkfibinenadGreatDoorPk8

/-
  Contracts of functions that tell whether two lists are the same.
-/
namespace Go.Proofs.YtbjblkfibinenadGreatDoor
open Go.RowKit
set_option maxHeartbeats 2000000 in
theorem pSame_any (w : World) (A B : Option Addr) (c d : Nat) (xs ys : List Int) (ha : Reads w A xs) (hb : Reads w B ys) (hl : xs.length ≤ 1048576) (_ : ys.length ≤ 1048576) :
    Calls Tryz.prog 16 #[.slice A xs.length c, .slice B ys.length d] w (RetQ (.bool (decide (xs = ys))) w) := by
  have HA := Lib.hid ha
  have HB := Lib.hid hb
  clear ha hb
  by_cases hlen : xs.length = ys.length
  · have h1 : xs.length ≤ ys.length := by omega
    have h2 : ys.length ≤ xs.length := by omega
    have Hlen := Lib.hid hlen
    have hne : (((xs.length : Nat) : Int) != ((ys.length : Nat) : Int)) = false := by simp; omega
    clear hlen
    go_enter Tryz.func16, Tryz.ntmps16
    go_wp2
    go_loopw [13] (fun v13 wr => ∃ k : Nat, k ≤ xs.length ∧ v13 = .int .i64 k ∧ xs.take k = ys.take k ∧ ∃ n, wr = w.drewN n) (fun v13 _ => xs.length - (intOf v13).toNat)
    case atStart => exact ⟨0, Nat.zero_le _, rfl, by simp, 0, rfl⟩
    case round =>
      obtain ⟨k, hk, rfl, ht, n, rfl⟩ := hrel
      have HT := Lib.hid ht
      clear ht
      by_cases hlt : k < xs.length
      · obtain ⟨b, o, x, rfl, _, hx, hcell⟩ := HA.out.at_ hlt
        obtain ⟨b', o', y, rfl, _, hy, hcell'⟩ := HB.out.at_ (show k < ys.length by omega)
        have hki : (k : Int) < (xs.length : Int) := by omega
        have hki2 : (k : Int) < (ys.length : Int) := by omega
        by_cases hxy : x = y
        · subst hxy
          have HT2 : Hid (xs.take (k + 1) = ys.take (k + 1)) := Lib.hid (by
            rw [List.take_add_one, List.take_add_one, HT.out, hx, hy])
          clear hx hy
          go_wp2
          go_quiet (fail)
          go_wp2
          go_roundw
          case rel => exact ⟨k + 1, by omega, by go_num, HT2.out, _, rfl⟩
          case measure => simp [intOf]; omega
        · have E : Hid (decide (xs = ys) = false) := Lib.hid (by
            refine decide_eq_false fun e => hxy ?_
            rw [e, hy] at hx
            injection hx with hx
            exact hx.symm)
          have hnb : (x != y) = true := by simp [hxy]
          clear hx hy hxy
          go_wp2
          go_quiet (fail)
          go_wp2
          go_ret
          exact ⟨ret_bool E.out.symm, _, World.drewN_drewN _ _ _⟩
      · obtain rfl : k = xs.length := by omega
        have E : Hid (decide (xs = ys) = true) := Lib.hid (by
          refine decide_eq_true ?_
          have := HT.out
          rw [List.take_length, Hlen.out, List.take_length] at this
          exact this)
        go_wp2
        go_ret
        exact ⟨ret_bool E.out.symm, n, rfl⟩
  · have E : Hid (decide (xs = ys) = false) := Lib.hid (decide_eq_false fun e => hlen (by rw [e]))
    have hne : (((xs.length : Nat) : Int) != ((ys.length : Nat) : Int)) = true := by simp; omega
    clear hlen
    go_enter Tryz.func16, Tryz.ntmps16
    go_wp2
    go_ret
    exact ⟨ret_bool E.out.symm, 0, rfl⟩
end Go.Proofs.YtbjblkfibinenadGreatDoor


/-
  Contracts of the test whether an expansion is the greedy one.
-/
namespace Go.Proofs.YtbjblkfibinenadGreatDoor
open Go.RowKit
/-- the greedy expansion of an expansion's sum -/
def igO (xs : List Int) : Option (List Int) := if expB xs = true then gexO (sumN xs) (sumD xs) else none
def igB (xs : List Int) : Bool := match igO xs with | none => false | some ys => decide (xs = ys)
theorem igB_none {xs : List Int} (h : igO xs = none) : igB xs = false := by simp [igB, h]
theorem igB_some {xs ys : List Int} (h : igO xs = some ys) : igB xs = decide (xs = ys) := by simp [igB, h]
theorem gexO_small {n d : Int} {ys : List Int} (h : gexO n d = some ys) : ys.length ≤ 24 := by
  have := gexO_len n d
  rw [h] at this
  exact this
end Go.Proofs.YtbjblkfibinenadGreatDoor


/-
  Plain facts on greedy expansions: their numerators fall to 0, their terms grow, and the rest has the rest of the list.
-/
namespace Go.Proofs.YtbjblkfibinenadGreatDoor
open Go.RowKit
theorem gexO_parts {n d : Int} {xs : List Int} (h : gexO n d = some xs) : goodB n d = true ∧ n ≤ d ∧ expB xs = true ∧ ∃ es, walkR (stG pick0) 24 0 n d = some es ∧ takenOf es = xs := by
  unfold gexO at h
  split at h
  · rename_i hb
    obtain ⟨hg, hle⟩ := atMostB_yes hb
    unfold lstO at h
    cases hw : walkR (stG pick0) 24 0 n d with
    | none => rw [hw] at h; cases h
    | some es =>
      rw [hw] at h
      simp only [Option.bind_some] at h
      split at h
      · rename_i hk
        injection h with h
        subst h
        exact ⟨hg, hle, hk, es, rfl, rfl⟩
      · cases h
  · cases h
/-- of each greedy expansion -/
structure GreL (n d : Int) (xs : List Int) : Prop where
  exp : expB xs = true
  sum : eN xs = n ∧ eD xs = d
  same : igO xs = some xs
  l24 : xs.length ≤ 24
  x64 : In64 xs
  nd : goodB n d = true ∧ n ≤ d
theorem gexO_back {n d : Int} {xs : List Int} (h : gexO n d = some xs) : GreL n d xs := by
  obtain ⟨hg, hle, hk, es, hw, hes⟩ := gexO_parts h
  subst hes
  obtain ⟨_, a, b⟩ := greedy_exp hg hle hw
  refine ⟨hk, ⟨by rw [eN, if_pos hk, a], by rw [eD, if_pos hk, b]⟩, ?_, expB_len hk, In64.of_mem fun x hx => by have := expB_small hk x hx; omega, hg, hle⟩
  unfold igO
  rw [if_pos hk, a, b]
  exact h
theorem numsOf_cons (n t n' d' : Int) (es : List (Int × Int × Int)) : numsOf n ((t, n', d') :: es) = n :: numsOf n' es := rfl
theorem nums_fall : ∀ {k : Nat} {l n d : Int} {es : List (Int × Int × Int)}, goodB n d = true → walkR (stG pick0) k l n d = some es →
    (∀ (i : Nat) (x y : Int), (numsOf n es)[i]? = some x → (numsOf n es)[i + 1]? = some y → y < x) ∧ (numsOf n es)[es.length]? = some 0
  | 0, l, n, d, es, hg, h => by
    by_cases h0 : n ≤ 0
    · rw [walkR_end h0] at h
      injection h with h
      subst h
      have := good_bounds hg
      obtain rfl : n = 0 := by omega
      exact ⟨fun i x y _ h2 => by simp [numsOf] at h2, rfl⟩
    · rw [walkR_out (by omega)] at h; cases h
  | k + 1, l, n, d, es, hg, h => by
    by_cases h0 : n ≤ 0
    · rw [walkR_end h0] at h
      injection h with h
      subst h
      have := good_bounds hg
      obtain rfl : n = 0 := by omega
      exact ⟨fun i x y _ h2 => by simp [numsOf] at h2, rfl⟩
    · have hn : 0 < n := by omega
      obtain ⟨_, _, d1, _⟩ := good_bounds hg
      obtain ⟨u1, _⟩ := ucd_facts (by omega : 1 ≤ n) d1
      cases hb : tB n d (ucd n d) with
      | false => rw [walkR_none hn (stG_no (p := pick0) hb)] at h; cases h
      | true =>
        have s1 := stG_yes (p := pick0) (l := l) (n := n) (d := d) hb
        have hp0 : pick0 l n d = ucd n d := rfl
        rw [hp0] at s1
        rw [walkR_some hn s1] at h
        cases hr : walkR (stG pick0) k (ucd n d + 1) (tN n d (ucd n d)) (tD n d (ucd n d)) with
        | none => rw [hr] at h; cases h
        | some es' =>
          rw [hr] at h
          injection h with h
          subst h
          obtain ⟨a, b⟩ := nums_fall (tB_good d1 u1 hb) hr
          have hl := tN_less hg (by omega) hb
          refine ⟨fun i x y hx hy => ?_, by rw [numsOf_cons, List.length_cons, List.getElem?_cons_succ]; exact b⟩
          rw [numsOf_cons] at hx hy
          cases i with
          | zero =>
            simp only [List.getElem?_cons_zero, Option.some.injEq] at hx
            simp only [Nat.zero_add, List.getElem?_cons_succ] at hy
            have : (numsOf (tN n d (ucd n d)) es')[0]? = some (tN n d (ucd n d)) := rfl
            rw [this] at hy
            injection hy with hy
            omega
          | succ i =>
            rw [List.getElem?_cons_succ] at hx hy
            exact a i x y hx hy
theorem Gr.grows : ∀ {xs : List Int} {lo : Int}, Gr lo xs → growsL xs = true
  | [], _, _ => growsL_short (by simp)
  | [_], _, _ => growsL_short (by simp)
  | x :: y :: ys, lo, h => by
    have hs := growsL_step (xs := x :: y :: ys) (k := 0) (x := x) (y := y) rfl rfl
    simp only [List.drop_zero, Nat.zero_add, List.drop_succ_cons] at hs
    rw [hs, Gr.grows h.2.2, Bool.and_true]
    exact decide_eq_true (by have := h.2.2.1; omega)
/-- of a greedy expansion of a fraction between 0 and 1 -/
structure GreM (n d : Int) (xs : List Int) (u p q : Int) (ys ns : List Int) : Prop where
  cut : xs = u :: ys
  step : tB n d (ucd n d) = true ∧ tT n d (ucd n d) = u ∧ tN n d (ucd n d) = p ∧ tD n d (ucd n d) = q
  nums : nmO n d = some (n :: p :: ns)
  nlen : (n :: p :: ns).length = xs.length + 1
  fall : ∀ (i : Nat) (x y : Int), (n :: p :: ns)[i]? = some x → (n :: p :: ns)[i + 1]? = some y → y < x
  last : (n :: p :: ns)[xs.length]? = some 0
  grows : gB xs = true
  few : (xs.length : Int) ≤ n
  rest : gexO p q = some ys
  pq : goodB p q = true
  n25 : (n :: p :: ns).length ≤ 25
  n64 : In64 (n :: p :: ns)
  st : stepB n d = true
theorem numsOf_in : ∀ {k : Nat} {l n d : Int} {es : List (Int × Int × Int)}, goodB n d = true → walkR (stG pick0) k l n d = some es → ∀ x ∈ numsOf n es, 0 ≤ x ∧ x ≤ 1000000000
  | 0, l, n, d, es, hg, h => by
    by_cases h0 : n ≤ 0
    · rw [walkR_end h0] at h
      injection h with h
      subst h
      have := good_bounds hg
      intro x hx
      simp [numsOf] at hx
      omega
    · rw [walkR_out (by omega)] at h; cases h
  | k + 1, l, n, d, es, hg, h => by
    by_cases h0 : n ≤ 0
    · rw [walkR_end h0] at h
      injection h with h
      subst h
      have := good_bounds hg
      intro x hx
      simp [numsOf] at hx
      omega
    · have hn : 0 < n := by omega
      obtain ⟨_, _, d1, _⟩ := good_bounds hg
      obtain ⟨u1, _⟩ := ucd_facts (by omega : 1 ≤ n) d1
      cases hb : tB n d (ucd n d) with
      | false => rw [walkR_none hn (stG_no (p := pick0) hb)] at h; cases h
      | true =>
        have s1 := stG_yes (p := pick0) (l := l) (n := n) (d := d) hb
        have hp0 : pick0 l n d = ucd n d := rfl
        rw [hp0] at s1
        rw [walkR_some hn s1] at h
        cases hr : walkR (stG pick0) k (ucd n d + 1) (tN n d (ucd n d)) (tD n d (ucd n d)) with
        | none => rw [hr] at h; cases h
        | some es' =>
          rw [hr] at h
          injection h with h
          subst h
          have ih := numsOf_in (tB_good d1 u1 hb) hr
          intro x hx
          rw [numsOf_cons] at hx
          rcases List.mem_cons.1 hx with rfl | hx
          · have := good_bounds hg; omega
          · exact ih x hx
theorem gexO_more {n d : Int} {xs : List Int} (h : gexO n d = some xs) (h0 : n ≠ 0) (h1 : n ≠ d) : ∃ u p q ys ns, GreM n d xs u p q ys ns := by
  obtain ⟨hg, hle, hk, es, hw, hes⟩ := gexO_parts h
  have hlt : n < d := by omega
  obtain ⟨n0, n1, d1, d2⟩ := good_bounds hg
  have hn : 0 < n := by omega
  obtain ⟨u1, u2, u3, u4⟩ := ucd_facts (by omega : 1 ≤ n) d1
  cases hb : tB n d (ucd n d) with
  | false => rw [walkR_none hn (stG_no (p := pick0) hb)] at hw; cases hw
  | true =>
    have hw0 := hw
    have s1 := stG_yes (p := pick0) (l := 0) (n := n) (d := d) hb
    have hp0 : pick0 0 n d = ucd n d := rfl
    rw [hp0] at s1
    rw [walkR_some hn s1] at hw
    cases hr : walkR (stG pick0) 23 (ucd n d + 1) (tN n d (ucd n d)) (tD n d (ucd n d)) with
    | none => rw [hr] at hw; cases hw
    | some es' =>
      rw [hr] at hw
      injection hw with hw
      subst hw
      subst hes
      have hg' := tB_good d1 u1 hb
      have hp := tB_parts hb
      have hb6 := greedy_six hg hlt hw0
      have hl := greedy_len hg hw0
      have hgw := (greedy_walk 24 hg hlt hw0).2
      have hf := nums_fall hg hw0
      have hin := numsOf_in hg hw0
      have hlt' : tN n d (ucd n d) < tD n d (ucd n d) := by
        obtain ⟨_, _, h3, _, h5, h6⟩ := hp
        obtain ⟨hc, hd'⟩ := red_cross (mul_pos1 d1 u1) h3
        rw [← h5, ← h6] at hc
        have h7 : n * ucd n d - d < d * ucd n d := by
          have := Int.mul_le_mul_of_nonneg_right (by omega : n ≤ d) (by omega : 0 ≤ ucd n d)
          omega
        have h8 := Int.mul_lt_mul_of_pos_right h7 (by omega : 0 < tD n d (ucd n d))
        rw [← hc, Int.mul_comm (d * ucd n d)] at h8
        exact Int.lt_of_mul_lt_mul_right h8 (by have := mul_pos1 d1 u1; omega)
      have hw24 := (walkR_more hr).1
      have hw24' : walkR (stG pick0) 24 0 (tN n d (ucd n d)) (tD n d (ucd n d)) = some es' := by
        rw [walk_pick 24 (l := 0) (l' := 0) hg' (by omega) (fun h => by have := (ucd_facts h (good_bounds hg').2.2.1).1; omega)]
        rw [← walk_pick 24 (l := 0) (l' := ucd n d + 1) hg' (by omega) (fun h => by have := (ucd_facts h (good_bounds hg').2.2.1).1; omega)]
        exact hw24
      have hrest : gexO (tN n d (ucd n d)) (tD n d (ucd n d)) = some (takenOf es') := by
        obtain ⟨hk', _, _⟩ := greedy_exp hg' (by omega) hw24'
        unfold gexO
        rw [if_pos (by simp [atMostB, hg']; omega), lstO_yes hw24' hk']
      have hnm : nmO n d = some (numsOf n ((ucd n d, tN n d (ucd n d), tD n d (ucd n d)) :: es')) := by
        unfold nmO
        rw [if_pos (by simp [belowB, hg, hlt]), hw0]
        rfl
      refine ⟨ucd n d, tN n d (ucd n d), tD n d (ucd n d), takenOf es', es'.map (fun p : Int × Int × Int => p.2.1), rfl, ⟨hb, hp.2.2.2.1, rfl, rfl⟩, hnm, by simp [takenOf], hf.1, ?_, ?_, by rw [takenOf_len]; exact hl, hrest, hg', by simp at hb6 ⊢; omega, In64.of_mem fun x hx => by have := hin x hx; omega, by simp [stepB, hg, h0]⟩
      · rw [takenOf_len]; exact hf.2
      · rw [gB_yes hk]; exact Gr.grows hgw
theorem gexO_ends {n d : Int} {xs : List Int} (h : gexO n d = some xs) (h0 : n = 0 ∨ n = d) : (xs.length : Int) = n := by
  obtain ⟨hg, hle, hk, es, hw, hes⟩ := gexO_parts h
  subst hes
  rcases h0 with rfl | rfl
  · rw [walkR_end (by omega)] at hw
    injection hw with hw
    subst hw
    rfl
  · have hg1 := ((goodB_iff n n).1 hg).2.2
    have hn1 : n = 1 := by
      have : gcdI n n = n := by unfold gcdI; rw [Int.gcd_self]; omega
      omega
    subst hn1
    have e1 : stG pick0 0 1 1 = some (1, 0, 1) := by decide +kernel
    rw [walkR_some (by omega) e1, walkR_end (by omega)] at hw
    injection hw with hw
    subst hw
    rfl
end Go.Proofs.YtbjblkfibinenadGreatDoor


/-
  Plain facts on the method by inverses: what its expansion and its rests are like.
-/
namespace Go.Proofs.YtbjblkfibinenadGreatDoor
open Go.RowKit
theorem sumQ_permG {xs ys : List Int} (h : xs.Perm ys) : sumQ xs = sumQ ys := by
  induction h with
  | nil => rfl
  | cons x _ ih => show 1 / (x : Rat) + sumQ _ = 1 / (x : Rat) + sumQ _; rw [ih]
  | swap x y l => show 1 / (y : Rat) + (1 / (x : Rat) + sumQ l) = 1 / (x : Rat) + (1 / (y : Rat) + sumQ l); grind
  | trans _ _ i1 i2 => exact i1.trans i2
theorem gol_q {n d : Int} (h : proB n d = true) : rq n d = 1 / ((goT n d : Int) : Rat) + rq (goN n d) (goD n d) := by
  obtain ⟨n1, n2, d1, d2, hnd, hg, hgc, hi⟩ := proB_bounds h
  have G := gol h
  obtain ⟨e1, e2, e3⟩ := goR h
  rw [e1, e2, e3]
  have hs := G.s1
  have he := G.e
  generalize (n * invI n d - 1) / d = r at *
  generalize invI n d = s at *
  have h1 := ne0 (by omega : 1 ≤ d)
  have h2 := ne0 hs
  have h3 : (n : Rat) * s - 1 = d * r := by exact_mod_cast congrArg (fun x : Int => (x : Rat)) he
  unfold rq
  simp only [Rat.intCast_mul]
  grind
/-- the rests of a walk by inverses -/
def restsOf (n d : Int) (es : List (Int × Int × Int)) : List (Int × Int) := (n, d) :: es.map (·.2)
structure GolW (n d : Int) (es : List (Int × Int × Int)) : Prop where
  sum : sumQ (takenOf es) = rq n d
  few : (es.length : Int) ≤ n
  good : ∀ (i : Nat) (p q : Int), (restsOf n d es)[i]? = some (p, q) → goodB p q = true
  step : ∀ (i : Nat) (p q p' q' : Int), (restsOf n d es)[i]? = some (p, q) → (restsOf n d es)[i + 1]? = some (p', q') → proB p q = true ∧ p' = goN p q ∧ q' = goD p q ∧ p' < p ∧ q' < q ∧ goT p q ∈ takenOf es
  last : ∃ q, (restsOf n d es)[es.length]? = some (0, q)
theorem gol_w : ∀ (k : Nat) {l n d : Int} {es : List (Int × Int × Int)}, goodB n d = true → n < d → walkR stI k l n d = some es → GolW n d es
  | k, l, n, d, es, hg, hd, h => by
    by_cases h0 : n ≤ 0
    · rw [walkR_end h0] at h
      injection h with h
      subst h
      have hgb := good_bounds hg
      obtain rfl : n = 0 := by omega
      refine ⟨by simp [takenOf, sumQ, rq]; grind, by simp, fun i p q hi => ?_, fun i p q p' q' _ h2 => by simp [restsOf] at h2, d, rfl⟩
      cases i with
      | zero =>
        simp only [restsOf, List.getElem?_cons_zero, Option.some.injEq, Prod.mk.injEq] at hi
        rw [← hi.1, ← hi.2]; exact hg
      | succ i => simp [restsOf] at hi
    · have hp : proB n d = true := (proB_iff n d).2 ⟨hg, by omega, hd⟩
      have G := goN_small hp
      cases k with
      | zero => rw [walkR_out (by omega)] at h; cases h
      | succ k =>
        rw [walkR_some (by omega) (stI_yes (l := l) hp)] at h
        cases hr : walkR stI k (goT n d + 1) (goN n d) (goD n d) with
        | none => rw [hr] at h; cases h
        | some es' =>
          rw [hr] at h
          injection h with h
          subst h
          have W := gol_w k G.1 G.2.1 hr
          have hc : restsOf n d ((goT n d, goN n d, goD n d) :: es') = (n, d) :: restsOf (goN n d) (goD n d) es' := rfl
          refine ⟨?_, by have := W.few; simp only [List.length_cons]; omega, fun i p q hi => ?_, fun i p q p' q' h1 h2 => ?_, ?_⟩
          · show 1 / ((goT n d : Int) : Rat) + sumQ (takenOf es') = rq n d
            rw [W.sum, gol_q hp]
          · rw [hc] at hi
            cases i with
            | zero =>
              simp only [List.getElem?_cons_zero, Option.some.injEq, Prod.mk.injEq] at hi
              rw [← hi.1, ← hi.2]; exact hg
            | succ i => rw [List.getElem?_cons_succ] at hi; exact W.good i p q hi
          · rw [hc] at h1 h2
            cases i with
            | zero =>
              simp only [List.getElem?_cons_zero, Option.some.injEq, Prod.mk.injEq] at h1
              obtain ⟨rfl, rfl⟩ := h1
              simp only [Nat.zero_add, List.getElem?_cons_succ] at h2
              have e0 : (restsOf (goN n d) (goD n d) es')[0]? = some (goN n d, goD n d) := rfl
              rw [e0] at h2
              simp only [Option.some.injEq, Prod.mk.injEq] at h2
              obtain ⟨rfl, rfl⟩ := h2
              exact ⟨hp, rfl, rfl, G.2.2.1, G.2.2.2.1, List.mem_cons_self⟩
            | succ i =>
              rw [List.getElem?_cons_succ] at h1 h2
              obtain ⟨a, b, c, e, f, g⟩ := W.step i p q p' q' h1 h2
              exact ⟨a, b, c, e, f, List.mem_cons_of_mem _ g⟩
          · obtain ⟨q, hq⟩ := W.last
            exact ⟨q, by rw [hc, List.length_cons, List.getElem?_cons_succ]; exact hq⟩
theorem gol_top {k : Nat} {l n d : Int} {es : List (Int × Int × Int)} (hp : proB n d = true) (h : walkR stI k l n d = some es) : es ≠ [] ∧ ∀ t ∈ takenOf es, t ≤ d * (d - 1) := by
  obtain ⟨hg, hn, hd⟩ := (proB_iff n d).1 hp
  obtain ⟨n1, n2, d1, d2, _, _, _, _⟩ := proB_bounds hp
  have G := gol hp
  obtain ⟨e1, _, _⟩ := goR hp
  have hf := (gol_falls k hg hd h).1
  cases k with
  | zero => rw [walkR_out (by omega)] at h; cases h
  | succ k =>
    rw [walkR_some (by omega) (stI_yes (l := l) hp)] at h
    cases hr : walkR stI k (goT n d + 1) (goN n d) (goD n d) with
    | none => rw [hr] at h; cases h
    | some es' =>
      rw [hr] at h
      injection h with h
      subst h
      refine ⟨by simp, fun t ht => ?_⟩
      have hT : goT n d ≤ d * (d - 1) := by
        rw [e1]
        exact Int.mul_le_mul_of_nonneg_left (by have := G.sd; omega) (by omega)
      rcases List.mem_cons.1 (show t ∈ goT n d :: takenOf es' from ht) with rfl | h1
      · exact hT
      · have := (List.pairwise_cons.1 (show (goT n d :: takenOf es').Pairwise (fun a b => b < a) from hf)).1 t h1
        omega
theorem walkG_at {st : Stp} : ∀ {k m : Nat} {l n d : Int} {es : List (Int × Int × Int)}, walkR st k l n d = some es → es.length ≤ m → walkR st m l n d = some es
  | 0, m, l, n, d, es, h, hm => by
    by_cases h0 : n ≤ 0
    · rw [walkR_end h0] at h ⊢; exact h
    · rw [walkR_out (by omega)] at h; cases h
  | k + 1, m, l, n, d, es, h, hm => by
    by_cases h0 : n ≤ 0
    · rw [walkR_end h0] at h ⊢; exact h
    · have hn : 0 < n := by omega
      cases hs : st l n d with
      | none => rw [walkR_none hn hs] at h; cases h
      | some p =>
        obtain ⟨t, n', d'⟩ := p
        rw [walkR_some hn hs] at h
        cases hr : walkR st k (t + 1) n' d' with
        | none => rw [hr] at h; cases h
        | some es' =>
          rw [hr] at h
          injection h with h
          subst h
          cases m with
          | zero => simp at hm
          | succ m =>
            rw [walkR_some hn hs, walkG_at hr (by simpa using hm)]
            rfl
/-- of the expansion -/
structure GolA (n d : Int) (xs : List Int) : Prop where
  pro : proB n d = true
  exp : expB xs = true
  sum : eN xs = n ∧ eD xs = d
  few : (xs.length : Int) ≤ n
  ne : 1 ≤ xs.length
  le : ∀ x ∈ xs, x ≤ d * (d - 1)
  l24 : xs.length ≤ 24
  x64 : In64 xs
  walk : ∃ es, walkR stI 24 0 n d = some es ∧ (∀ t ∈ takenOf es, hasB xs t = true) ∧ xs.length = es.length
theorem gxO_back {n d : Int} {xs : List Int} (h : gxO n d = some xs) : GolA n d xs := by
  cases hp : proB n d with
  | false => rw [gxO_pro hp] at h; cases h
  | true =>
    cases hw : walkR stI 24 0 n d with
    | none => rw [gxO_none hw] at h; cases h
    | some es =>
      obtain ⟨hg, hn, hd⟩ := (proB_iff n d).1 hp
      have hf := golO_facts (xs := takenOf es) hp (by unfold golO; rw [hw]; rfl)
      rw [gxO_some hp hw, putAll_srt hf.2.2.2] at h
      split at h
      · rename_i hx
        injection h with h
        subst h
        have W := gol_w 24 hg hd hw
        have T := gol_top hp hw
        have hq := sum_q hx
        rw [sumQ_permG (srt_perm _), W.sum] at hq
        obtain ⟨a, b⟩ := good_same (good_sum hx) hg hq
        have hl : (srt (takenOf es)).length = es.length := by rw [srt_len, takenOf_len]
        refine ⟨hp, hx, ⟨by rw [eN, if_pos hx, a], by rw [eD, if_pos hx, b]⟩, by rw [hl]; exact W.few, ?_, fun x hx => T.2 x (srt_mem.1 hx), expB_len hx, srt_64 hf.2.2.1, es, hw, fun t ht => (hasB_iff _ _).2 (srt_mem.2 ht), hl⟩
        rw [hl]
        have := T.1
        cases es with
        | nil => exact absurd rfl this
        | cons _ _ => simp
      · cases h
/-- of the rests -/
theorem grsO_back {n d : Int} {fs : List (Int × Int)} (h : grsO n d = some fs) : proB n d = true ∧ ∃ es, walkR stI 300 0 n d = some es ∧ fs = restsOf n d es ∧ GolW n d es ∧ es.length ≤ 300 := by
  unfold grsO at h
  split at h
  · rename_i hp
    obtain ⟨hg, hn, hd⟩ := (proB_iff n d).1 hp
    cases hw : walkR stI 300 0 n d with
    | none => rw [hw] at h; cases h
    | some es =>
      rw [hw] at h
      injection h with h
      exact ⟨hp, es, rfl, h.symm, gol_w 300 hg hd hw, walkR_len 300 hw⟩
  · cases h
end Go.Proofs.YtbjblkfibinenadGreatDoor


/-
  Plain facts on the terms of the method by binary digits: their sum, their number, and their bound.
-/
namespace Go.Proofs.YtbjblkfibinenadGreatDoor
open Go.RowKit
theorem sumQ_perm {xs ys : List Int} (h : xs.Perm ys) : sumQ xs = sumQ ys := by
  induction h with
  | nil => rfl
  | cons x _ ih => show 1 / (x : Rat) + sumQ _ = 1 / (x : Rat) + sumQ _; rw [ih]
  | swap x y l => show 1 / (y : Rat) + (1 / (x : Rat) + sumQ l) = 1 / (x : Rat) + (1 / (y : Rat) + sumQ l); grind
  | trans _ _ i1 i2 => exact i1.trans i2
theorem rq_add {a b d : Int} (hd : 1 ≤ d) : rq a d + rq b d = rq (a + b) d := by
  have := ne0 hd
  unfold rq
  rw [Rat.intCast_add]
  grind
theorem hvL_sum : ∀ (k : Nat) {m c : Int} {J : Nat}, 0 ≤ m → m < 2 ^ k → m < 2 ^ J → 1 ≤ c → sumQ (hvL k m (c * 2 ^ J)) = rq m (c * 2 ^ J)
  | 0, m, c, J, h0, h1, _, _ => by
    simp at h1
    obtain rfl : m = 0 := by omega
    show (0 : Rat) = _
    unfold rq
    grind
  | k + 1, m, c, J, h0, h1, h2, hc => by
    by_cases hm : m ≤ 0
    · obtain rfl : m = 0 := by omega
      rw [hvL_end (by omega)]
      show (0 : Rat) = _
      unfold rq
      grind
    · cases J with
      | zero => simp at h2; omega
      | succ j =>
        have hp : (2 : Int) ^ (j + 1) = 2 ^ j * 2 := Int.pow_succ _ _
        have hpk : (2 : Int) ^ (k + 1) = 2 ^ k * 2 := Int.pow_succ _ _
        have hpj := pow_pos' j
        have he : c * 2 ^ (j + 1) / 2 = c * 2 ^ j := by
          rw [hp, ← Int.mul_assoc]
          exact Int.mul_ediv_cancel _ (by omega)
        have ih := hvL_sum k (m := m / 2) (c := c) (J := j) (by omega) (by omega) (by omega) hc
        have hcj := mul_pos1 hc hpj
        have hcj2 := mul_pos1 hc (pow_pos' (j + 1))
        have e1 : rq (m / 2) (c * 2 ^ j) = rq (2 * (m / 2)) (c * 2 ^ (j + 1)) := rq_eq hcj hcj2 (by rw [hp]; grind)
        by_cases ho : m % 2 = 1
        · rw [hvL_odd (by omega) ho, he]
          show 1 / ((c * 2 ^ (j + 1) : Int) : Rat) + sumQ _ = _
          rw [ih, e1]
          have e2 : (1 : Rat) / ((c * 2 ^ (j + 1) : Int) : Rat) = rq 1 (c * 2 ^ (j + 1)) := by unfold rq; simp
          rw [e2, rq_add hcj2]
          congr 1
          omega
        · rw [hvL_even (by omega) ho, he, ih, e1]
          congr 1
          omega
theorem bL_sum {n d : Int} (hp : proB n d = true) : sumQ (bL n d) = rq n d := by
  obtain ⟨J, B⟩ := binS hp
  obtain ⟨hg, hn, hd⟩ := (proB_iff n d).1 hp
  obtain ⟨_, _, d1, d2⟩ := good_bounds hg
  have hN := B.N
  have N1 := B.N1
  have s0 := B.s0
  have s1 := B.s1
  have r0 := B.r0
  have r1 := B.r1
  have dN := B.dN
  have he := B.e
  have h31 : (2 : Int) ^ J ≤ 2 ^ 31 := by
    rw [pow_split B.J31]
    have h1 := pow_pos' (31 - J)
    have h2 := pow_pos' J
    have := Int.mul_le_mul_of_nonneg_left h1 (show 0 ≤ (2 : Int) ^ J by omega)
    omega
  have a := hvL_sum 31 (m := n * p2 d / d) (c := 1) (J := J) s0 (by omega) (by omega) (by omega)
  have b := hvL_sum 31 (m := n * p2 d % d) (c := d) (J := J) r0 (by omega) (by omega) d1
  rw [Int.one_mul, ← hN] at a
  rw [← hN] at b
  have hdN := mul_pos1 d1 N1
  unfold bL
  rw [sumQ_append, a, b]
  have e1 : rq (n * p2 d / d) (p2 d) = rq (d * (n * p2 d / d)) (d * p2 d) := rq_eq N1 hdN (by grind)
  rw [e1, rq_add hdN, he]
  exact rq_eq hdN d1 (by grind)
/-- the number of digits 1 -/
def pc : Nat → Int → Int
  | 0, _ => 0
  | k + 1, m => if m ≤ 0 then 0 else m % 2 + pc k (m / 2)
theorem pc_end {k : Nat} {m : Int} (h : m ≤ 0) : pc k m = 0 := by
  cases k with
  | zero => rfl
  | succ k => exact if_pos h
theorem pc_more {k : Nat} {m : Int} (h : 0 < m) : pc (k + 1) m = m % 2 + pc k (m / 2) := if_neg (by omega)
theorem hvL_pc : ∀ (k : Nat) (m e : Int), ((hvL k m e).length : Int) = pc k m
  | 0, m, e => rfl
  | k + 1, m, e => by
    by_cases hm : m ≤ 0
    · rw [hvL_end hm, pc_end hm]; rfl
    · have ih := hvL_pc k (m / 2) (e / 2)
      rw [pc_more (by omega)]
      by_cases ho : m % 2 = 1
      · rw [hvL_odd (by omega) ho, List.length_cons]; omega
      · rw [hvL_even (by omega) ho]; omega
theorem pc_in : ∀ (k : Nat) (m : Int), 0 ≤ pc k m ∧ pc k m ≤ k
  | 0, m => by simp [pc]
  | k + 1, m => by
    have ih := pc_in k (m / 2)
    by_cases hm : m ≤ 0
    · rw [pc_end hm]; omega
    · rw [pc_more (by omega)]; omega
theorem bL_len (n d : Int) : ((bL n d).length : Int) = pc 31 (n * p2 d / d) + pc 31 (n * p2 d % d) := by
  unfold bL
  rw [List.length_append]
  have a := hvL_pc 31 (n * p2 d / d) (p2 d)
  have b := hvL_pc 31 (n * p2 d % d) (d * p2 d)
  omega
theorem bL_le {n d : Int} (hp : proB n d = true) : ∀ x ∈ bL n d, x ≤ d * p2 d := fun x hx => by
  obtain ⟨J, B⟩ := binS hp
  obtain ⟨hg, hn, hd⟩ := (proB_iff n d).1 hp
  obtain ⟨_, _, d1, d2⟩ := good_bounds hg
  have N1 := B.N1
  have hdN1 : 1 * p2 d ≤ d * p2 d := Int.mul_le_mul_of_nonneg_right d1 (by omega)
  unfold bL at hx
  rcases List.mem_append.1 hx with h | h
  · have := hvL_mem 31 (m := n * p2 d / d) (e := p2 d) (by omega) x h
    omega
  · have := hvL_mem 31 (m := n * p2 d % d) (e := d * p2 d) (by omega) x h
    omega
/-- of the expansion, if it is told -/
theorem bL_exp {n d : Int} (hp : proB n d = true) (h : expB (srt (bL n d)) = true) : eN (srt (bL n d)) = n ∧ eD (srt (bL n d)) = d := by
  have hq := sum_q h
  rw [sumQ_perm (srt_perm _), bL_sum hp] at hq
  have e1 : eN (srt (bL n d)) = sumN (srt (bL n d)) := if_pos h
  have e2 : eD (srt (bL n d)) = sumD (srt (bL n d)) := if_pos h
  have := good_same (good_sum h) ((proB_iff n d).1 hp).1 hq
  rw [e1, e2]
  exact this
end Go.Proofs.YtbjblkfibinenadGreatDoor


/-
  Contracts of the fraction with given digits by factorials, in the program and in the model.
-/
namespace Go.Proofs.YtbjblkfibinenadGreatDoor
open Go.RowKit
theorem ff_pre {xs : List Int} {k : Nat} (hk : k ≤ xs.length) (h11 : k ≤ 11) (h : ∀ (i : Nat) (x : Int), i < k → xs[i]? = some x → 0 ≤ x ∧ x ≤ (i : Int) + 1) : 0 ≤ ffN (xs.take k) ∧ ffN (xs.take k) < ffD (xs.take k) ∧ 1 ≤ ffD (xs.take k) ∧ ffD (xs.take k) ≤ 479001600 := by
  have hl : (xs.take k).length = k := by rw [List.length_take]; omega
  have h1 := ffN_bound (xs.take k) (fun i x hx => by
    have hik : i < k := by have := (List.getElem?_eq_some_iff.1 hx).1; omega
    rw [List.getElem?_take_of_lt hik] at hx
    exact h i x hik hx) k (by omega)
  have h2 := ffD_in (ds := xs.take k) (by omega)
  rw [List.take_of_length_le (show (xs.take k).length ≤ k by omega)] at h1
  exact ⟨h1.1, h1.2, h2.1, h2.2⟩
theorem ff_next {xs : List Int} {k : Nat} {x : Int} (hk : k < xs.length) (hx : xs[k]? = some x) : xs.take (k + 1) = xs.take k ++ [x] ∧ ffN (xs.take (k + 1)) = ffN (xs.take k) * ((k : Int) + 2) + x ∧ ffD (xs.take (k + 1)) = ffD (xs.take k) * ((k : Int) + 2) ∧ ffD (xs.take (k + 1)) = fac (k + 2) := by
  have hl : (xs.take k).length = k := by rw [List.length_take]; omega
  have e : xs.take (k + 1) = xs.take k ++ [x] := by rw [List.take_add_one, hx]; rfl
  have hl2 : (xs.take (k + 1)).length = k + 1 := by rw [List.length_take]; omega
  refine ⟨e, ?_, ?_, by unfold ffD; rw [hl2]⟩
  · rw [e, ffN_snoc, hl]; congr 1
  · rw [e, ffD_snoc, hl]; congr 1
theorem ff_more {xs : List Int} {k : Nat} {x : Int} (h : ∀ (i : Nat) (y : Int), i < k → xs[i]? = some y → 0 ≤ y ∧ y ≤ (i : Int) + 1) (hx : xs[k]? = some x) (h2 : 0 ≤ x ∧ x ≤ (k : Int) + 1) : ∀ (i : Nat) (y : Int), i < k + 1 → xs[i]? = some y → 0 ≤ y ∧ y ≤ (i : Int) + 1 := fun i y hi hy => by
  rcases Nat.lt_or_eq_of_le (Nat.le_of_lt_succ hi) with h1 | h1
  · exact h i y h1 hy
  · subst h1; rw [hx] at hy; injection hy with hy; subst hy; exact h2
theorem ffR_no {xs : List Int} (h : ffB xs = false) : ffRN xs = 0 ∧ ffRD xs = 0 ∧ ffB xs = false := ⟨by simp [ffRN, h], by simp [ffRD, h], h⟩
theorem ffR_yes {xs : List Int} (h : ffB xs = true) : ffRN xs = ffA xs ∧ ffRD xs = ffC xs ∧ ffB xs = true := ⟨if_pos h, if_pos h, h⟩
end Go.Proofs.YtbjblkfibinenadGreatDoor


/-
  The contract of the model's fraction with given digits by factorials.
-/
namespace Go.Proofs.YtbjblkfibinenadGreatDoor
open Go.RowKit
end Go.Proofs.YtbjblkfibinenadGreatDoor
