
/-
  Plain facts on texts: cutting at a byte, numbers that are read, and that both ways of reading tell the same.
-/
import Derived.Test.YtbjblkfibinenabDoorPure
import Derived.Lib.ItoaNum
import Derived.Lib.AtoiAll
import Derived.Lib.IndexMore
import Derived.Lib.IndexLaws
import Derived.Lib.IndexBytes
import Derived.Lib.Split
namespace Go.Proofs.YtbjblkfibinenabDoor
/-! digits -/
theorem ofNat_dig {k : Nat} (h : k < 10) : (UInt8.ofNat (48 + k)).toNat = 48 + k := by rw [UInt8.toNat_ofNat']; omega
theorem dig_of {c : UInt8} (h1 : 48 ≤ c.toNat) (_h2 : c.toNat ≤ 57) : c = UInt8.ofNat (48 + (c.toNat - 48)) := by
  rw [show 48 + (c.toNat - 48) = c.toNat from by omega, UInt8.ofNat_toNat]
theorem dd_small {u : Nat} (h : u < 10) : Lib.decDigits u = [UInt8.ofNat (48 + u)] := by rw [Lib.decDigits, dif_pos h]
theorem dd_big {u : Nat} (h : ¬ u < 10) : Lib.decDigits u = Lib.decDigits (u / 10) ++ [UInt8.ofNat (48 + u % 10)] := by rw [Lib.decDigits, dif_neg h]
theorem dd_ne (u : Nat) : Lib.decDigits u ≠ [] := by
  by_cases h : u < 10
  · rw [dd_small h]; simp
  · rw [dd_big h]; simp
theorem dd_digits : ∀ (u : Nat), ∀ c ∈ Lib.decDigits u, 48 ≤ c.toNat ∧ c.toNat ≤ 57 := by
  intro u
  induction u using Nat.strongRecOn with
  | _ u ih =>
    intro c hc
    by_cases h : u < 10
    · rw [dd_small h] at hc
      simp only [List.mem_singleton] at hc
      subst hc
      rw [ofNat_dig h]; omega
    · rw [dd_big h, List.mem_append] at hc
      rcases hc with hc | hc
      · exact ih (u / 10) (by omega) c hc
      · simp only [List.mem_singleton] at hc
        subst hc
        rw [ofNat_dig (by omega)]; omega
/-- no zero ahead -/
theorem dd_head : ∀ (u : Nat), 1 ≤ u → ∀ c r, Lib.decDigits u = c :: r → 49 ≤ c.toNat := by
  intro u
  induction u using Nat.strongRecOn with
  | _ u ih =>
    intro h1 c r hc
    by_cases h : u < 10
    · rw [dd_small h] at hc
      injection hc with h2 h3
      rw [← h2, ofNat_dig h]; omega
    · rw [dd_big h] at hc
      cases hd : Lib.decDigits (u / 10) with
      | nil => exact absurd hd (dd_ne _)
      | cons c' r' =>
        rw [hd, List.cons_append] at hc
        injection hc with h2 h3
        subst h2
        exact ih (u / 10) (by omega) (by omega) c' r' hd
theorem dd_length : ∀ (k u : Nat), u < 10 ^ (k + 1) → (Lib.decDigits u).length ≤ k + 1 := by
  intro k
  induction k with
  | zero => intro u h; rw [dd_small (by simpa using h)]; simp
  | succ k ih =>
    intro u h
    by_cases h9 : u < 10
    · rw [dd_small h9]; simp
    · rw [dd_big h9]
      have := ih (u / 10) (by rw [Nat.pow_succ] at h; omega)
      simp only [List.length_append, List.length_singleton]; omega
theorem dd_inj {u v : Nat} (h : Lib.decDigits u = Lib.decDigits v) : u = v := by
  induction u using Nat.strongRecOn generalizing v with
  | _ u ih =>
    by_cases h1 : u < 10 <;> by_cases h2 : v < 10
    · rw [dd_small h1, dd_small h2] at h
      injection h with h3
      have := congrArg UInt8.toNat h3
      rw [ofNat_dig h1, ofNat_dig h2] at this
      omega
    · rw [dd_small h1, dd_big h2] at h
      have hl := congrArg List.length h
      have hp := List.length_pos_iff.2 (dd_ne (v / 10))
      simp only [List.length_append, List.length_cons, List.length_nil] at hl
      omega
    · rw [dd_big h1, dd_small h2] at h
      have hl := congrArg List.length h
      have hp := List.length_pos_iff.2 (dd_ne (u / 10))
      simp only [List.length_append, List.length_cons, List.length_nil] at hl
      omega
    · rw [dd_big h1, dd_big h2] at h
      obtain ⟨h3, h4⟩ := List.append_inj' h (by simp)
      have h5 := ih (u / 10) (by omega) h3
      injection h4 with h4
      have := congrArg UInt8.toNat h4
      rw [ofNat_dig (by omega), ofNat_dig (by omega)] at this
      omega
/-! the model's way of reading a number -/
def digs : Int → List UInt8 → Option Int
  | n, [] => some n
  | n, c :: r => if 48 ≤ c.toNat ∧ c.toNat ≤ 57 then digs (10 * n + c.toNat - 48) r else none
theorem digs_snoc : ∀ (p : List UInt8) (n : Int) (c : UInt8), digs n (p ++ [c]) = (digs n p).bind (fun m => if 48 ≤ c.toNat ∧ c.toNat ≤ 57 then some (10 * m + c.toNat - 48) else none)
  | [], n, c => by simp [digs]
  | a :: r, n, c => by
    rw [List.cons_append, digs, digs]
    split
    · exact digs_snoc r _ c
    · rfl
theorem digs_dd : ∀ (u : Nat), digs 0 (Lib.decDigits u) = some (u : Int) := by
  intro u
  induction u using Nat.strongRecOn with
  | _ u ih =>
    by_cases h : u < 10
    · rw [dd_small h, digs, ofNat_dig h, if_pos (by omega), digs]
      congr 1; omega
    · rw [dd_big h, digs_snoc, ih (u / 10) (by omega), Option.bind_some, ofNat_dig (by omega), if_pos (by omega)]
      congr 1; omega
/-- a text of digits without a zero ahead is the numeral of what is read -/
theorem digs_back : ∀ (k : Nat) (l : List UInt8), l.length = k → ∀ c r n, l = c :: r → c ≠ 48 → digs 0 l = some n → 1 ≤ n ∧ Lib.decDigits n.toNat = l := by
  intro k
  induction k with
  | zero => intro l hl c r n e; rw [e] at hl; simp at hl
  | succ k ih =>
    intro l hl c r n e hc hd
    rcases List.eq_nil_or_concat r with hr | ⟨p, b, hr⟩
    · subst hr
      subst e
      rw [digs] at hd
      split at hd
      · rename_i hb
        rw [digs] at hd
        injection hd with hd
        have hne : c.toNat ≠ 48 := fun h => hc (by rw [← UInt8.toNat_inj, h]; rfl)
        have h1 : n.toNat = c.toNat - 48 := by omega
        refine ⟨by omega, ?_⟩
        rw [h1, dd_small (by omega), ← dig_of hb.1 hb.2]
      · cases hd
    · subst hr
      have e2 : l = (c :: p) ++ [b] := by rw [e]; simp
      rw [e2, digs_snoc] at hd
      cases hm : digs 0 (c :: p) with
      | none => rw [hm] at hd; cases hd
      | some m =>
        rw [hm, Option.bind_some] at hd
        split at hd
        · rename_i hb
          injection hd with hd
          obtain ⟨h1, h2⟩ := ih (c :: p) (by rw [e2] at hl; simp at hl ⊢; omega) c p m rfl hc hm
          have h3 : n.toNat / 10 = m.toNat := by omega
          have h4 : n.toNat % 10 = b.toNat - 48 := by omega
          refine ⟨by omega, ?_⟩
          rw [dd_big (by omega), h3, h4, h2, ← dig_of hb.1 hb.2, e2]
        · cases hd
/-- what the model reads: a number of at most ten digits without a zero ahead, or -1 -/
def rdI (l : List UInt8) : Int := if l.length = 0 ∨ 10 < l.length ∨ (1 < l.length ∧ l.head? = some 48) then -1 else (digs 0 l).getD (-1)
theorem rdI_dd (u : Nat) (h : u < 10000000000) : rdI (Lib.decDigits u) = u := by
  have hl := dd_length 9 u (by omega)
  have hne := List.length_pos_iff.2 (dd_ne u)
  unfold rdI
  rw [if_neg, digs_dd]
  · rfl
  · rintro (h1 | h1 | ⟨h1, h2⟩)
    · omega
    · omega
    · cases hd : Lib.decDigits u with
      | nil => exact absurd hd (dd_ne u)
      | cons c r =>
        rw [hd] at h2 h1
        simp only [List.head?_cons, Option.some.injEq] at h2
        by_cases h0 : u = 0
        · subst h0
          rw [dd_small (by omega)] at hd
          injection hd with _ hd
          subst hd
          simp at h1
        · have := dd_head u (by omega) c r hd
          subst h2
          simp at this
theorem rdI_back {l : List UInt8} {n : Int} (h : rdI l = n) (h0 : 0 ≤ n) : Lib.decDigits n.toNat = l := by
  unfold rdI at h
  split at h
  · omega
  · rename_i hc
    cases hd : digs 0 l with
    | none => rw [hd] at h; simp at h; omega
    | some m =>
      rw [hd] at h
      simp only [Option.getD_some] at h
      subst h
      cases l with
      | nil => simp at hc
      | cons c r =>
        by_cases h48 : c = 48
        · subst h48
          have hr : r = [] := by
            cases r with
            | nil => rfl
            | cons _ _ => exact absurd (Or.inr (Or.inr ⟨by simp, by simp⟩)) hc
          subst hr
          simp [digs] at hd
          subst hd
          rw [dd_small (by simp)]
          rfl
        · exact (digs_back _ _ rfl c r m rfl h48 hd).2
/-! the program's way -/
def parseN (l : List UInt8) : Option Int := match Lib.atoiAll l with
  | .ok v => if Lib.itoa v = l then some v else none
  | _ => none
theorem parseN_itoa {l : List UInt8} {v : Int} (h : parseN l = some v) : Lib.itoa v = l := by
  unfold parseN at h
  split at h
  · split at h
    · rename_i he
      injection h with h
      subst h
      exact he
    · cases h
  · cases h
theorem parseN_back {l : List UInt8} {v : Int} (h : parseN l = some v) (h0 : 0 ≤ v) : Lib.decDigits v.toNat = l := by
  have := parseN_itoa h
  rwa [Lib.itoa, if_neg (by omega)] at this
theorem pu_snoc : ∀ (p : List UInt8) (a m : Nat) (c : UInt8), Lib.parseUint10 a p = .ok m → 48 ≤ c.toNat → c.toNat ≤ 57 → m < 1000000000000 → Lib.parseUint10 a (p ++ [c]) = .ok (m * 10 + (c.toNat - 48))
  | [], a, m, c, h, h1, h2, hm => by
    simp only [Lib.parseUint10] at h
    injection h with h
    subst h
    rw [List.nil_append]
    simp only [Lib.parseUint10]
    rw [if_pos ⟨h1, h2⟩, if_neg (by omega), if_neg (by omega)]
  | d :: r, a, m, c, h, h1, h2, hm => by
    rw [List.cons_append]
    simp only [Lib.parseUint10] at h ⊢
    split at h
    · rename_i hb
      rw [if_pos hb]
      split at h
      · cases h
      · rename_i h3
        rw [if_neg h3]
        split at h
        · cases h
        · rename_i h4
          rw [if_neg h4]
          exact pu_snoc r _ m c h h1 h2 hm
    · cases h
theorem pu_dd : ∀ (u : Nat), u < 10000000000 → Lib.parseUint10 0 (Lib.decDigits u) = .ok u := by
  intro u
  induction u using Nat.strongRecOn with
  | _ u ih =>
    intro hu
    by_cases h : u < 10
    · rw [dd_small h]
      have := pu_snoc [] 0 0 (UInt8.ofNat (48 + u)) rfl (by rw [ofNat_dig h]; omega) (by rw [ofNat_dig h]; omega) (by omega)
      rw [List.nil_append, ofNat_dig h] at this
      rw [this]
      congr 1; omega
    · rw [dd_big h, pu_snoc _ 0 (u / 10) _ (ih (u / 10) (by omega) (by omega)) (by rw [ofNat_dig (by omega)]; omega) (by rw [ofNat_dig (by omega)]; omega) (by omega), ofNat_dig (by omega)]
      congr 1; omega
theorem atoi_dd (u : Nat) (hu : u < 10000000000) : Lib.atoiAll (Lib.decDigits u) = .ok (u : Int) := by
  have hp := pu_dd u hu
  have hdg := dd_digits u
  cases hd : Lib.decDigits u with
  | nil => exact absurd hd (dd_ne u)
  | cons c r =>
    rw [hd] at hp hdg
    have hc := hdg c (by simp)
    unfold Lib.atoiAll
    simp only
    rw [if_neg (by omega), Lib.parseMag, if_neg (by simp), hp]
    simp only
    rw [if_neg (by omega), if_neg (by omega), if_neg (by omega)]
theorem parseN_dd (n : Int) (h0 : 0 ≤ n) (h1 : n < 10000000000) : parseN (Lib.decDigits n.toNat) = some n := by
  unfold parseN
  rw [atoi_dd _ (by omega)]
  simp only
  rw [if_pos]
  · congr 1; omega
  · rw [Lib.itoa, if_neg (by omega)]
    congr 1
end Go.Proofs.YtbjblkfibinenabDoor
