import Derived.Test.YtolgjokghecceaaGreatDoorPk20
import Derived.Test.YtolgjokghecceaaGreatDoorPk17
import Derived.Test.YtolgjokghecceaaGreatDoorPk19
import Derived.Test.YtolgjokghecceaaGreatDoorPk1
import Derived.Test.YtolgjokghecceaaGreatDoorPk2

/-
  Plain facts on the terms of the method by binary digits: they are different.
-/
namespace Go.Proofs.YtolgjokghecceaaGreatDoor
open Go.RowKit
/-- whole / 2^i for all places i of the digits 1 of a number, so many places at most -/
def hvL : Nat → Int → Int → List Int
  | 0, _, _ => []
  | k + 1, m, e => if m ≤ 0 then [] else if m % 2 = 1 then e :: hvL k (m / 2) (e / 2) else hvL k (m / 2) (e / 2)
theorem hvL_end {k : Nat} {m e : Int} (h : m ≤ 0) : hvL k m e = [] := by
  cases k with
  | zero => rfl
  | succ k => exact if_pos h
theorem hvL_odd {k : Nat} {m e : Int} (h : 0 < m) (h2 : m % 2 = 1) : hvL (k + 1) m e = e :: hvL k (m / 2) (e / 2) := by
  have : ¬ m ≤ 0 := by omega
  simp [hvL, this, h2]
theorem hvL_even {k : Nat} {m e : Int} (h : 0 < m) (h2 : ¬ m % 2 = 1) : hvL (k + 1) m e = hvL k (m / 2) (e / 2) := by
  have : ¬ m ≤ 0 := by omega
  simp [hvL, this, h2]
theorem hvL_len : ∀ (k : Nat) (m e : Int), (hvL k m e).length ≤ k
  | 0, m, e => by simp [hvL]
  | k + 1, m, e => by
    have := hvL_len k (m / 2) (e / 2)
    unfold hvL
    split
    · simp
    · split
      · simp only [List.length_cons]; omega
      · omega
/-- they lie between 0 and whole -/
theorem hvL_mem : ∀ (k : Nat) {m e : Int}, 0 ≤ e → ∀ x ∈ hvL k m e, 0 ≤ x ∧ x ≤ e
  | 0, m, e, _, x, hx => by simp [hvL] at hx
  | k + 1, m, e, he, x, hx => by
    have ih := hvL_mem k (m := m / 2) (e := e / 2) (by omega) x
    by_cases h1 : m ≤ 0
    · rw [hvL_end h1] at hx; simp at hx
    · by_cases h2 : m % 2 = 1
      · rw [hvL_odd (by omega) h2] at hx
        rcases List.mem_cons.1 hx with h | h
        · subst h; omega
        · have := ih h; omega
      · rw [hvL_even (by omega) h2] at hx
        have := ih hx; omega
/-- they fall, as long as whole is great enough -/
theorem hvL_fall : ∀ (k : Nat) {m e : Int}, m ≤ e → (hvL k m e).Pairwise (fun a b => b < a)
  | 0, m, e, _ => by simp [hvL]
  | k + 1, m, e, he => by
    have ih := hvL_fall k (m := m / 2) (e := e / 2) (by omega)
    by_cases h1 : m ≤ 0
    · rw [hvL_end h1]; simp
    · by_cases h2 : m % 2 = 1
      · rw [hvL_odd (by omega) h2, List.pairwise_cons]
        refine ⟨fun x hx => ?_, ih⟩
        have := hvL_mem k (m := m / 2) (e := e / 2) (by omega) x hx
        omega
      · rw [hvL_even (by omega) h2]
        exact ih
/-- each is a power of 2 times what whole is a power of 2 times of -/
theorem hvL_pow : ∀ (k : Nat) {m c : Int} {j : Nat}, m < 2 ^ j → 0 < c → ∀ x ∈ hvL k m (c * 2 ^ j), ∃ i, i ≤ j ∧ x = c * 2 ^ i
  | 0, m, c, j, _, _, x, hx => by simp [hvL] at hx
  | k + 1, m, c, j, hm, hc, x, hx => by
    by_cases h1 : m ≤ 0
    · rw [hvL_end h1] at hx; simp at hx
    · cases j with
      | zero =>
        simp at hm
        omega
      | succ j =>
        have he : c * 2 ^ (j + 1) / 2 = c * 2 ^ j := by
          rw [Int.pow_succ, ← Int.mul_assoc]
          exact Int.mul_ediv_cancel _ (by omega)
        have hp : (2 : Int) ^ (j + 1) = 2 ^ j * 2 := Int.pow_succ _ _
        have hm2 : m / 2 < 2 ^ j := by omega
        by_cases h2 : m % 2 = 1
        · rw [hvL_odd (by omega) h2, he] at hx
          rcases List.mem_cons.1 hx with h | h
          · exact ⟨j + 1, Nat.le_refl _, h⟩
          · obtain ⟨i, hi, e⟩ := hvL_pow k hm2 hc x h
            exact ⟨i, by omega, e⟩
        · rw [hvL_even (by omega) h2, he] at hx
          obtain ⟨i, hi, e⟩ := hvL_pow k hm2 hc x hx
          exact ⟨i, by omega, e⟩
theorem hvL_ne : ∀ (k : Nat) {m e : Int}, 0 < m → m < 2 ^ k → hvL k m e ≠ []
  | 0, m, e, h0, h1 => by simp at h1; omega
  | k + 1, m, e, h0, h1 => by
    have hp : (2 : Int) ^ (k + 1) = 2 ^ k * 2 := Int.pow_succ _ _
    by_cases h2 : m % 2 = 1
    · rw [hvL_odd h0 h2]; simp
    · rw [hvL_even h0 h2]
      exact hvL_ne k (by omega) (by omega)
/-- the terms, as they come -/
def bL (n d : Int) : List Int := hvL 31 (n * p2 d / d) (p2 d) ++ hvL 31 (n * p2 d % d) (d * p2 d)
structure BinS (n d : Int) (J : Nat) : Prop where
  J31 : J ≤ 31
  N : p2 d = 2 ^ J
  N1 : 1 ≤ p2 d
  N2 : p2 d < 2 * d
  dN : d ≤ p2 d
  s0 : 0 ≤ n * p2 d / d
  s1 : n * p2 d / d < p2 d
  r0 : 0 ≤ n * p2 d % d
  r1 : n * p2 d % d < d
  e : d * (n * p2 d / d) + n * p2 d % d = n * p2 d
theorem binS {n d : Int} (hp : proB n d = true) : ∃ J, BinS n d J := by
  obtain ⟨hg, hn, hd⟩ := (proB_iff n d).1 hp
  obtain ⟨_, _, d1, d2⟩ := good_bounds hg
  obtain ⟨J, ⟨h1, h2, h3, h4, _⟩, h5⟩ := p2_is d1 d2
  have hpos := mul_pos1 hn h3
  refine ⟨J, h1, h2, h3, h4, h5, Int.ediv_nonneg (by omega) (by omega), ?_, Int.emod_nonneg _ (by omega), Int.emod_lt_of_pos _ (by omega), Int.mul_ediv_add_emod _ _⟩
  refine Int.ediv_lt_of_lt_mul (by omega) ?_
  rw [Int.mul_comm (p2 d)]
  exact Int.mul_lt_mul_of_pos_right hd (by omega)
theorem pow_split {i J : Nat} (h : i ≤ J) : (2 : Int) ^ J = 2 ^ i * 2 ^ (J - i) := by rw [← Int.pow_add]; congr 1; omega
theorem pow_pos' (i : Nat) : 1 ≤ (2 : Int) ^ i := by have := Int.pow_pos (n := (2 : Int)) (m := i) (by omega); omega
theorem bL_facts {n d : Int} (hp : proB n d = true) : bL n d ≠ [] ∧ (bL n d).length ≤ 62 ∧ (∀ x ∈ bL n d, 0 ≤ x ∧ x ≤ 2000000000000000000) ∧ (bL n d).Nodup := by
  obtain ⟨J, B⟩ := binS hp
  obtain ⟨hg, hn, hd⟩ := (proB_iff n d).1 hp
  obtain ⟨_, _, d1, d2⟩ := good_bounds hg
  have hN := B.N
  have N1 := B.N1
  have N2 := B.N2
  have s0 := B.s0
  have s1 := B.s1
  have r0 := B.r0
  have r1 := B.r1
  have dN := B.dN
  have hdN := Int.mul_le_mul d2 (show p2 d ≤ 2000000000 by omega) (by omega) (by omega : (0 : Int) ≤ 1000000000)
  have hdN1 : 1 * p2 d ≤ d * p2 d := Int.mul_le_mul_of_nonneg_right d1 (by omega)
  refine ⟨fun e => ?_, ?_, fun x hx => ?_, ?_⟩
  · obtain ⟨e1, e2⟩ := List.append_eq_nil_iff.1 e
    have h31 : (2 : Int) ^ J ≤ 2 ^ 31 := by
      rw [pow_split B.J31]
      have h1 := pow_pos' (31 - J)
      have h2 := pow_pos' J
      have := Int.mul_le_mul_of_nonneg_left h1 (show 0 ≤ (2 : Int) ^ J by omega)
      omega
    have hs : ¬ 0 < n * p2 d / d := fun h => hvL_ne 31 h (by omega) e1
    have hr : ¬ 0 < n * p2 d % d := fun h => hvL_ne 31 h (by omega) e2
    have he := B.e
    have hpos := mul_pos1 hn N1
    have : n * p2 d / d = 0 := by omega
    rw [this] at he
    omega
  · unfold bL
    rw [List.length_append]
    have := hvL_len 31 (n * p2 d / d) (p2 d)
    have := hvL_len 31 (n * p2 d % d) (d * p2 d)
    omega
  · unfold bL at hx
    rcases List.mem_append.1 hx with h | h
    · have := hvL_mem 31 (m := n * p2 d / d) (e := p2 d) (by omega) x h
      omega
    · have := hvL_mem 31 (m := n * p2 d % d) (e := d * p2 d) (by omega) x h
      omega
  · unfold bL
    refine List.nodup_append.2 ⟨falling_nodup (hvL_fall 31 (by omega)), falling_nodup (hvL_fall 31 (by omega)), fun a ha b hb hab => ?_⟩
    subst hab
    have ha' : a ∈ hvL 31 (n * p2 d / d) (1 * 2 ^ J) := by rw [Int.one_mul, ← hN]; exact ha
    have hb' : a ∈ hvL 31 (n * p2 d % d) (d * 2 ^ J) := by rw [← hN]; exact hb
    obtain ⟨i, hi, e1⟩ := hvL_pow 31 (c := 1) (j := J) (by omega) (by omega) a ha'
    obtain ⟨i', hi', e2⟩ := hvL_pow 31 (c := d) (j := J) (by omega) (by omega) a hb'
    have hdv : d ∣ p2 d := by
      rw [hN, pow_split hi]
      rw [Int.one_mul] at e1
      exact ⟨2 ^ i' * 2 ^ (J - i), by rw [← e1, e2]; grind⟩
    have hz : n * p2 d % d = 0 := Int.emod_eq_zero_of_dvd (Int.dvd_trans hdv ⟨n, Int.mul_comm _ _⟩)
    rw [hz, hvL_end (by omega)] at hb
    cases hb
def biO (n d : Int) : Option (List Int) := some (bL n d)
end Go.Proofs.YtolgjokghecceaaGreatDoor


/-
  Contracts of the parts that the method by binary digits begins with.
-/
namespace Go.Proofs.YtolgjokghecceaaGreatDoor
open Go.RowKit
theorem pow_le31 {k : Nat} (h : k ≤ 31) : (2 : Int) ^ k ≤ 2147483648 := by
  have h1 := Nat.pow_le_pow_right (n := 2) (by omega) h
  have e : (2 : Int) ^ k = ((2 ^ k : Nat) : Int) := by simp
  have e2 : (2 : Nat) ^ 31 = 2147483648 := rfl
  rw [e]
  omega
/-- the relation of the loop -/
def Hv (m0 e0 : Int) (k : Nat) (m e : Int) (xs : List Int) : Prop := 0 ≤ m ∧ m < 2 ^ k ∧ k ≤ 31 ∧ 0 ≤ e ∧ e ≤ 9223372036854775807 ∧ xs.length + k ≤ 31 ∧ hvL 31 m0 e0 = xs ++ hvL k m e
theorem Hv.more {m0 e0 m e : Int} {k : Nat} {xs : List Int} (h : Hv m0 e0 k m e xs) (hm : 0 < m) : ∃ j, k = j + 1 ∧ Hv m0 e0 j (m / 2) (e / 2) (if m % 2 = 1 then xs ++ [e] else xs) := by
  obtain ⟨h1, h2, h3, h4, h5, h6, h7⟩ := h
  cases k with
  | zero => simp at h2; omega
  | succ j =>
    have hp : (2 : Int) ^ (j + 1) = 2 ^ j * 2 := Int.pow_succ _ _
    refine ⟨j, rfl, by omega, by omega, by omega, by omega, by omega, ?_, ?_⟩
    · split <;> (try simp) <;> omega
    · by_cases ho : m % 2 = 1
      · rw [if_pos ho, h7, hvL_odd hm ho, List.append_assoc]; rfl
      · rw [if_neg ho, h7, hvL_even hm ho]
theorem Hv.last {m0 e0 m e : Int} {k : Nat} {xs : List Int} (h : Hv m0 e0 k m e xs) (hm : ¬ 0 < m) : hvL 31 m0 e0 = xs := by
  rw [h.2.2.2.2.2.2, hvL_end (by omega), List.append_nil]
set_option maxHeartbeats 2000000 in
theorem halvesAt_any (m0 e0 : Int) (w : World) (hm0 : 0 ≤ m0) (hm1 : m0 < 2147483648) (he0 : 0 ≤ e0) (he1 : e0 ≤ 9223372036854775807) : Calls Tryz.prog 153 #[.int .i64 m0, .int .i64 e0] w (RetL (hvL 31 m0 e0) w) := by
  go_enter Tryz.func153, Tryz.ntmps153
  go_wp2
  go_loopw [0, 1, 5] (fun v0 v1 v5 wr => ∃ (k : Nat) (m e : Int) (xs : List Int) (A : Option Addr) (c : Nat), v0 = .int .i64 m ∧ v1 = .int .i64 e ∧ v5 = .slice A xs.length c ∧ Hv m0 e0 k m e xs ∧ OwnI wr w.heap.size (.slice A xs.length c) xs ∧ Below w.heap.size w wr) (fun v0 _ _ _ => (intOf v0).toNat)
  case atStart => exact ⟨31, m0, e0, [], _, _, rfl, rfl, rfl, ⟨hm0, by rw [pow_31]; exact hm1, Nat.le_refl _, he0, he1, by simp, rfl⟩, OwnI.zero w w.heap.size (Nat.le_refl _), by (repeat' (first | (with_reducible exact Below.refl _ _) | (with_reducible assumption) | (with_reducible refine Below.drew ?_) | (with_reducible refine belowDrewN ?_ _) | (with_reducible refine Below.alloc ?_ ?_ _) | (with_reducible refine Below.setCell ?_ ?_ _) | (with_reducible refine belowStep (by assumption) ?_ ?_) | (with_reducible exact Below.size (by assumption)) | go_size))⟩
  case round =>
    obtain ⟨k, m, e, xs, A, c, rfl, rfl, rfl, hv, ho, hbr⟩ := hrel
    have hzr := hbr.size
    have Ho := Lib.hid ho
    have Hv' := Lib.hid hv
    have b1 := hv.1
    have b2 : m < 2147483648 := by
      have h2 := hv.2.1
      have h3 := pow_le31 hv.2.2.1
      omega
    have b3 := hv.2.2.2.1
    have b4 := hv.2.2.2.2.1
    have b5 : xs.length ≤ 31 := by have := hv.2.2.2.2.2.1; omega
    clear ho hv
    by_cases hm : 0 < m
    · obtain ⟨j, _, hn⟩ := Hv'.out.more hm
      by_cases ho : m % 2 = 1
      · rw [if_pos ho] at hn
        have Hn := Lib.hid hn
        have hod : (m % 2 == 1) = true := by simp [ho]
        clear hn
        go_wp2_with (at_builtin; refine wpList_app _ (o := ⟨some 17, _, _, _, _, _⟩) (ys := [e]) rfl _ _ rfl rfl (Ho.out.below (by (repeat' (first | (with_reducible exact Below.refl _ _) | (with_reducible assumption) | (with_reducible refine Below.drew ?_) | (with_reducible refine belowDrewN ?_ _) | (with_reducible refine Below.alloc ?_ ?_ _) | (with_reducible refine Below.setCell ?_ ?_ _) | (with_reducible refine belowStep (by assumption) ?_ ?_) | (with_reducible exact Below.size (by assumption)) | go_size)))) (1) (1) (by first | (simp; done) | (simp; omega)) rfl (Reads.one _ e) (by (try simp only [List.length_append, List.length_take, List.length_drop, List.length_nil, List.length_singleton, List.length_cons]); omega) (by first | exact Nat.le_refl _ | ((try simp only [World.size_alloc, World.size_setCell, World.size_drew, World.heap_drewN]); omega)) ?_; intro v3 w3 ho3 hb3 hg3 ht3; clear hg3 ht3; have hz3 := hb3.size; (try simp only [World.size_alloc, World.size_setCell, World.size_drew, World.heap_drewN] at hz3))
        obtain ⟨A3, c3, rfl, hr3⟩ := ho3.form
        go_roundw
        case rel => exact ⟨j, _, _, xs ++ [e], A3, c3, rfl, rfl, rfl, Hn.out, ho3, by (repeat' (first | (with_reducible exact Below.refl _ _) | (with_reducible assumption) | (with_reducible refine Below.drew ?_) | (with_reducible refine belowDrewN ?_ _) | (with_reducible refine Below.alloc ?_ ?_ _) | (with_reducible refine Below.setCell ?_ ?_ _) | (with_reducible refine belowStep (by assumption) ?_ ?_) | (with_reducible exact Below.size (by assumption)) | go_size))⟩
        case measure => simp [intOf]; omega
      · rw [if_neg ho] at hn
        have Hn := Lib.hid hn
        have hod : (m % 2 == 1) = false := by simp [ho]
        clear hn
        go_wp2
        go_roundw
        case rel => exact ⟨j, _, _, xs, A, c, rfl, rfl, rfl, Hn.out, Ho.out, by (repeat' (first | (with_reducible exact Below.refl _ _) | (with_reducible assumption) | (with_reducible refine Below.drew ?_) | (with_reducible refine belowDrewN ?_ _) | (with_reducible refine Below.alloc ?_ ?_ _) | (with_reducible refine Below.setCell ?_ ?_ _) | (with_reducible refine belowStep (by assumption) ?_ ?_) | (with_reducible exact Below.size (by assumption)) | go_size))⟩
        case measure => simp [intOf]; omega
    · have E := Lib.hid (Hv'.out.last hm)
      go_wp2
      go_ret
      rw [E.out]
      exact ⟨_, rfl, Ho.out, hbr⟩
theorem bpR_yes {n d : Int} (h : proB n d = true) : bpN n d = p2 d ∧ bpS n d = n * p2 d / d ∧ bpR n d = n * p2 d % d := ⟨if_pos h, if_pos h, if_pos h⟩
theorem bpR_no {n d : Int} (h : proB n d = false) : bpN n d = 0 ∧ bpS n d = 0 ∧ bpR n d = 0 := by
  refine ⟨?_, ?_, ?_⟩ <;> simp [bpN, bpS, bpR, h]
theorem ret_bp {a b c a' b' c' : Int} {t t' : Bool} (h1 : a = a') (h2 : b = b') (h3 : c = c') (h4 : t = t') : Ending.returned (.tuple #[.int .i64 a, .int .i64 b, .int .i64 c, .bool t]) = .returned (.tuple #[.int .i64 a', .int .i64 b', .int .i64 c', .bool t']) := by rw [h1, h2, h3, h4]
theorem ret_bp3 {a b c a' b' c' : Int} (h1 : a = a') (h2 : b = b') (h3 : c = c') : Ending.returned (.tuple #[.int .i64 a, .int .i64 b, .int .i64 c]) = .returned (.tuple #[.int .i64 a', .int .i64 b', .int .i64 c']) := by rw [h1, h2, h3]
theorem bp_sizes {n d p : Int} (n1 : 1 ≤ n) (n2 : n ≤ 1000000000) (d1 : 1 ≤ d) (d2 : d ≤ 1000000000) (hp : 1 ≤ p) (hp2 : p < 2 * d) : 1 ≤ n * p ∧ n * p ≤ 2000000000000000000 ∧ 0 ≤ n * p / d ∧ n * p / d ≤ 2000000000000000000 ∧ 0 ≤ n * p % d ∧ n * p % d < d ∧ (n * p).tmod d = n * p % d ∧ (n * p).tdiv d = n * p / d := by
  have h1 := mul_pos1 n1 hp
  have h2 := Int.mul_le_mul n2 (show p ≤ 2000000000 by omega) (by omega) (by omega : (0 : Int) ≤ 1000000000)
  have h3 := Int.ediv_nonneg (show 0 ≤ n * p by omega) (show 0 ≤ d by omega)
  have h4 := Int.ediv_le_self d (show 0 ≤ n * p by omega)
  exact ⟨h1, by omega, h3, by omega, Int.emod_nonneg _ (by omega), Int.emod_lt_of_pos _ (by omega), Int.tmod_eq_emod_of_nonneg (by omega), Int.tdiv_eq_ediv_of_nonneg (by omega)⟩
set_option maxHeartbeats 4000000 in
theorem binaryParts_any (n d : Int) (w : World) (rn : -9223372036854775808 ≤ n ∧ n ≤ 9223372036854775807) (rd : -9223372036854775808 ≤ d ∧ d ≤ 9223372036854775807) : Calls Tryz.prog 151 #[.agg #[.int .i64 n, .int .i64 d]] w (Ret (.tuple #[.int .i64 (bpN n d), .int .i64 (bpS n d), .int .i64 (bpR n d), .bool (proB n d)]) w) := by
  cases h : proB n d with
  | false =>
    have E := Lib.hid (bpR_no h)
    go_enter Tryz.func151, Tryz.ntmps151
    go_wp2_with fail
    refine (isProper_any _ _ _ rn rd).mono ?_; rintro e w1 ⟨rfl, hb1⟩; obtain ⟨hc1, hf1⟩ := bcellB hb1; have hz1 := hb1.size; (try simp only [World.size_alloc, World.size_setCell, World.size_drew, World.heap_drewN] at hc1 hf1 hz1); (try have hy1_r_0 : wr.heap.size < w1.heap.size := by omega); (try have hn1_r_0 : wr.heap.size ≠ w1.heap.size := by omega); (try have hm1_r_0 : w1.heap.size ≠ wr.heap.size := by omega); (try have hy1_r_1 : wr.heap.size + 1 < w1.heap.size := by omega); (try have hn1_r_1 : wr.heap.size + 1 ≠ w1.heap.size := by omega); (try have hm1_r_1 : w1.heap.size ≠ wr.heap.size + 1 := by omega); (try have hy1_r_2 : wr.heap.size + 1 + 1 < w1.heap.size := by omega); (try have hp1_r_1 : wr.heap.size < w1.heap.size + 1 := by omega); (try have hp1_r_2 : wr.heap.size < w1.heap.size + 1 + 1 := by omega); (try have hy1_0_0 : w.heap.size < w1.heap.size := by omega); (try have hn1_0_0 : w.heap.size ≠ w1.heap.size := by omega); (try have hm1_0_0 : w1.heap.size ≠ w.heap.size := by omega); (try have hy1_0_1 : w.heap.size + 1 < w1.heap.size := by omega); (try have hn1_0_1 : w.heap.size + 1 ≠ w1.heap.size := by omega); (try have hm1_0_1 : w1.heap.size ≠ w.heap.size + 1 := by omega); (try have hy1_0_2 : w.heap.size + 1 + 1 < w1.heap.size := by omega); (try have hp1_0_1 : w.heap.size < w1.heap.size + 1 := by omega); (try have hp1_0_2 : w.heap.size < w1.heap.size + 1 + 1 := by omega); (try have hg1_g1 : g1 < w1.heap.size := by omega); (try have hi1_g1 : g1 ≠ w1.heap.size := by omega); (try have hj1_g1 : w1.heap.size ≠ g1 := by omega); (try have hk1_g1 : g1 < w1.heap.size + 1 := by omega); (try have hg1_g2 : g2 < w1.heap.size := by omega); (try have hi1_g2 : g2 ≠ w1.heap.size := by omega); (try have hj1_g2 : w1.heap.size ≠ g2 := by omega); (try have hk1_g2 : g2 < w1.heap.size + 1 := by omega)
    rw [h]
    go_wp2
    refine bodyPost_ret (by simp [results, Tryz.results151, go_sem, *]; try rfl) rfl ?_
    exact ⟨ret_bp E.out.1.symm E.out.2.1.symm E.out.2.2.symm rfl, by (repeat' (first | (with_reducible exact Below.refl _ _) | (with_reducible assumption) | (with_reducible refine Below.drew ?_) | (with_reducible refine belowDrewN ?_ _) | (with_reducible refine Below.alloc ?_ ?_ _) | (with_reducible refine Below.setCell ?_ ?_ _) | (with_reducible refine belowStep (by assumption) ?_ ?_) | (with_reducible exact Below.size (by assumption)) | go_size))⟩
  | true =>
    obtain ⟨n1, n2, d1, d2, hnd, hg, hgc, hi⟩ := proB_bounds h
    have E := Lib.hid (bpR_yes h)
    have T0 := Lib.hid (TwoAt.new w n d 27)
    clear hgc hi hg
    go_enter Tryz.func151, Tryz.ntmps151
    go_wp2_with fail
    refine (isProper_any _ _ _ rn rd).mono ?_; rintro e w1 ⟨rfl, hb1⟩; obtain ⟨hc1, hf1⟩ := bcellB hb1; have hz1 := hb1.size; (try simp only [World.size_alloc, World.size_setCell, World.size_drew, World.heap_drewN] at hc1 hf1 hz1); (try have hy1_r_0 : wr.heap.size < w1.heap.size := by omega); (try have hn1_r_0 : wr.heap.size ≠ w1.heap.size := by omega); (try have hm1_r_0 : w1.heap.size ≠ wr.heap.size := by omega); (try have hy1_r_1 : wr.heap.size + 1 < w1.heap.size := by omega); (try have hn1_r_1 : wr.heap.size + 1 ≠ w1.heap.size := by omega); (try have hm1_r_1 : w1.heap.size ≠ wr.heap.size + 1 := by omega); (try have hy1_r_2 : wr.heap.size + 1 + 1 < w1.heap.size := by omega); (try have hp1_r_1 : wr.heap.size < w1.heap.size + 1 := by omega); (try have hp1_r_2 : wr.heap.size < w1.heap.size + 1 + 1 := by omega); (try have hy1_0_0 : w.heap.size < w1.heap.size := by omega); (try have hn1_0_0 : w.heap.size ≠ w1.heap.size := by omega); (try have hm1_0_0 : w1.heap.size ≠ w.heap.size := by omega); (try have hy1_0_1 : w.heap.size + 1 < w1.heap.size := by omega); (try have hn1_0_1 : w.heap.size + 1 ≠ w1.heap.size := by omega); (try have hm1_0_1 : w1.heap.size ≠ w.heap.size + 1 := by omega); (try have hy1_0_2 : w.heap.size + 1 + 1 < w1.heap.size := by omega); (try have hp1_0_1 : w.heap.size < w1.heap.size + 1 := by omega); (try have hp1_0_2 : w.heap.size < w1.heap.size + 1 + 1 := by omega); (try have hg1_g1 : g1 < w1.heap.size := by omega); (try have hi1_g1 : g1 ≠ w1.heap.size := by omega); (try have hj1_g1 : w1.heap.size ≠ g1 := by omega); (try have hk1_g1 : g1 < w1.heap.size + 1 := by omega); (try have hg1_g2 : g2 < w1.heap.size := by omega); (try have hi1_g2 : g2 ≠ w1.heap.size := by omega); (try have hj1_g2 : w1.heap.size ≠ g2 := by omega); (try have hk1_g2 : g2 < w1.heap.size + 1 := by omega)
    rw [h]
    have T1 := Lib.hid (T0.out.below hb1)
    go_wp2
    go_loopw [6] (fun v6 wr => ∃ (j : Nat) (p : Int), v6 = .int .i64 p ∧ Pow d j p ∧ TwoAt wr w.heap.size n d ∧ Below w.heap.size w wr) (fun v6 _ => (d - intOf v6).toNat)
    case atStart => exact ⟨0, 1, rfl, Pow.start (by omega), T1.out, by (repeat' (first | (with_reducible exact Below.refl _ _) | (with_reducible assumption) | (with_reducible refine Below.drew ?_) | (with_reducible refine belowDrewN ?_ _) | (with_reducible refine Below.alloc ?_ ?_ _) | (with_reducible refine Below.setCell ?_ ?_ _) | (with_reducible refine belowStep (by assumption) ?_ ?_) | (with_reducible exact Below.size (by assumption)) | go_size))⟩
    case round =>
      obtain ⟨j, p, rfl, hp, hq, hbr⟩ := hrel
      have Hp := Lib.hid hp
      have Hq := Lib.hid hq
      have p1 := hp.2.2.1
      have p2' := hp.2.2.2.1
      clear hp
      obtain ⟨q1, q2, q3, q4, q5⟩ := hq
      by_cases hlt : p < d
      · have Hs := Lib.hid (Hp.out.step d2 hlt)
        go_wp2
        go_roundw
        case rel => exact ⟨j + 1, _, rfl, Hs.out, Hq.out, by (repeat' (first | (with_reducible exact Below.refl _ _) | (with_reducible assumption) | (with_reducible refine Below.drew ?_) | (with_reducible refine belowDrewN ?_ _) | (with_reducible refine Below.alloc ?_ ?_ _) | (with_reducible refine Below.setCell ?_ ?_ _) | (with_reducible refine belowStep (by assumption) ?_ ?_) | (with_reducible exact Below.size (by assumption)) | go_size))⟩
        case measure => simp [intOf]; omega
      · have e := Hp.out.last hlt
        have E2 : Hid (bpN n d = p ∧ bpS n d = n * p / d ∧ bpR n d = n * p % d) := Lib.hid (by rw [E.out.1, E.out.2.1, E.out.2.2, e]; exact ⟨rfl, rfl, rfl⟩)
        obtain ⟨s1, s2, s3, s4, s5, s6, s7, s8⟩ := bp_sizes n1 n2 (by omega) d2 p1 p2'
        have hne : d ≠ 0 := by omega
        clear e
        go_wp2
        all_goals (try go_region)
        all_goals (try go_wp2)
        all_goals refine bodyPost_ret (by simp [results, Tryz.results151, go_sem, *]; try rfl) rfl ?_
        all_goals exact ⟨ret_bp E2.out.1.symm (by first | exact E2.out.2.1.symm | rw [E2.out.2.1, s8]) (by first | exact E2.out.2.2.symm | rw [E2.out.2.2, s7]) rfl, by (repeat' (first | (with_reducible exact Below.refl _ _) | (with_reducible assumption) | (with_reducible refine Below.drew ?_) | (with_reducible refine belowDrewN ?_ _) | (with_reducible refine Below.alloc ?_ ?_ _) | (with_reducible refine Below.setCell ?_ ?_ _) | (with_reducible refine belowStep (by assumption) ?_ ?_) | (with_reducible exact Below.size (by assumption)) | go_size))⟩
set_option maxHeartbeats 4000000 in
theorem meParts_any (n d : Int) (w : World) (h : proB n d = true) : Calls Tryz.prog 78 #[.agg #[.int .i64 n, .int .i64 d]] w (Ret (.tuple #[.int .i64 (p2 d), .int .i64 (n * p2 d / d), .int .i64 (n * p2 d % d)]) w) := by
  obtain ⟨n1, n2, d1, d2, hnd, hg, hgc, hi⟩ := proB_bounds h
  have T0 := Lib.hid (TwoAt.new w n d 27)
  clear hgc hi hg h
  go_enter Tryz.func78, Tryz.ntmps78
  go_wp2
  go_loopw [5] (fun v6 wr => ∃ (j : Nat) (p : Int), v6 = .int .i64 p ∧ Pow d j p ∧ TwoAt wr w.heap.size n d ∧ Below w.heap.size w wr) (fun v6 _ => (d - intOf v6).toNat)
  case atStart => exact ⟨0, 1, rfl, Pow.start (by omega), T0.out, by (repeat' (first | (with_reducible exact Below.refl _ _) | (with_reducible assumption) | (with_reducible refine Below.drew ?_) | (with_reducible refine belowDrewN ?_ _) | (with_reducible refine Below.alloc ?_ ?_ _) | (with_reducible refine Below.setCell ?_ ?_ _) | (with_reducible refine belowStep (by assumption) ?_ ?_) | (with_reducible exact Below.size (by assumption)) | go_size))⟩
  case round =>
    obtain ⟨j, p, rfl, hp, hq, hbr⟩ := hrel
    have Hp := Lib.hid hp
    have Hq := Lib.hid hq
    have p1 := hp.2.2.1
    have p2' := hp.2.2.2.1
    clear hp
    obtain ⟨q1, q2, q3, q4, q5⟩ := hq
    by_cases hlt : p < d
    · have Hs := Lib.hid (Hp.out.step d2 hlt)
      go_wp2
      go_roundw
      case rel => exact ⟨j + 1, _, rfl, Hs.out, Hq.out, by (repeat' (first | (with_reducible exact Below.refl _ _) | (with_reducible assumption) | (with_reducible refine Below.drew ?_) | (with_reducible refine belowDrewN ?_ _) | (with_reducible refine Below.alloc ?_ ?_ _) | (with_reducible refine Below.setCell ?_ ?_ _) | (with_reducible refine belowStep (by assumption) ?_ ?_) | (with_reducible exact Below.size (by assumption)) | go_size))⟩
      case measure => simp [intOf]; omega
    · have e := Hp.out.last hlt
      have E2 := Lib.hid e
      obtain ⟨s1, s2, s3, s4, s5, s6, s7, s8⟩ := bp_sizes n1 n2 (by omega) d2 p1 p2'
      have hne : d ≠ 0 := by omega
      clear e
      go_wp2
      all_goals (try go_region)
      all_goals (try go_wp2)
      all_goals refine bodyPost_ret (by simp [results, Tryz.results78, go_sem, *]; try rfl) rfl ?_
      all_goals (rw [E2.out]; exact ⟨ret_bp3 rfl (by first | rfl | rw [s8]) (by first | rfl | rw [s7]), by (repeat' (first | (with_reducible exact Below.refl _ _) | (with_reducible assumption) | (with_reducible refine Below.drew ?_) | (with_reducible refine belowDrewN ?_ _) | (with_reducible refine Below.alloc ?_ ?_ _) | (with_reducible refine Below.setCell ?_ ?_ _) | (with_reducible refine belowStep (by assumption) ?_ ?_) | (with_reducible exact Below.size (by assumption)) | go_size))⟩)
end Go.Proofs.YtolgjokghecceaaGreatDoor
