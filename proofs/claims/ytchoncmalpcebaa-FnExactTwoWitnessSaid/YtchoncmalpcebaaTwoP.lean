
/-
  Plain facts on the witnesses of sums of two unit fractions. No program.
-/
import Derived.Test.YtchoncmalpcebaaPure
namespace Go.Proofs.Ytchoncmalpcebaa
/-- whether a fraction is one of those that are asked for: more than 0, with a small denominator -/
def twoB (n q m : Int) : Bool := goodB n q && decide (0 < n) && decide (q ≤ m)
/-- whether d is a witness of n / q -/
def witB (n q d : Int) : Bool := decide (1 ≤ d) && decide (d < q) && decide (q * q % d = 0) && decide ((q + d) % n = 0) && decide ((q + q * q / d) % n = 0)
theorem witB_iff {n q d : Int} : witB n q d = true ↔ 1 ≤ d ∧ d < q ∧ q * q % d = 0 ∧ (q + d) % n = 0 ∧ (q + q * q / d) % n = 0 := by
  simp only [witB, Bool.and_eq_true, decide_eq_true_eq, and_assoc]
theorem witB_low {n q d : Int} (h : ¬ 1 ≤ d) : witB n q d = false := by cases hw : witB n q d with | false => rfl | true => exact absurd (witB_iff.1 hw).1 h
theorem witB_high {n q d : Int} (h : ¬ d < q) : witB n q d = false := by cases hw : witB n q d with | false => rfl | true => exact absurd (witB_iff.1 hw).2.1 h
theorem witB_div {n q d : Int} (h : q * q % d ≠ 0) : witB n q d = false := by cases hw : witB n q d with | false => rfl | true => exact absurd (witB_iff.1 hw).2.2.1 h
theorem witB_one {n q d : Int} (h : (q + d) % n ≠ 0) : witB n q d = false := by cases hw : witB n q d with | false => rfl | true => exact absurd (witB_iff.1 hw).2.2.2.1 h
theorem witB_on {n q d : Int} (h1 : 1 ≤ d) (h2 : d < q) (h3 : q * q % d = 0) : witB n q d = (decide ((q + d) % n = 0) && decide ((q + q * q / d) % n = 0)) := by
  unfold witB; rw [decide_eq_true h1, decide_eq_true h2, decide_eq_true h3]; simp
/-- the witnesses below k, in order -/
def witL (n q : Int) : Nat → List Int
  | 0 => []
  | k + 1 => if witB n q (k : Int) = true then witL n q k ++ [(k : Int)] else witL n q k
theorem witL_yes {n q : Int} {k : Nat} (h : witB n q (k : Int) = true) : witL n q (k + 1) = witL n q k ++ [(k : Int)] := by rw [witL, if_pos h]
theorem witL_no {n q : Int} {k : Nat} (h : witB n q (k : Int) = false) : witL n q (k + 1) = witL n q k := by rw [witL, if_neg (by rw [h]; decide)]
theorem witL_same {n q : Int} {k : Nat} : ∀ j, (∀ i : Nat, k ≤ i → i < k + j → witB n q (i : Int) = false) → witL n q (k + j) = witL n q k
  | 0, _ => rfl
  | j + 1, h => by
    rw [← Nat.add_assoc, witL_no (h (k + j) (by omega) (by omega)), witL_same j (fun i h1 h2 => h i h1 (by omega))]
theorem witL_len (n q : Int) : ∀ k, (witL n q k).length ≤ k
  | 0 => Nat.le_refl _
  | k + 1 => by
    have := witL_len n q k
    cases h : witB n q (k : Int) with
    | false => rw [witL_no h]; omega
    | true => rw [witL_yes h, List.length_append]; simp; omega
theorem witL_pre (n q : Int) (k : Nat) : ∀ j, witL n q k <+: witL n q (k + j)
  | 0 => List.prefix_refl _
  | j + 1 => by
    rw [← Nat.add_assoc]
    cases h : witB n q ((k + j : Nat) : Int) with
    | false => rw [witL_no h]; exact witL_pre n q k j
    | true => rw [witL_yes h]; exact (witL_pre n q k j).trans (List.prefix_append _ _)
theorem witL_mono (n q : Int) {k m : Nat} (h : k ≤ m) : witL n q k <+: witL n q m := by
  obtain ⟨j, rfl⟩ := Nat.exists_eq_add_of_le h
  exact witL_pre n q k j
theorem witL_mem {n q d : Int} : ∀ {k : Nat}, d ∈ witL n q k ↔ witB n q d = true ∧ d < (k : Int)
  | 0 => by
    constructor
    · intro h; cases h
    · rintro ⟨h, h2⟩; have := (witB_iff.1 h).1; omega
  | k + 1 => by
    cases h : witB n q (k : Int) with
    | false =>
      rw [witL_no h, witL_mem]
      constructor
      · rintro ⟨a, b⟩; exact ⟨a, by omega⟩
      · rintro ⟨a, b⟩
        refine ⟨a, ?_⟩
        by_cases he : d = (k : Int)
        · subst he; rw [h] at a; cases a
        · omega
    | true =>
      rw [witL_yes h, List.mem_append, witL_mem, List.mem_singleton]
      constructor
      · rintro (⟨a, b⟩ | rfl)
        · exact ⟨a, by omega⟩
        · exact ⟨h, by omega⟩
      · rintro ⟨a, b⟩
        by_cases he : d = (k : Int)
        · exact .inr he
        · exact .inl ⟨a, by omega⟩
/-- nothing is a witness from the denominator on -/
theorem witL_end {n q : Int} (hq : 0 ≤ q) {k : Nat} (h : q ≤ (k : Int)) : witL n q k = witL n q q.toNat := by
  obtain ⟨j, rfl⟩ := Nat.exists_eq_add_of_le (show q.toNat ≤ k by omega)
  exact witL_same j fun i h1 h2 => witB_high (by omega)
/-- all witnesses -/
def wits (n q : Int) : List Int := witL n q q.toNat
/-- of n numbers in a row, only one comes into question -/
theorem witL_row {n q : Int} (hn : 1 ≤ n) {d : Nat} (hd : (q + (d : Int)) % n = 0) {e : Nat} (he : (e : Int) = (d : Int) + n) : witL n q e = if witB n q (d : Int) = true then witL n q d ++ [(d : Int)] else witL n q d := by
  have hs : witL n q (d + 1 + (n - 1).toNat) = witL n q (d + 1) := witL_same _ fun i h1 h2 => witB_one (by
    intro h0
    have h3 : (q + (i : Int)) % n = ((q + (d : Int)) % n + ((i : Int) - (d : Int))) % n := by rw [Int.emod_add_emod]; congr 1; omega
    rw [h3, hd, Int.zero_add, Int.emod_eq_of_lt (by omega) (by omega)] at h0
    omega)
  rw [show e = d + 1 + (n - 1).toNat from by omega, hs, witL]
/-- the first number that comes into question -/
theorem witL_first {n q : Int} (hn : 1 ≤ n) {d : Nat} (hd : (d : Int) = n - q % n) : witL n q d = [] ∧ (q + (d : Int)) % n = 0 := by
  have h1 := Int.emod_nonneg q (by omega : n ≠ 0)
  have h2 := Int.emod_lt_of_pos q (by omega : 0 < n)
  refine ⟨?_, ?_⟩
  · have := witL_same (n := n) (q := q) (k := 0) d fun i _ h4 => by
      rcases Nat.eq_zero_or_pos i with h5 | h5
      · subst h5; exact witB_low (by omega)
      · refine witB_one ?_
        have h3 : (q + (i : Int)) % n = (q % n + (i : Int)) % n := (Int.emod_add_emod _ _ _).symm
        rw [h3, Int.emod_eq_of_lt (by omega) (by omega)]
        omega
    rw [Nat.zero_add] at this
    exact this
  · have h3 : (q + (d : Int)) % n = (q % n + (d : Int)) % n := (Int.emod_add_emod _ _ _).symm
    rw [h3, hd, show q % n + (n - q % n) = n from by omega, Int.emod_self]
/-- the least witness, if there is one -/
def wtO (n q : Int) : Option Int := if twoB n q 20000 = true then (wits n q).head? else none
theorem wtO_no {n q : Int} (h : twoB n q 20000 = false) : wtO n q = none := by unfold wtO; rw [h]; rfl
theorem wtO_none {n q : Int} (h : wits n q = []) : wtO n q = none := by unfold wtO; rw [h]; simp
theorem wtO_some {n q d : Int} (h : twoB n q 20000 = true) (hw : [d] <+: wits n q) : wtO n q = some d := by
  unfold wtO
  obtain ⟨t, ht⟩ := hw
  rw [if_pos h, ← ht]; rfl
theorem witL_head {n q : Int} {k : Nat} (h0 : witL n q k = []) (hw : witB n q (k : Int) = true) : [(k : Int)] <+: wits n q := by
  have h2 := (witB_iff.1 hw).2.1
  have := witL_mono n q (show k + 1 ≤ q.toNat by omega)
  rw [witL_yes hw, h0] at this
  exact this
def wtV (o : Option Int) : Value := .tuple #[.int .i64 (o.getD 0), .bool o.isSome]
theorem twoB_bounds {n q m : Int} (h : twoB n q m = true) : 1 ≤ n ∧ n ≤ 1000000000 ∧ 1 ≤ q ∧ q ≤ 1000000000 ∧ q ≤ m ∧ goodB n q = true := by
  simp only [twoB, Bool.and_eq_true, decide_eq_true_eq] at h
  obtain ⟨⟨hg, hn⟩, hm⟩ := h
  obtain ⟨_, a, b, c⟩ := good_bounds hg
  exact ⟨by omega, a, b, c, hm, hg⟩
theorem twoB_bad {n q m : Int} (h : goodB n q = false) : twoB n q m = false := by unfold twoB; rw [h]; rfl
theorem twoB_zero {n q m : Int} (h : ¬ 0 < n) : twoB n q m = false := by unfold twoB; rw [decide_eq_false h]; simp
theorem twoB_great {n q m : Int} (h : ¬ q ≤ m) : twoB n q m = false := by unfold twoB; rw [decide_eq_false h]; simp
theorem twoB_yes {n q m : Int} (h1 : goodB n q = true) (h2 : 0 < n) (h3 : q ≤ m) : twoB n q m = true := by unfold twoB; rw [h1, decide_eq_true h2, decide_eq_true h3]; rfl
theorem twoB_dec {n q m : Int} (h1 : goodB n q = true) (h2 : 0 < n) : twoB n q m = decide (q ≤ m) := by unfold twoB; rw [h1, decide_eq_true h2]; rfl
theorem square_bounds {q : Int} (h1 : 1 ≤ q) (h2 : q ≤ 1000000000) : 1 ≤ q * q ∧ q * q ≤ 1000000000000000000 := by
  refine ⟨?_, ?_⟩
  · have := Int.mul_le_mul h1 h1 (by omega) (by omega); omega
  · have := Int.mul_le_mul h2 h2 (by omega) (by omega); omega
theorem quo_bounds {s d : Int} (h1 : 1 ≤ d) (hs : 0 ≤ s) : 0 ≤ s / d ∧ s / d ≤ s := ⟨Int.ediv_nonneg hs (by omega), Int.ediv_le_self _ hs⟩
end Go.Proofs.Ytchoncmalpcebaa
