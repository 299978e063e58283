
/-
  Plain facts on the marks of a number: powers of 2 that are taken away from the greatest one on.
-/
import Derived.Test.YthkchhjidihkpaaPure
namespace Go.Proofs.Ythkchhjidihkpaa
open Go.RowKit
/-- the marks, falling, of the quotient of a by b, below place k -/
def dvF (b : Nat) : Nat → Nat → List Nat
  | 0, _ => []
  | k + 1, a => if b * 2 ^ k ≤ a then k :: dvF b k (a - b * 2 ^ k) else dvF b k a
/-- what is left -/
def dvR (b : Nat) : Nat → Nat → Nat
  | 0, a => a
  | k + 1, a => if b * 2 ^ k ≤ a then dvR b k (a - b * 2 ^ k) else dvR b k a
theorem dvF_yes {b k a : Nat} (h : b * 2 ^ k ≤ a) : dvF b (k + 1) a = k :: dvF b k (a - b * 2 ^ k) ∧ dvR b (k + 1) a = dvR b k (a - b * 2 ^ k) := by
  rw [dvF, dvR, if_pos h, if_pos h]; exact ⟨rfl, rfl⟩
theorem dvF_no {b k a : Nat} (h : ¬ b * 2 ^ k ≤ a) : dvF b (k + 1) a = dvF b k a ∧ dvR b (k + 1) a = dvR b k a := by
  rw [dvF, dvR, if_neg h, if_neg h]; exact ⟨rfl, rfl⟩
theorem dvF_div {b : Nat} (hb : 1 ≤ b) : ∀ (k a : Nat), a < b * 2 ^ k → dvF b k a = dvF 1 k (a / b) ∧ dvR b k a = a % b
  | 0, a, h => by
    rw [Nat.pow_zero, Nat.mul_one] at h
    exact ⟨rfl, (Nat.mod_eq_of_lt h).symm⟩
  | k + 1, a, h => by
    have hp : b * 2 ^ (k + 1) = b * 2 ^ k + b * 2 ^ k := by rw [Nat.pow_succ, Nat.mul_two, Nat.mul_add]
    by_cases hc : b * 2 ^ k ≤ a
    · have h1 : 1 * 2 ^ k ≤ a / b := by rw [Nat.one_mul, Nat.le_div_iff_mul_le (by omega), Nat.mul_comm]; exact hc
      obtain ⟨e1, e2⟩ := dvF_yes hc
      obtain ⟨f1, _⟩ := dvF_yes h1
      obtain ⟨i1, i2⟩ := dvF_div hb k (a - b * 2 ^ k) (by omega)
      have hq : (a - b * 2 ^ k) / b = a / b - 1 * 2 ^ k := by rw [Nat.sub_mul_div_of_le _ _ _ hc, Nat.one_mul]
      have hr : (a - b * 2 ^ k) % b = a % b := by
        conv => rhs; rw [show a = (a - b * 2 ^ k) + b * 2 ^ k from by omega, Nat.add_mul_mod_self_left]
      rw [e1, e2, f1, i1, i2, hq, hr]
      exact ⟨rfl, rfl⟩
    · have h1 : ¬ 1 * 2 ^ k ≤ a / b := by rw [Nat.one_mul, Nat.le_div_iff_mul_le (by omega), Nat.mul_comm]; exact hc
      obtain ⟨e1, e2⟩ := dvF_no hc
      obtain ⟨f1, _⟩ := dvF_no h1
      obtain ⟨i1, i2⟩ := dvF_div hb k a (by omega)
      rw [e1, e2, f1]
      exact ⟨i1, i2⟩
/-- the sum of the powers of 2 -/
def pw (l : List Nat) : Nat := (l.map (2 ^ ·)).sum
theorem pw_cons (x : Nat) (l : List Nat) : pw (x :: l) = 2 ^ x + pw l := by simp [pw]
theorem pw_append (l m : List Nat) : pw (l ++ m) = pw l + pw m := by simp [pw]
theorem pw_reverse (l : List Nat) : pw l.reverse = pw l := by
  induction l with
  | nil => rfl
  | cons x l ih => rw [List.reverse_cons, pw_append, ih, pw_cons, pw_cons]; simp [pw]; omega
theorem pw_dvF : ∀ (k n : Nat), n < 2 ^ k → pw (dvF 1 k n) = n
  | 0, n, h => by
    rw [Nat.pow_zero] at h
    simp [dvF, pw]; omega
  | k + 1, n, h => by
    rw [Nat.pow_succ] at h
    by_cases hc : 1 * 2 ^ k ≤ n
    · rw [(dvF_yes hc).1, pw_cons, pw_dvF k _ (by omega)]; omega
    · rw [(dvF_no hc).1, pw_dvF k _ (by omega)]
theorem dvF_mem (b : Nat) : ∀ (k a x : Nat), x ∈ dvF b k a → x < k
  | 0, _, _, h => by simp [dvF] at h
  | k + 1, a, x, h => by
    by_cases hc : b * 2 ^ k ≤ a
    · rw [(dvF_yes hc).1] at h
      rcases List.mem_cons.1 h with rfl | h
      · omega
      · have := dvF_mem b k _ x h; omega
    · rw [(dvF_no hc).1] at h
      have := dvF_mem b k _ x h; omega
theorem dvF_fall (b : Nat) : ∀ (k a : Nat), (dvF b k a).Pairwise (fun x y => y < x)
  | 0, _ => by simp [dvF]
  | k + 1, a => by
    by_cases hc : b * 2 ^ k ≤ a
    · rw [(dvF_yes hc).1, List.pairwise_cons]
      exact ⟨fun y hy => dvF_mem b k _ y hy, dvF_fall b k _⟩
    · rw [(dvF_no hc).1]; exact dvF_fall b k a
theorem dvF_len (b : Nat) : ∀ (k a : Nat), (dvF b k a).length ≤ k
  | 0, _ => by simp [dvF]
  | k + 1, a => by
    by_cases hc : b * 2 ^ k ≤ a
    · rw [(dvF_yes hc).1, List.length_cons]; have := dvF_len b k (a - b * 2 ^ k); omega
    · rw [(dvF_no hc).1]; have := dvF_len b k a; omega
theorem fall_pw : ∀ (k : Nat) {l : List Nat}, l.Pairwise (fun x y => y < x) → (∀ x ∈ l, x < k) → pw l < 2 ^ k ∧ dvF 1 k (pw l) = l
  | 0, l, _, h => by
    cases l with
    | nil => exact ⟨by simp [pw], rfl⟩
    | cons x l => exact absurd (h x (by simp)) (by omega)
  | k + 1, l, hp, h => by
    have hs : 2 ^ (k + 1) = 2 ^ k + 2 ^ k := by rw [Nat.pow_succ]; omega
    cases l with
    | nil =>
      obtain ⟨a, b⟩ := fall_pw k (l := []) List.Pairwise.nil (by simp)
      refine ⟨by omega, ?_⟩
      rw [(dvF_no (by rw [Nat.one_mul]; omega)).1]
      exact b
    | cons x l =>
      rw [List.pairwise_cons] at hp
      by_cases hx : x = k
      · subst hx
        obtain ⟨a, b⟩ := fall_pw x (l := l) hp.2 hp.1
        rw [pw_cons]
        refine ⟨by omega, ?_⟩
        rw [(dvF_yes (by omega)).1, show 2 ^ x + pw l - 1 * 2 ^ x = pw l from by omega, b]
      · have hxk : x < k := by have := h x (by simp); omega
        obtain ⟨a, b⟩ := fall_pw k (l := x :: l) (List.pairwise_cons.2 hp) (fun y hy => by
          rcases List.mem_cons.1 hy with rfl | hy
          · exact hxk
          · have := hp.1 y hy; omega)
        refine ⟨by omega, ?_⟩
        rw [(dvF_no (by omega)).1]
        exact b
/-- the marks of a number, rising -/
def mk (n : Nat) : List Nat := (dvF 1 20 n).reverse
theorem mk_len (n : Nat) : (mk n).length ≤ 20 := by unfold mk; rw [List.length_reverse]; exact dvF_len 1 20 n
theorem mk_mem {n x : Nat} (h : x ∈ mk n) : x < 20 := dvF_mem 1 20 n x (List.mem_reverse.1 h)
theorem mk_rise (n : Nat) : (mk n).Pairwise (· < ·) := by unfold mk; rw [List.pairwise_reverse]; exact dvF_fall 1 20 n
theorem mk_pw {n : Nat} (h : n < 1048576) : pw (mk n) = n := by unfold mk; rw [pw_reverse]; exact pw_dvF 20 n h
theorem pw_mk {l : List Nat} (hp : l.Pairwise (· < ·)) (h : ∀ x ∈ l, x < 20) : pw l < 1048576 ∧ mk (pw l) = l := by
  obtain ⟨a, b⟩ := fall_pw 20 (l := l.reverse) (List.pairwise_reverse.2 hp) (fun x hx => h x (List.mem_reverse.1 hx))
  rw [pw_reverse] at a b
  exact ⟨a, by unfold mk; rw [b, List.reverse_reverse]⟩
/-- the marks from the least place on -/
def bt : Nat → Nat → Nat → List Nat
  | 0, _, _ => []
  | k + 1, i, n => (if n % 2 = 1 then [i] else []) ++ bt k (i + 1) (n / 2)
theorem bt_zero : ∀ (k i : Nat), bt k i 0 = []
  | 0, _ => rfl
  | k + 1, i => by rw [bt, bt_zero k]; rfl
theorem bt_top : ∀ (k i n : Nat), n < 2 ^ (k + 1) → bt (k + 1) i n = bt k i (n % 2 ^ k) ++ (if 2 ^ k ≤ n then [i + k] else [])
  | 0, i, n, h => by
    rw [bt, bt, bt]
    have : n < 2 := h
    by_cases hn : n = 1
    · subst hn; rfl
    · have : n = 0 := by omega
      subst this; rfl
  | k + 1, i, n, h => by
    have h2 : 2 ^ (k + 1 + 1) = 2 ^ (k + 1) + 2 ^ (k + 1) := by rw [Nat.pow_succ]; omega
    have h3 : 2 ^ (k + 1) = 2 * 2 ^ k := by rw [Nat.pow_succ]; omega
    rw [bt, bt_top k (i + 1) (n / 2) (by omega), bt]
    have e1 : n % 2 ^ (k + 1) % 2 = n % 2 := Nat.mod_mod_of_dvd _ ⟨2 ^ k, h3⟩
    have e2 : n % 2 ^ (k + 1) / 2 = n / 2 % 2 ^ k := by rw [h3, Nat.mod_mul_right_div_self]
    rw [e1, e2, List.append_assoc]
    by_cases hc : 2 ^ k ≤ n / 2
    · rw [if_pos hc, if_pos (show 2 ^ (k + 1) ≤ n by omega), show i + 1 + k = i + (k + 1) from by omega]
    · rw [if_neg hc, if_neg (show ¬ 2 ^ (k + 1) ≤ n by omega)]
theorem bt_dvF : ∀ (k n : Nat), n < 2 ^ k → bt k 0 n = (dvF 1 k n).reverse
  | 0, n, _ => rfl
  | k + 1, n, h => by
    have h2 : 2 ^ (k + 1) = 2 ^ k + 2 ^ k := by rw [Nat.pow_succ]; omega
    rw [bt_top k 0 n h, bt_dvF k _ (Nat.mod_lt _ (Nat.two_pow_pos k))]
    by_cases hc : 2 ^ k ≤ n
    · rw [if_pos hc, (dvF_yes (by omega)).1, List.reverse_cons, Nat.zero_add, Nat.one_mul, Nat.mod_eq_sub_mod hc, Nat.mod_eq_of_lt (by omega)]
    · rw [if_neg hc, (dvF_no (by omega)).1, List.append_nil, Nat.mod_eq_of_lt (by omega)]
theorem bt_mk {n : Nat} (h : n < 1048576) : bt 20 0 n = mk n := bt_dvF 20 n h
end Go.Proofs.Ythkchhjidihkpaa
