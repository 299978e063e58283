
/-
  Plain facts on splits of a term, and their contracts.
-/
import Derived.Test.YtbjblkfibinenadGreatInto
import Derived.Test.YtbjblkfibinenadGreatRepl
namespace Go.Proofs.YtbjblkfibinenadGreat
open Go.RowKit
theorem has_ins (xs : List Int) (a b : Int) : hasB (insAt xs (pos xs a) a) b = (decide (b = a) || hasB xs b) := by
  rw [Bool.eq_iff_iff, hasB_iff, Bool.or_eq_true, hasB_iff, ins_mem, decide_eq_true_iff]
theorem into_two {rs : List Int} (hs : Rising rs) {a b : Int} (hne : b ≠ a) : intoB rs [a, b] = (!hasB rs a && !hasB rs b && expB (putL (putL rs a) b)) ∧ intoR rs [a, b] = if (!hasB rs a && !hasB rs b && expB (putL (putL rs a) b)) = true then putL (putL rs a) b else [] := by
  cases ha : hasB rs a with
  | true =>
    have := into_none (into_yes (fs := [b]) ha)
    simpa using this
  | false =>
    have hna : ¬ hasB rs a = true := by rw [ha]; simp
    have h1 := into_no (fs := [b]) ha
    have hp := put_no hs hna
    cases hb : hasB rs b with
    | true =>
      have h2 : hasB (insAt rs (pos rs a) a) b = true := by rw [has_ins, hb]; simp
      rw [into_yes h2] at h1
      simpa using into_none h1
    | false =>
      have h2 : hasB (insAt rs (pos rs a) a) b = false := by rw [has_ins, hb]; simp [hne]
      rw [into_no h2] at h1
      have h3 : intoL rs [a, b] = some (putL (putL rs a) b) := by
        rw [h1, hp, put_no (hs.ins hna) (by rw [h2]; simp)]; rfl
      simpa using into_some h3
theorem into_twice {rs : List Int} (a : Int) : intoB rs [a, a] = false ∧ intoR rs [a, a] = [] := by
  cases ha : hasB rs a with
  | true => exact into_none (into_yes ha)
  | false =>
    have h1 := into_no (fs := [a]) ha
    have h2 : hasB (insAt rs (pos rs a) a) a = true := by rw [has_ins]; simp
    rw [into_yes h2] at h1
    exact into_none h1
theorem keep_sub (ls : List Int) : ∀ (ys : List Int) (k : Nat), List.Sublist (keepL ls k ys) ys
  | [], k => List.Sublist.slnil
  | y :: ys, k => by
    rw [keepL]
    split
    · exact (keep_sub ls ys (k + 1)).cons y
    · exact (keep_sub ls ys (k + 1)).cons_cons y
theorem Rising.keep {ys : List Int} (h : Rising ys) (ls : List Int) (k : Nat) : Rising (keepL ls k ys) := h.sublist (keep_sub ls ys k)
theorem Rising.rest {xs : List Int} (h : Rising xs) (i : Nat) : Rising (restL xs i) := by
  unfold restL
  rw [← List.eraseIdx_eq_take_drop_succ]
  exact h.sublist (List.eraseIdx_sublist xs i)
theorem rest_mem {xs : List Int} {i : Nat} {x : Int} (h : x ∈ restL xs i) : x ∈ xs := by
  unfold restL at h
  rcases List.mem_append.1 h with h | h
  · exact List.mem_of_mem_take h
  · exact List.mem_of_mem_drop h
theorem In64.rest {xs : List Int} (h : In64 xs) (i : Nat) : In64 (restL xs i) := In64.of_mem (fun x hx => h.mem x (rest_mem hx))
theorem Reads.two (w : World) (x y : Int) : Reads (w.alloc (.cells #[.int .i64 x, .int .i64 y] 3)) (some ⟨w.heap.size, 0, none⟩) [x, y] := fun _ =>
  ⟨w.heap.size, 0, rfl, by simp, fun i z h => by
    match i, h with
    | 0, h =>
      simp only [List.getElem?_cons_zero, Option.some.injEq] at h
      subst h
      simp
    | 1, h =>
      simp only [List.getElem?_cons_succ, List.getElem?_cons_zero, Option.some.injEq] at h
      subst h
      simp⟩
theorem cellNew {W : World} {b k : Nat} {vs : Array Value} {T : TypeId} {v : Value} (hb : b = W.heap.size) (h : vs[k]? = some v) : (W.alloc (.cells vs T)).cell? ⟨b, k, none⟩ = some v := by
  subst hb
  simp [h]
theorem cellOld {W : World} {p : Addr} {v : Value} (o : Obj) (h : W.cell? p = some v) : (W.alloc o).cell? p = some v := by
  rw [World.cell?_alloc_some W p o (by rw [h]; rfl), h]
theorem Reads.of1 {w : World} {b : Nat} {x : Int} (hb : b < w.heap.size) (h0 : w.cell? ⟨b, 0, none⟩ = some (.int .i64 x)) : Reads w (some ⟨b, 0, none⟩) [x] := fun _ =>
  ⟨b, 0, rfl, hb, fun i z h => by
    match i, h with
    | 0, h =>
      simp only [List.getElem?_cons_zero, Option.some.injEq] at h
      subst h
      exact h0⟩
theorem Reads.of2 {w : World} {b : Nat} {x y : Int} (hb : b < w.heap.size) (h0 : w.cell? ⟨b, 0, none⟩ = some (.int .i64 x)) (h1 : w.cell? ⟨b, 1, none⟩ = some (.int .i64 y)) : Reads w (some ⟨b, 0, none⟩) [x, y] := fun _ =>
  ⟨b, 0, rfl, hb, fun i z h => by
    match i, h with
    | 0, h =>
      simp only [List.getElem?_cons_zero, Option.some.injEq] at h
      subst h
      exact h0
    | 1, h =>
      simp only [List.getElem?_cons_succ, List.getElem?_cons_zero, Option.some.injEq] at h
      subst h
      exact h1⟩
/-- the term at an index, 0 where there is none -/
def termAt (xs : List Int) (i : Int) : Int := (xs[i.toNat]?).getD 0
def idxB (xs : List Int) (i : Int) : Bool := expB xs && decide (0 ≤ i) && decide (i < xs.length)
def stB (xs : List Int) (i : Int) : Bool := idxB xs i && !decide (termAt xs i = 1) && replB xs i.toNat (termAt xs i + 1) (termAt xs i * (termAt xs i + 1))
def stL (xs : List Int) (i : Int) : List Int := if stB xs i = true then replL xs i.toNat (termAt xs i + 1) (termAt xs i * (termAt xs i + 1)) else []
theorem st_no {xs : List Int} {i : Int} (h : stB xs i = false) : stL xs i = [] := by rw [stL, h]; rfl
theorem idx_exp {xs : List Int} {i : Int} (h : expB xs = false) : idxB xs i = false := by simp [idxB, h]
theorem idx_out {xs : List Int} {i : Int} (h : ¬ (0 ≤ i ∧ i < xs.length)) : idxB xs i = false := by
  unfold idxB
  by_cases h1 : 0 ≤ i
  · have : ¬ i < xs.length := fun h2 => h ⟨h1, h2⟩
    simp [this]
  · simp [h1]
theorem idx_in {xs : List Int} {i : Nat} (h : expB xs = true) (hi : i < xs.length) : idxB xs i = true := by simp [idxB, h, hi]
theorem term_at {xs : List Int} {i : Nat} {x : Int} (h : xs[i]? = some x) : termAt xs i = x := by simp [termAt, h]
theorem st_idx {xs : List Int} {i : Int} (h : idxB xs i = false) : stB xs i = false := by simp [stB, h]
theorem st_one {xs : List Int} {i : Nat} (h : xs[i]? = some 1) : stB xs i = false := by simp [stB, term_at h]
theorem st_in {xs : List Int} {i : Nat} {x : Int} (h : expB xs = true) (hx : xs[i]? = some x) (h1 : x ≠ 1) : stB xs i = replB xs i (x + 1) (x * (x + 1)) ∧ stL xs i = replL xs i (x + 1) (x * (x + 1)) := by
  have hi : i < xs.length := (List.getElem?_eq_some_iff.1 hx).1
  have e : stB xs i = replB xs i (x + 1) (x * (x + 1)) := by simp [stB, idx_in h hi, term_at hx, h1]
  refine ⟨e, ?_⟩
  rw [stL, e, term_at hx]
  cases hr : replB xs i (x + 1) (x * (x + 1)) with
  | true => simp
  | false => rw [repl_no hr]; rfl
theorem into_repl {xs : List Int} (hs : Rising xs) (i : Nat) {a b : Int} (hne : b ≠ a) : intoB (restL xs i) [a, b] = replB xs i a b ∧ intoR (restL xs i) [a, b] = replL xs i a b := into_two (hs.rest i) hne
def sbB (xs : List Int) (i p q : Int) : Bool := idxB xs i && decide (1 ≤ p) && decide (p < q) && decide (q ≤ 1000) && decide (termAt xs i * (p + q) % p = 0) && decide (termAt xs i * (p + q) % q = 0) && replB xs i.toNat (termAt xs i * (p + q) / p) (termAt xs i * (p + q) / q)
def sbL (xs : List Int) (i p q : Int) : List Int := if sbB xs i p q = true then replL xs i.toNat (termAt xs i * (p + q) / p) (termAt xs i * (p + q) / q) else []
theorem sb_no {xs : List Int} {i p q : Int} (h : sbB xs i p q = false) : sbL xs i p q = [] := by rw [sbL, h]; rfl
theorem sb_idx {xs : List Int} {i p q : Int} (h : idxB xs i = false) : sbB xs i p q = false := by simp [sbB, h]
theorem sb_pq {xs : List Int} {i p q : Int} (h : ¬ (1 ≤ p ∧ p < q ∧ q ≤ 1000)) : sbB xs i p q = false := by
  unfold sbB
  by_cases h1 : 1 ≤ p
  · by_cases h2 : p < q
    · have : ¬ q ≤ 1000 := fun h3 => h ⟨h1, h2, h3⟩
      simp [this]
    · simp [h2]
  · simp [h1]
theorem sb_rp {xs : List Int} {i : Nat} {p q x : Int} (hx : xs[i]? = some x) (h : ¬ x * (p + q) % p = 0) : sbB xs i p q = false := by
  unfold sbB
  rw [term_at hx]
  simp only [h, decide_false, Bool.and_false, Bool.false_and]
theorem sb_rq {xs : List Int} {i : Nat} {p q x : Int} (hx : xs[i]? = some x) (h : ¬ x * (p + q) % q = 0) : sbB xs i p q = false := by
  unfold sbB
  rw [term_at hx]
  simp only [h, decide_false, Bool.and_false, Bool.false_and]
theorem sb_in {xs : List Int} {i : Nat} {p q x : Int} (h : expB xs = true) (hx : xs[i]? = some x) (h1 : 1 ≤ p) (h2 : p < q) (h3 : q ≤ 1000) (h4 : x * (p + q) % p = 0) (h5 : x * (p + q) % q = 0) : sbB xs i p q = replB xs i (x * (p + q) / p) (x * (p + q) / q) ∧ sbL xs i p q = replL xs i (x * (p + q) / p) (x * (p + q) / q) := by
  have hi : i < xs.length := (List.getElem?_eq_some_iff.1 hx).1
  have e : sbB xs i p q = replB xs i (x * (p + q) / p) (x * (p + q) / q) := by
    unfold sbB
    rw [idx_in h hi, term_at hx]
    simp only [h1, h2, h3, h4, h5, decide_true, Bool.and_self, Bool.true_and, Int.toNat_natCast]
  refine ⟨e, ?_⟩
  rw [sbL, e, term_at hx]
  cases hr : replB xs i (x * (p + q) / p) (x * (p + q) / q) with
  | true => simp
  | false => rw [repl_no hr]; rfl
/-- the two quotients are different -/
theorem sb_ne {r p q : Int} (h0 : 1 ≤ r) (h1 : 1 ≤ p) (h2 : p < q) (h4 : r % p = 0) (h5 : r % q = 0) : r / q ≠ r / p := fun e => by
  have a := Int.mul_ediv_add_emod r p
  have b := Int.mul_ediv_add_emod r q
  rw [h4] at a
  rw [h5, e] at b
  generalize r / p = t at a b
  have ht : 1 ≤ t := by
    rcases Int.lt_or_le 0 t with h | h
    · omega
    · have := Int.mul_nonneg (by omega : 0 ≤ p) (by omega : 0 ≤ -t)
      rw [Int.mul_neg] at this
      omega
  have := Int.mul_le_mul_of_nonneg_right (by omega : p + 1 ≤ q) (by omega : 0 ≤ t)
  rw [Int.add_mul] at this
  omega
theorem st_mul {x : Int} (h1 : 1 ≤ x) (h2 : x ≤ 1000000000) : 0 ≤ x * (x + 1) ∧ x * (x + 1) ≤ 1000000001000000000 ∧ (x ≠ 1 → x * (x + 1) ≠ x + 1) := by
  refine ⟨Int.mul_nonneg (by omega) (by omega), ?_, fun h e => ?_⟩
  · have := Int.mul_le_mul h2 (by omega : x + 1 ≤ 1000000001) (by omega) (by omega : (0 : Int) ≤ 1000000000); omega
  · have := Int.mul_le_mul_of_nonneg_right (by omega : 2 ≤ x) (by omega : 0 ≤ x + 1); omega
theorem sb_mul {x p q : Int} (h1 : 1 ≤ x) (h2 : x ≤ 1000000000) (h3 : 1 ≤ p) (h4 : p < q) (h5 : q ≤ 1000) : 1 ≤ x * (p + q) ∧ x * (p + q) ≤ 2000000000000 := by
  refine ⟨mul_pos1 h1 (by omega), ?_⟩
  have := Int.mul_le_mul h2 (by omega : p + q ≤ 2000) (by omega) (by omega : (0 : Int) ≤ 1000000000); omega
theorem st_len (xs : List Int) (i : Int) : (stL xs i).length ≤ 1048576 := by
  unfold stL
  split
  · rename_i h
    have h0 := h
    simp only [stB, Bool.and_eq_true] at h
    have h1 := h.2
    rw [replL, if_pos h1]
    simp only [replB, Bool.and_eq_true] at h1
    have := expB_len h1.2
    omega
  · simp
theorem sb_len (xs : List Int) (i p q : Int) : (sbL xs i p q).length ≤ 1048576 := by
  unfold sbL
  split
  · rename_i h
    have h0 := h
    simp only [sbB, Bool.and_eq_true] at h
    have h1 := h.2
    rw [replL, if_pos h1]
    simp only [replB, Bool.and_eq_true] at h1
    have := expB_len h1.2
    omega
  · simp
end Go.Proofs.YtbjblkfibinenadGreat
