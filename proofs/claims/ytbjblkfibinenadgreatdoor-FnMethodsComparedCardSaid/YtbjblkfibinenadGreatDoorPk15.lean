import Derived.Test.YtbjblkfibinenadGreatDoorPk2
import Derived.Test.YtbjblkfibinenadGreatDoorPk14
import Derived.Test.YtbjblkfibinenadGreatDoorPk12
import Derived.Test.YtbjblkfibinenadGreatDoorPk3
import Derived.Test.YtbjblkfibinenadGreatDoorPk11
import Derived.Sort.OwnSortedInts

/-
  Contracts of indices of a list: the test of one, and the list without some.
-/
namespace Go.Proofs.YtbjblkfibinenadGreatDoor
open Go.RowKit
/-- the list without the numbers at the indices ls, the first one's index being k -/
def keepL (ls : List Int) : Nat → List Int → List Int
  | _, [] => []
  | k, x :: xs => if hasB ls k = true then keepL ls (k + 1) xs else x :: keepL ls (k + 1) xs
theorem keep_snoc (ls : List Int) (x : Int) : ∀ (ys : List Int) (k : Nat), keepL ls k (ys ++ [x]) = keepL ls k ys ++ (if hasB ls (k + ys.length : Nat) = true then [] else [x])
  | [], k => by simp [keepL]
  | y :: ys, k => by
    rw [List.cons_append, keepL, keepL, keep_snoc ls x ys (k + 1), show k + 1 + ys.length = k + (y :: ys).length by simp; omega]
    split <;> simp
theorem keep_len (ls : List Int) : ∀ (ys : List Int) (k : Nat), (keepL ls k ys).length ≤ ys.length
  | [], k => by simp [keepL]
  | y :: ys, k => by
    rw [keepL]
    have := keep_len ls ys (k + 1)
    split <;> simp <;> omega
theorem keep_mem (ls : List Int) : ∀ (ys : List Int) (k : Nat) (x : Int), x ∈ keepL ls k ys → x ∈ ys
  | [], k, x, h => by simp [keepL] at h
  | y :: ys, k, x, h => by
    rw [keepL] at h
    split at h
    · exact List.mem_cons_of_mem _ (keep_mem ls ys _ x h)
    · rcases List.mem_cons.1 h with rfl | h
      · exact List.mem_cons_self
      · exact List.mem_cons_of_mem _ (keep_mem ls ys _ x h)
theorem keep_take {xs ls : List Int} {k : Nat} {x : Int} (h : xs[k]? = some x) : keepL ls 0 (xs.take (k + 1)) = keepL ls 0 (xs.take k) ++ (if hasB ls k = true then [] else [x]) := by
  have hk : k < xs.length := (List.getElem?_eq_some_iff.1 h).1
  rw [List.take_succ_eq_append_getElem hk, (List.getElem?_eq_some_iff.1 h).2, keep_snoc]
  simp [List.length_take, Nat.min_eq_left (Nat.le_of_lt hk)]
/-- nothing is left out from an index on that is greater than all of these -/
theorem keep_all (ls : List Int) : ∀ (ys : List Int) (k : Nat), (∀ l ∈ ls, l < k) → keepL ls k ys = ys
  | [], k, _ => rfl
  | y :: ys, k, h => by
    rw [keepL, if_neg (fun e => by have := h _ ((hasB_iff _ _).1 e); omega), keep_all ls ys (k + 1) (fun l hl => by have := h l hl; omega)]
theorem keep_one (i : Nat) : ∀ (ys : List Int) (k : Nat), keepL [((k + i : Nat) : Int)] k ys = ys.take i ++ ys.drop (i + 1)
  | [], k => by simp [keepL]
  | y :: ys, k => by
    cases i with
    | zero =>
      rw [keepL, if_pos (by simp [hasB]), keep_all _ _ _ (by simp; omega)]
      simp
    | succ i =>
      have := keep_one i ys (k + 1)
      rw [show k + 1 + i = k + (i + 1) by omega] at this
      rw [keepL, if_neg (by simp [hasB]; omega), this]
      simp
theorem keep_at (ys : List Int) (i : Nat) : keepL [(i : Int)] 0 ys = ys.take i ++ ys.drop (i + 1) := by
  have := keep_one i ys 0
  rwa [Nat.zero_add] at this

end Go.Proofs.YtbjblkfibinenadGreatDoor


/-
  The contract of putting fresh numbers into an expansion.
-/
namespace Go.Proofs.YtbjblkfibinenadGreatDoor
open Go.RowKit
/-- the list with the fresh numbers in it, if none is there -/
def intoL : List Int → List Int → Option (List Int)
  | xs, [] => some xs
  | xs, f :: fs => if hasB xs f = true then none else intoL (insAt xs (pos xs f) f) fs
def intoB (xs fs : List Int) : Bool := match intoL xs fs with | some ys => expB ys | none => false
def intoR (xs fs : List Int) : List Int := match intoL xs fs with | some ys => if expB ys = true then ys else [] | none => []
theorem into_yes {xs fs : List Int} {f : Int} (h : hasB xs f = true) : intoL xs (f :: fs) = none := by rw [intoL, if_pos h]
theorem into_no {xs fs : List Int} {f : Int} (h : hasB xs f = false) : intoL xs (f :: fs) = intoL (insAt xs (pos xs f) f) fs := by rw [intoL, h]; rfl
theorem into_none {xs fs : List Int} (h : intoL xs fs = none) : intoB xs fs = false ∧ intoR xs fs = [] := by simp [intoB, intoR, h]
theorem into_some {xs fs ys : List Int} (h : intoL xs fs = some ys) : intoB xs fs = expB ys ∧ intoR xs fs = if expB ys = true then ys else [] := by simp [intoB, intoR, h]
theorem In64.ins {xs : List Int} {v : Int} (h : In64 xs) (hv : -9223372036854775808 ≤ v ∧ v ≤ 9223372036854775807) (p : Nat) : In64 (insAt xs p v) := In64.of_mem (fun x hx => by
  rcases ins_mem.1 hx with rfl | hx
  · exact hv
  · exact h.mem x hx)
theorem ret_lnil {w w' : World} (h : Below w.heap.size w w') : RetLB [] false w (.returned (.tuple #[.slice none 0 0, .bool false])) w' := ⟨_, rfl, OwnI.empty _ _, h⟩
end Go.Proofs.YtbjblkfibinenadGreatDoor


/-
  Plain facts on splits of a term, and their contracts.
-/
namespace Go.Proofs.YtbjblkfibinenadGreatDoor
open Go.RowKit
theorem has_ins (xs : List Int) (a b : Int) : hasB (insAt xs (pos xs a) a) b = (decide (b = a) || hasB xs b) := by
  rw [Bool.eq_iff_iff, hasB_iff, Bool.or_eq_true, hasB_iff, ins_mem, decide_eq_true_iff]
theorem into_two {rs : List Int} (hs : Rising rs) {a b : Int} (hne : b ≠ a) : intoB rs [a, b] = (!hasB rs a && !hasB rs b && expB (putL (putL rs a) b)) ∧ intoR rs [a, b] = if (!hasB rs a && !hasB rs b && expB (putL (putL rs a) b)) = true then putL (putL rs a) b else [] := by
  cases ha : hasB rs a with
  | true =>
    have := into_none (into_yes (fs := [b]) ha)
    simpa using this
  | false =>
    have hna : ¬ hasB rs a = true := by rw [ha]; simp
    have h1 := into_no (fs := [b]) ha
    have hp := put_no hs hna
    cases hb : hasB rs b with
    | true =>
      have h2 : hasB (insAt rs (pos rs a) a) b = true := by rw [has_ins, hb]; simp
      rw [into_yes h2] at h1
      simpa using into_none h1
    | false =>
      have h2 : hasB (insAt rs (pos rs a) a) b = false := by rw [has_ins, hb]; simp [hne]
      rw [into_no h2] at h1
      have h3 : intoL rs [a, b] = some (putL (putL rs a) b) := by
        rw [h1, hp, put_no (hs.ins hna) (by rw [h2]; simp)]; rfl
      simpa using into_some h3
theorem into_twice {rs : List Int} (a : Int) : intoB rs [a, a] = false ∧ intoR rs [a, a] = [] := by
  cases ha : hasB rs a with
  | true => exact into_none (into_yes ha)
  | false =>
    have h1 := into_no (fs := [a]) ha
    have h2 : hasB (insAt rs (pos rs a) a) a = true := by rw [has_ins]; simp
    rw [into_yes h2] at h1
    exact into_none h1
theorem keep_sub (ls : List Int) : ∀ (ys : List Int) (k : Nat), List.Sublist (keepL ls k ys) ys
  | [], k => List.Sublist.slnil
  | y :: ys, k => by
    rw [keepL]
    split
    · exact (keep_sub ls ys (k + 1)).cons y
    · exact (keep_sub ls ys (k + 1)).cons_cons y
theorem Rising.keep {ys : List Int} (h : Rising ys) (ls : List Int) (k : Nat) : Rising (keepL ls k ys) := h.sublist (keep_sub ls ys k)
theorem Rising.rest {xs : List Int} (h : Rising xs) (i : Nat) : Rising (restL xs i) := by
  unfold restL
  rw [← List.eraseIdx_eq_take_drop_succ]
  exact h.sublist (List.eraseIdx_sublist xs i)
theorem rest_mem {xs : List Int} {i : Nat} {x : Int} (h : x ∈ restL xs i) : x ∈ xs := by
  unfold restL at h
  rcases List.mem_append.1 h with h | h
  · exact List.mem_of_mem_take h
  · exact List.mem_of_mem_drop h
theorem In64.rest {xs : List Int} (h : In64 xs) (i : Nat) : In64 (restL xs i) := In64.of_mem (fun x hx => h.mem x (rest_mem hx))
theorem Reads.two (w : World) (x y : Int) : Reads (w.alloc (.cells #[.int .i64 x, .int .i64 y] 3)) (some ⟨w.heap.size, 0, none⟩) [x, y] := fun _ =>
  ⟨w.heap.size, 0, rfl, by simp, fun i z h => by
    match i, h with
    | 0, h =>
      simp only [List.getElem?_cons_zero, Option.some.injEq] at h
      subst h
      simp
    | 1, h =>
      simp only [List.getElem?_cons_succ, List.getElem?_cons_zero, Option.some.injEq] at h
      subst h
      simp⟩
theorem cellNew {W : World} {b k : Nat} {vs : Array Value} {T : TypeId} {v : Value} (hb : b = W.heap.size) (h : vs[k]? = some v) : (W.alloc (.cells vs T)).cell? ⟨b, k, none⟩ = some v := by
  subst hb
  simp [h]
theorem cellOld {W : World} {p : Addr} {v : Value} (o : Obj) (h : W.cell? p = some v) : (W.alloc o).cell? p = some v := by
  rw [World.cell?_alloc_some W p o (by rw [h]; rfl), h]
theorem Reads.of1 {w : World} {b : Nat} {x : Int} (hb : b < w.heap.size) (h0 : w.cell? ⟨b, 0, none⟩ = some (.int .i64 x)) : Reads w (some ⟨b, 0, none⟩) [x] := fun _ =>
  ⟨b, 0, rfl, hb, fun i z h => by
    match i, h with
    | 0, h =>
      simp only [List.getElem?_cons_zero, Option.some.injEq] at h
      subst h
      exact h0⟩
theorem Reads.of2 {w : World} {b : Nat} {x y : Int} (hb : b < w.heap.size) (h0 : w.cell? ⟨b, 0, none⟩ = some (.int .i64 x)) (h1 : w.cell? ⟨b, 1, none⟩ = some (.int .i64 y)) : Reads w (some ⟨b, 0, none⟩) [x, y] := fun _ =>
  ⟨b, 0, rfl, hb, fun i z h => by
    match i, h with
    | 0, h =>
      simp only [List.getElem?_cons_zero, Option.some.injEq] at h
      subst h
      exact h0
    | 1, h =>
      simp only [List.getElem?_cons_succ, List.getElem?_cons_zero, Option.some.injEq] at h
      subst h
      exact h1⟩
/-- the term at an index, 0 where there is none -/
def termAt (xs : List Int) (i : Int) : Int := (xs[i.toNat]?).getD 0
def idxB (xs : List Int) (i : Int) : Bool := expB xs && decide (0 ≤ i) && decide (i < xs.length)
def stB (xs : List Int) (i : Int) : Bool := idxB xs i && !decide (termAt xs i = 1) && replB xs i.toNat (termAt xs i + 1) (termAt xs i * (termAt xs i + 1))
def stL (xs : List Int) (i : Int) : List Int := if stB xs i = true then replL xs i.toNat (termAt xs i + 1) (termAt xs i * (termAt xs i + 1)) else []
theorem st_no {xs : List Int} {i : Int} (h : stB xs i = false) : stL xs i = [] := by rw [stL, h]; rfl
theorem idx_exp {xs : List Int} {i : Int} (h : expB xs = false) : idxB xs i = false := by simp [idxB, h]
theorem idx_out {xs : List Int} {i : Int} (h : ¬ (0 ≤ i ∧ i < xs.length)) : idxB xs i = false := by
  unfold idxB
  by_cases h1 : 0 ≤ i
  · have : ¬ i < xs.length := fun h2 => h ⟨h1, h2⟩
    simp [this]
  · simp [h1]
theorem idx_in {xs : List Int} {i : Nat} (h : expB xs = true) (hi : i < xs.length) : idxB xs i = true := by simp [idxB, h, hi]
theorem term_at {xs : List Int} {i : Nat} {x : Int} (h : xs[i]? = some x) : termAt xs i = x := by simp [termAt, h]
theorem st_idx {xs : List Int} {i : Int} (h : idxB xs i = false) : stB xs i = false := by simp [stB, h]
theorem st_one {xs : List Int} {i : Nat} (h : xs[i]? = some 1) : stB xs i = false := by simp [stB, term_at h]
theorem st_in {xs : List Int} {i : Nat} {x : Int} (h : expB xs = true) (hx : xs[i]? = some x) (h1 : x ≠ 1) : stB xs i = replB xs i (x + 1) (x * (x + 1)) ∧ stL xs i = replL xs i (x + 1) (x * (x + 1)) := by
  have hi : i < xs.length := (List.getElem?_eq_some_iff.1 hx).1
  have e : stB xs i = replB xs i (x + 1) (x * (x + 1)) := by simp [stB, idx_in h hi, term_at hx, h1]
  refine ⟨e, ?_⟩
  rw [stL, e, term_at hx]
  cases hr : replB xs i (x + 1) (x * (x + 1)) with
  | true => simp
  | false => rw [repl_no hr]; rfl
theorem into_repl {xs : List Int} (hs : Rising xs) (i : Nat) {a b : Int} (hne : b ≠ a) : intoB (restL xs i) [a, b] = replB xs i a b ∧ intoR (restL xs i) [a, b] = replL xs i a b := into_two (hs.rest i) hne
def sbB (xs : List Int) (i p q : Int) : Bool := idxB xs i && decide (1 ≤ p) && decide (p < q) && decide (q ≤ 1000) && decide (termAt xs i * (p + q) % p = 0) && decide (termAt xs i * (p + q) % q = 0) && replB xs i.toNat (termAt xs i * (p + q) / p) (termAt xs i * (p + q) / q)
def sbL (xs : List Int) (i p q : Int) : List Int := if sbB xs i p q = true then replL xs i.toNat (termAt xs i * (p + q) / p) (termAt xs i * (p + q) / q) else []
theorem sb_no {xs : List Int} {i p q : Int} (h : sbB xs i p q = false) : sbL xs i p q = [] := by rw [sbL, h]; rfl
theorem sb_idx {xs : List Int} {i p q : Int} (h : idxB xs i = false) : sbB xs i p q = false := by simp [sbB, h]
theorem sb_pq {xs : List Int} {i p q : Int} (h : ¬ (1 ≤ p ∧ p < q ∧ q ≤ 1000)) : sbB xs i p q = false := by
  unfold sbB
  by_cases h1 : 1 ≤ p
  · by_cases h2 : p < q
    · have : ¬ q ≤ 1000 := fun h3 => h ⟨h1, h2, h3⟩
      simp [this]
    · simp [h2]
  · simp [h1]
theorem sb_rp {xs : List Int} {i : Nat} {p q x : Int} (hx : xs[i]? = some x) (h : ¬ x * (p + q) % p = 0) : sbB xs i p q = false := by
  unfold sbB
  rw [term_at hx]
  simp only [h, decide_false, Bool.and_false, Bool.false_and]
theorem sb_rq {xs : List Int} {i : Nat} {p q x : Int} (hx : xs[i]? = some x) (h : ¬ x * (p + q) % q = 0) : sbB xs i p q = false := by
  unfold sbB
  rw [term_at hx]
  simp only [h, decide_false, Bool.and_false, Bool.false_and]
theorem sb_in {xs : List Int} {i : Nat} {p q x : Int} (h : expB xs = true) (hx : xs[i]? = some x) (h1 : 1 ≤ p) (h2 : p < q) (h3 : q ≤ 1000) (h4 : x * (p + q) % p = 0) (h5 : x * (p + q) % q = 0) : sbB xs i p q = replB xs i (x * (p + q) / p) (x * (p + q) / q) ∧ sbL xs i p q = replL xs i (x * (p + q) / p) (x * (p + q) / q) := by
  have hi : i < xs.length := (List.getElem?_eq_some_iff.1 hx).1
  have e : sbB xs i p q = replB xs i (x * (p + q) / p) (x * (p + q) / q) := by
    unfold sbB
    rw [idx_in h hi, term_at hx]
    simp only [h1, h2, h3, h4, h5, decide_true, Bool.and_self, Bool.true_and, Int.toNat_natCast]
  refine ⟨e, ?_⟩
  rw [sbL, e, term_at hx]
  cases hr : replB xs i (x * (p + q) / p) (x * (p + q) / q) with
  | true => simp
  | false => rw [repl_no hr]; rfl
/-- the two quotients are different -/
theorem sb_ne {r p q : Int} (h0 : 1 ≤ r) (h1 : 1 ≤ p) (h2 : p < q) (h4 : r % p = 0) (h5 : r % q = 0) : r / q ≠ r / p := fun e => by
  have a := Int.mul_ediv_add_emod r p
  have b := Int.mul_ediv_add_emod r q
  rw [h4] at a
  rw [h5, e] at b
  generalize r / p = t at a b
  have ht : 1 ≤ t := by
    rcases Int.lt_or_le 0 t with h | h
    · omega
    · have := Int.mul_nonneg (by omega : 0 ≤ p) (by omega : 0 ≤ -t)
      rw [Int.mul_neg] at this
      omega
  have := Int.mul_le_mul_of_nonneg_right (by omega : p + 1 ≤ q) (by omega : 0 ≤ t)
  rw [Int.add_mul] at this
  omega
theorem st_mul {x : Int} (h1 : 1 ≤ x) (h2 : x ≤ 1000000000) : 0 ≤ x * (x + 1) ∧ x * (x + 1) ≤ 1000000001000000000 ∧ (x ≠ 1 → x * (x + 1) ≠ x + 1) := by
  refine ⟨Int.mul_nonneg (by omega) (by omega), ?_, fun h e => ?_⟩
  · have := Int.mul_le_mul h2 (by omega : x + 1 ≤ 1000000001) (by omega) (by omega : (0 : Int) ≤ 1000000000); omega
  · have := Int.mul_le_mul_of_nonneg_right (by omega : 2 ≤ x) (by omega : 0 ≤ x + 1); omega
theorem sb_mul {x p q : Int} (h1 : 1 ≤ x) (h2 : x ≤ 1000000000) (h3 : 1 ≤ p) (h4 : p < q) (h5 : q ≤ 1000) : 1 ≤ x * (p + q) ∧ x * (p + q) ≤ 2000000000000 := by
  refine ⟨mul_pos1 h1 (by omega), ?_⟩
  have := Int.mul_le_mul h2 (by omega : p + q ≤ 2000) (by omega) (by omega : (0 : Int) ≤ 1000000000); omega
theorem st_len (xs : List Int) (i : Int) : (stL xs i).length ≤ 1048576 := by
  unfold stL
  split
  · rename_i h
    have h0 := h
    simp only [stB, Bool.and_eq_true] at h
    have h1 := h.2
    rw [replL, if_pos h1]
    simp only [replB, Bool.and_eq_true] at h1
    have := expB_len h1.2
    omega
  · simp
theorem sb_len (xs : List Int) (i p q : Int) : (sbL xs i p q).length ≤ 1048576 := by
  unfold sbL
  split
  · rename_i h
    have h0 := h
    simp only [sbB, Bool.and_eq_true] at h
    have h1 := h.2
    rw [replL, if_pos h1]
    simp only [replB, Bool.and_eq_true] at h1
    have := expB_len h1.2
    omega
  · simp
end Go.Proofs.YtbjblkfibinenadGreatDoor


/-
  Contracts of the union of two expansions, in the program and in the model, and of the library's Concat of two lists.
-/
namespace Go.Proofs.YtbjblkfibinenadGreatDoor
open Go.RowKit
/-- numbers put into a list, one after the other -/
def putAll (xs : List Int) : List Int → List Int
  | [] => xs
  | y :: ys => putAll (putL xs y) ys
theorem putAll_snoc (ys : List Int) (y : Int) : ∀ xs : List Int, putAll xs (ys ++ [y]) = putL (putAll xs ys) y := by
  induction ys with
  | nil => intro xs; rfl
  | cons z zs ih => intro xs; exact ih _
theorem putAll_append (ys zs : List Int) : ∀ xs : List Int, putAll xs (ys ++ zs) = putAll (putAll xs ys) zs := by
  induction ys with
  | nil => intro xs; rfl
  | cons y ys ih => intro xs; exact ih _
theorem Rising.put {xs : List Int} (h : Rising xs) (v : Int) : Rising (putL xs v) := by
  by_cases hv : hasB xs v = true
  · rw [put_yes h hv]; exact h
  · rw [put_no h hv]; exact h.ins hv
theorem In64.put {xs : List Int} (h : In64 xs) {v : Int} (hv : -9223372036854775808 ≤ v ∧ v ≤ 9223372036854775807) : In64 (putL xs v) := by
  unfold putL
  split
  · exact h
  · exact h.ins hv _
theorem putAll_rising (ys : List Int) : ∀ {xs : List Int}, Rising xs → Rising (putAll xs ys) := by
  induction ys with
  | nil => intro xs h; exact h
  | cons y ys ih => intro xs h; exact ih (h.put y)
theorem putAll_len (ys : List Int) : ∀ xs : List Int, (putAll xs ys).length ≤ xs.length + ys.length := by
  induction ys with
  | nil => intro xs; simp [putAll]
  | cons y ys ih => intro xs; have := ih (putL xs y); have := put_len xs y; simp only [putAll, List.length_cons]; omega
theorem putAll_64 (ys : List Int) : ∀ {xs : List Int}, In64 xs → (∀ y ∈ ys, -9223372036854775808 ≤ y ∧ y ≤ 9223372036854775807) → In64 (putAll xs ys) := by
  induction ys with
  | nil => intro xs h _; exact h
  | cons y ys ih => intro xs h hy; exact ih (h.put (hy y (by simp))) (fun z hz => hy z (by simp [hz]))
theorem putAll_take {xs ys : List Int} {k : Nat} {y : Int} (h : ys[k]? = some y) : putAll xs (ys.take (k + 1)) = putL (putAll xs (ys.take k)) y := by
  have hk : k < ys.length := (List.getElem?_eq_some_iff.1 h).1
  rw [List.take_succ_eq_append_getElem hk, (List.getElem?_eq_some_iff.1 h).2, putAll_snoc]
theorem pos_end {xs : List Int} {v : Int} (h : ∀ x ∈ xs, x < v) : pos xs v = xs.length := pos_of (Nat.le_refl _) (fun i x _ hx => h x (List.mem_of_getElem? hx)) (fun x hx => by rw [List.getElem?_eq_none (Nat.le_refl _)] at hx; cases hx)
theorem put_end {xs : List Int} {v : Int} (h : ∀ x ∈ xs, x < v) : putL xs v = xs ++ [v] := by
  rw [putL, pos_end h, List.getElem?_eq_none (Nat.le_refl _), if_neg (by simp), insAt]
  simp
theorem putAll_end (ys : List Int) : ∀ {xs : List Int}, Rising (xs ++ ys) → putAll xs ys = xs ++ ys := by
  induction ys with
  | nil => intro xs _; simp [putAll]
  | cons y ys ih =>
    intro xs h
    have hlt : ∀ x ∈ xs, x < y := fun x hx => (List.pairwise_append.1 h).2.2 x hx y (by simp)
    rw [putAll, put_end hlt, ih (by simpa using h)]
    simp
theorem putAll_self {xs : List Int} (h : Rising xs) : putAll [] xs = xs := by simpa using putAll_end xs (xs := []) (by simpa using h)
def unB (xs ys : List Int) : Bool := expB xs && expB ys && expB (putAll xs ys)
def unL (xs ys : List Int) : List Int := if unB xs ys = true then putAll xs ys else []
theorem un_no {xs ys : List Int} (h : unB xs ys = false) : unL xs ys = [] := by rw [unL, h]; rfl
theorem un_x {xs ys : List Int} (h : expB xs = false) : unB xs ys = false := by simp [unB, h]
theorem un_y {xs ys : List Int} (h : expB ys = false) : unB xs ys = false := by simp [unB, h]
theorem un_in {xs ys : List Int} (h : expB xs = true) (h2 : expB ys = true) : unB xs ys = expB (putAll xs ys) ∧ unL xs ys = if expB (putAll xs ys) = true then putAll xs ys else [] := by
  have e : unB xs ys = expB (putAll xs ys) := by simp [unB, h, h2]
  exact ⟨e, by rw [unL, e]⟩
theorem un_len (xs ys : List Int) : (unL xs ys).length ≤ 1048576 := by
  unfold unL
  split
  · rename_i h
    simp only [unB, Bool.and_eq_true] at h
    have := expB_len h.2
    omega
  · simp
end Go.Proofs.YtbjblkfibinenadGreatDoor


/-
  Plain facts on sorted lists, and on numbers that are put into a list one by one.
-/
namespace Go.Proofs.YtbjblkfibinenadGreatDoor
open Go.RowKit
def srt (xs : List Int) : List Int := xs.mergeSort fun x y => decide (x ≤ y)
theorem srt_perm (xs : List Int) : (srt xs).Perm xs := List.mergeSort_perm _ _
theorem srt_sorted (xs : List Int) : (srt xs).Pairwise (· ≤ ·) := by
  have := List.pairwise_mergeSort (le := fun x y : Int => decide (x ≤ y)) (by intro a b c; simp; omega) (by intro a b; simp; omega) xs
  exact this.imp (by simp)
theorem srt_len (xs : List Int) : (srt xs).length = xs.length := (srt_perm xs).length_eq
theorem srt_mem {xs : List Int} {x : Int} : x ∈ srt xs ↔ x ∈ xs := (srt_perm xs).mem_iff
theorem srt_of {xs ys : List Int} (hp : ys.Perm xs) (hs : ys.Pairwise (· ≤ ·)) : srt xs = ys :=
  List.Perm.eq_of_pairwise (le := (· ≤ ·)) (fun _ _ _ _ h1 h2 => Int.le_antisymm h1 h2) (srt_sorted xs) hs ((srt_perm xs).trans hp.symm)
theorem srt_rising {xs : List Int} (h : Rising xs) : srt xs = xs := srt_of (List.Perm.refl _) (h.imp (fun h => Int.le_of_lt h))
theorem srt_64 {xs : List Int} (h : In64 xs) : In64 (srt xs) := In64.of_mem fun x hx => h.mem x (srt_mem.1 hx)
theorem put_perm {xs : List Int} (hx : Rising xs) {v : Int} (h : v ∉ xs) : (putL xs v).Perm (v :: xs) := by
  rw [put_no hx (fun hb => h ((hasB_iff xs v).1 hb))]
  unfold insAt
  refine List.perm_middle.trans ?_
  rw [List.take_append_drop]
theorem putAll_perm : ∀ (ys : List Int) {xs : List Int}, Rising xs → (xs ++ ys).Nodup → (putAll xs ys).Perm (xs ++ ys)
  | [], xs, _, _ => by simp [putAll]
  | y :: ys, xs, hx, hn => by
    have h1 : ((y :: xs) ++ ys).Nodup := (List.perm_middle (a := y) (l₁ := xs) (l₂ := ys)).nodup_iff.1 hn
    have hy : y ∉ xs := fun h => (List.nodup_cons.1 h1).1 (List.mem_append_left _ h)
    have hp := put_perm hx hy
    have h2 : (putL xs y ++ ys).Nodup := ((hp.append_right ys).nodup_iff).2 h1
    exact (putAll_perm ys (hx.put y) h2).trans ((hp.append_right ys).trans (List.perm_middle (a := y) (l₁ := xs) (l₂ := ys)).symm)
/-- different numbers, put one by one, are the sorted list -/
theorem putAll_srt {ys : List Int} (h : ys.Nodup) : putAll [] ys = srt ys := by
  have hr : Rising (putAll [] ys) := putAll_rising ys List.Pairwise.nil
  exact (srt_of (by simpa using putAll_perm ys (xs := []) List.Pairwise.nil (by simpa using h)) (hr.imp (fun h => Int.le_of_lt h))).symm
/-- the least number first, falling: turned round it rises -/
theorem falling_nodup {xs : List Int} (h : xs.Pairwise (fun a b => b < a)) : xs.Nodup := h.imp (fun h => by omega)
end Go.Proofs.YtbjblkfibinenadGreatDoor


/-
  The contract of the library's sort at a list of the call's own.
-/
namespace Go.Proofs.YtbjblkfibinenadGreatDoor
open Go.RowKit
def SortP (w : World) (base : Nat) (v : Value) (xs : List Int) (e : Ending) (w' : World) : Prop := e = .returned (.tuple #[]) ∧ OwnI w' base v (srt xs) ∧ w.grownBy w' v.ownBlock
theorem sort_own (w : World) (base : Nat) (v : Value) (xs : List Int) (ho : OwnI w base v xs) (h0 : xs ≠ []) (hl : xs.length ≤ 100000) : Calls Tryz.prog 42 #[v] w (SortP w base v xs) := by
  have ho' := ho
  rcases ho.2 with ⟨_, hz⟩ | ⟨g, cap, cur, rfl, hbg, hg, hnc, hcm, hcs, ht⟩
  · exact absurd (List.eq_nil_of_length_eq_zero hz) h0
  · have hlt := (ho'.block g rfl).2
    have hH := holds_of_blockI (ss := xs) hg (by simpa using ht)
    refine (Tryz.slices_Sort_int g 0 cap xs w hH hlt (by omega)).mono ?_
    rintro e w' ⟨rfl, n, os, rfl⟩
    refine ⟨rfl, ?_, grownBy_sortedI _⟩
    have := ownsRow_sortedI (n := n) (os := os) (ts := srt xs) (ss := xs) (srt_len xs) hbg hg hnc hcm hcs
    unfold OwnI
    rw [srt_len]
    exact this
end Go.Proofs.YtbjblkfibinenadGreatDoor
