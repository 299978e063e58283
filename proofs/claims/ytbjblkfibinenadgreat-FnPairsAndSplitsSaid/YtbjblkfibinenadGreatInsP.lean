
/-
  Plain facts on putting a number into a rising list.
-/
import Derived.Test.YtbjblkfibinenadGreatSumP
import Derived.Test.YtbjblkfibinenadGreatHas
namespace Go.Proofs.YtbjblkfibinenadGreat
open Go.RowKit
/-- how many numbers at the list's beginning are less -/
def pos : List Int → Int → Nat
  | [], _ => 0
  | y :: ys, v => if y < v then pos ys v + 1 else 0
def insAt (xs : List Int) (p : Nat) (v : Int) : List Int := xs.take p ++ v :: xs.drop p
/-- what a rising list becomes that gets a number, unless it is there -/
def putL (xs : List Int) (v : Int) : List Int := if xs[pos xs v]? = some v then xs else insAt xs (pos xs v) v
def Rising (xs : List Int) : Prop := xs.Pairwise (· < ·)
theorem pos_le (xs : List Int) (v : Int) : pos xs v ≤ xs.length := by
  induction xs with
  | nil => simp [pos]
  | cons y ys ih => unfold pos; split <;> simp; omega
theorem pos_below (xs : List Int) (v : Int) : ∀ (i : Nat) (x : Int), i < pos xs v → xs[i]? = some x → x < v := by
  induction xs with
  | nil => intro i x h; simp [pos] at h
  | cons y ys ih =>
    intro i x h hx
    unfold pos at h
    split at h
    · cases i with
      | zero => simp at hx; omega
      | succ i => exact ih i x (by omega) (by simpa using hx)
    · omega
theorem pos_at (xs : List Int) (v : Int) : ∀ (x : Int), xs[pos xs v]? = some x → v ≤ x := by
  induction xs with
  | nil => intro x h; simp at h
  | cons y ys ih =>
    intro x h
    unfold pos at h
    split at h
    · exact ih x (by simpa using h)
    · simp at h; omega
/-- the place is told by what lies before and behind -/
theorem pos_of {xs : List Int} {v : Int} {p : Nat} (hp : p ≤ xs.length) (h1 : ∀ (i : Nat) (x : Int), i < p → xs[i]? = some x → x < v) (h2 : ∀ (x : Int), xs[p]? = some x → v ≤ x) : pos xs v = p := by
  rcases Nat.lt_trichotomy (pos xs v) p with h | h | h
  · have hl : pos xs v < xs.length := by omega
    have a := h1 _ xs[pos xs v] h (List.getElem?_eq_getElem hl)
    have b := pos_at xs v xs[pos xs v] (List.getElem?_eq_getElem hl)
    omega
  · exact h
  · have hl : p < xs.length := by have := pos_le xs v; omega
    have a := pos_below xs v p xs[p] h (List.getElem?_eq_getElem hl)
    have b := h2 xs[p] (List.getElem?_eq_getElem hl)
    omega
theorem Rising.lt {xs : List Int} (h : Rising xs) {i j : Nat} {x y : Int} (hij : i < j) (hx : xs[i]? = some x) (hy : xs[j]? = some y) : x < y := by
  obtain ⟨hi, rfl⟩ := List.getElem?_eq_some_iff.1 hx
  obtain ⟨hj, rfl⟩ := List.getElem?_eq_some_iff.1 hy
  exact List.pairwise_iff_getElem.1 h i j hi hj hij
theorem Rising.le {xs : List Int} (h : Rising xs) {i j : Nat} {x y : Int} (hij : i ≤ j) (hx : xs[i]? = some x) (hy : xs[j]? = some y) : x ≤ y := by
  rcases Nat.lt_or_eq_of_le hij with h1 | h1
  · have := h.lt h1 hx hy; omega
  · subst h1; rw [hx] at hy; injection hy; omega
theorem found_iff {xs : List Int} (h : Rising xs) (v : Int) : xs[pos xs v]? = some v ↔ hasB xs v = true := by
  rw [hasB_iff]
  constructor
  · exact fun h => List.mem_of_getElem? h
  · intro hm
    obtain ⟨i, hi⟩ := List.getElem?_of_mem hm
    have hle : pos xs v ≤ i := by
      rcases Nat.lt_or_ge i (pos xs v) with h1 | h1
      · have := pos_below xs v i v h1 hi; omega
      · exact h1
    have hl : pos xs v < xs.length := by have := (List.getElem?_eq_some_iff.1 hi).1; omega
    have a := pos_at xs v xs[pos xs v] (List.getElem?_eq_getElem hl)
    have b := h.le hle (List.getElem?_eq_getElem hl) hi
    rw [List.getElem?_eq_getElem hl]
    congr 1
    omega
theorem ins_mem {xs : List Int} {p : Nat} {v x : Int} : x ∈ insAt xs p v ↔ x = v ∨ x ∈ xs := by
  unfold insAt
  rw [List.mem_append, List.mem_cons]
  constructor
  · rintro (h | h | h)
    · exact .inr (List.mem_of_mem_take h)
    · exact .inl h
    · exact .inr (List.mem_of_mem_drop h)
  · rintro (h | h)
    · exact .inr (.inl h)
    · rw [← List.take_append_drop p xs, List.mem_append] at h
      rcases h with h | h
      · exact .inl h
      · exact .inr (.inr h)
theorem ins_len (xs : List Int) (p : Nat) (v : Int) (hp : p ≤ xs.length) : (insAt xs p v).length = xs.length + 1 := by simp [insAt]; omega
theorem Rising.ins {xs : List Int} (h : Rising xs) {v : Int} (hv : ¬ hasB xs v = true) : Rising (insAt xs (pos xs v) v) := by
  unfold insAt Rising
  have hs := h
  unfold Rising at hs
  rw [← List.take_append_drop (pos xs v) xs, List.pairwise_append] at hs
  obtain ⟨h1, h2, h3⟩ := hs
  rw [List.pairwise_append, List.pairwise_cons]
  have hlow : ∀ x ∈ xs.take (pos xs v), x < v := fun x hx => by
    obtain ⟨i, hi⟩ := List.getElem?_of_mem hx
    rw [List.getElem?_take] at hi
    split at hi
    · rename_i hlt
      exact pos_below xs v i x hlt hi
    · cases hi
  have hhigh : ∀ x ∈ xs.drop (pos xs v), v < x := fun x hx => by
    obtain ⟨i, hi⟩ := List.getElem?_of_mem hx
    rw [List.getElem?_drop] at hi
    have hl : pos xs v < xs.length := by have := (List.getElem?_eq_some_iff.1 hi).1; omega
    have a := pos_at xs v xs[pos xs v] (List.getElem?_eq_getElem hl)
    have b := h.le (Nat.le_add_right (pos xs v) i) (List.getElem?_eq_getElem hl) hi
    have c : x ≠ v := fun e => hv ((hasB_iff xs v).2 (by rw [← e]; exact List.mem_of_getElem? hi))
    omega
  refine ⟨h1, ⟨hhigh, h2⟩, fun a ha b hb => ?_⟩
  rcases List.mem_cons.1 hb with rfl | hb
  · exact hlow a ha
  · exact h3 a ha b hb
theorem put_no {xs : List Int} (h : Rising xs) {v : Int} (hv : ¬ hasB xs v = true) : putL xs v = insAt xs (pos xs v) v := by
  rw [putL, if_neg (fun e => hv ((found_iff h v).1 e))]
theorem put_yes {xs : List Int} (h : Rising xs) {v : Int} (hv : hasB xs v = true) : putL xs v = xs := by
  rw [putL, if_pos ((found_iff h v).2 hv)]
theorem rise_rising {lo hi : Int} : ∀ {xs : List Int} {p : Option Int}, rise lo hi p xs = true → Rising xs ∧ ∀ q, p = some q → ∀ x ∈ xs, q < x
  | [], p, _ => ⟨List.Pairwise.nil, fun q _ x hx => by simp at hx⟩
  | t :: ts, p, hr => by
    unfold rise at hr
    simp only [Bool.and_eq_true, decide_eq_true_eq] at hr
    obtain ⟨ih1, ih2⟩ := rise_rising hr.2
    refine ⟨List.pairwise_cons.2 ⟨fun x hx => ih2 t rfl x hx, ih1⟩, fun q hq x hx => ?_⟩
    subst hq
    have h1 : q < t := by simpa using hr.1.2
    rcases List.mem_cons.1 hx with rfl | hx
    · exact h1
    · have := ih2 t rfl x hx; omega
theorem expB_rising {xs : List Int} (h : expB xs = true) : Rising xs := (rise_rising (expB_parts h).2.1).1
end Go.Proofs.YtbjblkfibinenadGreat
