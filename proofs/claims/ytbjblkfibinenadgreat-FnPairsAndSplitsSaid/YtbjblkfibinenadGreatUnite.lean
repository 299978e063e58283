
/-
  Contracts of the union of two expansions, in the program and in the model, and of the library's Concat of two lists.
-/
import Derived.Test.YtbjblkfibinenadGreatPut
import Derived.Test.YtbjblkfibinenadGreatOwn
import Derived.Test.YtbjblkfibinenadGreatSplitP
import Derived.Test.YtbjblkfibinenadGreatConcat
namespace Go.Proofs.YtbjblkfibinenadGreat
open Go.RowKit
/-- numbers put into a list, one after the other -/
def putAll (xs : List Int) : List Int → List Int
  | [] => xs
  | y :: ys => putAll (putL xs y) ys
theorem putAll_snoc (ys : List Int) (y : Int) : ∀ xs : List Int, putAll xs (ys ++ [y]) = putL (putAll xs ys) y := by
  induction ys with
  | nil => intro xs; rfl
  | cons z zs ih => intro xs; exact ih _
theorem putAll_append (ys zs : List Int) : ∀ xs : List Int, putAll xs (ys ++ zs) = putAll (putAll xs ys) zs := by
  induction ys with
  | nil => intro xs; rfl
  | cons y ys ih => intro xs; exact ih _
theorem Rising.put {xs : List Int} (h : Rising xs) (v : Int) : Rising (putL xs v) := by
  by_cases hv : hasB xs v = true
  · rw [put_yes h hv]; exact h
  · rw [put_no h hv]; exact h.ins hv
theorem In64.put {xs : List Int} (h : In64 xs) {v : Int} (hv : -9223372036854775808 ≤ v ∧ v ≤ 9223372036854775807) : In64 (putL xs v) := by
  unfold putL
  split
  · exact h
  · exact h.ins hv _
theorem putAll_rising (ys : List Int) : ∀ {xs : List Int}, Rising xs → Rising (putAll xs ys) := by
  induction ys with
  | nil => intro xs h; exact h
  | cons y ys ih => intro xs h; exact ih (h.put y)
theorem putAll_len (ys : List Int) : ∀ xs : List Int, (putAll xs ys).length ≤ xs.length + ys.length := by
  induction ys with
  | nil => intro xs; simp [putAll]
  | cons y ys ih => intro xs; have := ih (putL xs y); have := put_len xs y; simp only [putAll, List.length_cons]; omega
theorem putAll_64 (ys : List Int) : ∀ {xs : List Int}, In64 xs → (∀ y ∈ ys, -9223372036854775808 ≤ y ∧ y ≤ 9223372036854775807) → In64 (putAll xs ys) := by
  induction ys with
  | nil => intro xs h _; exact h
  | cons y ys ih => intro xs h hy; exact ih (h.put (hy y (by simp))) (fun z hz => hy z (by simp [hz]))
theorem putAll_take {xs ys : List Int} {k : Nat} {y : Int} (h : ys[k]? = some y) : putAll xs (ys.take (k + 1)) = putL (putAll xs (ys.take k)) y := by
  have hk : k < ys.length := (List.getElem?_eq_some_iff.1 h).1
  rw [List.take_succ_eq_append_getElem hk, (List.getElem?_eq_some_iff.1 h).2, putAll_snoc]
theorem pos_end {xs : List Int} {v : Int} (h : ∀ x ∈ xs, x < v) : pos xs v = xs.length := pos_of (Nat.le_refl _) (fun i x _ hx => h x (List.mem_of_getElem? hx)) (fun x hx => by rw [List.getElem?_eq_none (Nat.le_refl _)] at hx; cases hx)
theorem put_end {xs : List Int} {v : Int} (h : ∀ x ∈ xs, x < v) : putL xs v = xs ++ [v] := by
  rw [putL, pos_end h, List.getElem?_eq_none (Nat.le_refl _), if_neg (by simp), insAt]
  simp
theorem putAll_end (ys : List Int) : ∀ {xs : List Int}, Rising (xs ++ ys) → putAll xs ys = xs ++ ys := by
  induction ys with
  | nil => intro xs _; simp [putAll]
  | cons y ys ih =>
    intro xs h
    have hlt : ∀ x ∈ xs, x < y := fun x hx => (List.pairwise_append.1 h).2.2 x hx y (by simp)
    rw [putAll, put_end hlt, ih (by simpa using h)]
    simp
theorem putAll_self {xs : List Int} (h : Rising xs) : putAll [] xs = xs := by simpa using putAll_end xs (xs := []) (by simpa using h)
def unB (xs ys : List Int) : Bool := expB xs && expB ys && expB (putAll xs ys)
def unL (xs ys : List Int) : List Int := if unB xs ys = true then putAll xs ys else []
theorem un_no {xs ys : List Int} (h : unB xs ys = false) : unL xs ys = [] := by rw [unL, h]; rfl
theorem un_x {xs ys : List Int} (h : expB xs = false) : unB xs ys = false := by simp [unB, h]
theorem un_y {xs ys : List Int} (h : expB ys = false) : unB xs ys = false := by simp [unB, h]
theorem un_in {xs ys : List Int} (h : expB xs = true) (h2 : expB ys = true) : unB xs ys = expB (putAll xs ys) ∧ unL xs ys = if expB (putAll xs ys) = true then putAll xs ys else [] := by
  have e : unB xs ys = expB (putAll xs ys) := by simp [unB, h, h2]
  exact ⟨e, by rw [unL, e]⟩
theorem un_len (xs ys : List Int) : (unL xs ys).length ≤ 1048576 := by
  unfold unL
  split
  · rename_i h
    simp only [unB, Bool.and_eq_true] at h
    have := expB_len h.2
    omega
  · simp
end Go.Proofs.YtbjblkfibinenadGreat
