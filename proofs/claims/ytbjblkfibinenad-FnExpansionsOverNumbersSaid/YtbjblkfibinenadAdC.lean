
/-
  Contracts of AreDivisorsFor, in the program and in the model.
-/
import Derived.Test.YtbjblkfibinenadDivC
import Derived.Test.YtbjblkfibinenadLists
namespace Go.Proofs.Ytbjblkfibinenad
open Go.RowKit
/-- a sum that may be asked for -/
def askB (s : Int) : Bool := decide (0 ≤ s) && decide (s ≤ 100000)
theorem askB_iff (s : Int) : askB s = true ↔ 0 ≤ s ∧ s ≤ 100000 := by simp [askB]
theorem isAskedSum_any (n : Int) (w : World) : Calls Try.prog 61 #[.int .i64 n] w (RetQ (.bool (askB n)) w) := by
  by_cases h : 0 ≤ n ∧ n ≤ 100000
  · have E := Lib.hid ((askB_iff n).2 h)
    obtain ⟨h1, h2⟩ := h
    go_enter Try.func61, Try.ntmps61
    go_wp2
    go_ret
    exact ⟨ret_bool E.out.symm, 0, rfl⟩
  · have E : Hid (askB n = false) := Lib.hid (by simp [askB]; omega)
    by_cases h1 : 0 ≤ n
    · have h2 : ¬ n ≤ 100000 := fun h2 => h ⟨h1, h2⟩
      go_enter Try.func61, Try.ntmps61
      go_wp2
      go_ret
      exact ⟨ret_bool E.out.symm, 0, rfl⟩
    · clear h
      go_enter Try.func61, Try.ntmps61
      go_wp2
      go_ret
      exact ⟨ret_bool E.out.symm, 0, rfl⟩
/-- a falling list of divisors, and its sum -/
def adF (n : Int) : Int → Int → List Int → Option Int
  | _, t, [] => some t
  | last, t, d :: ds => if d < 1 ∨ last ≤ d ∨ n % d ≠ 0 then none else adF n d (t + d) ds
theorem adF_yes {n last t d : Int} {ds : List Int} (h : ¬ (d < 1 ∨ last ≤ d ∨ n % d ≠ 0)) : adF n last t (d :: ds) = adF n d (t + d) ds := by rw [adF, if_neg h]
theorem adF_no {n last t d : Int} {ds : List Int} (h : d < 1 ∨ last ≤ d ∨ n % d ≠ 0) : adF n last t (d :: ds) = none := by rw [adF, if_pos h]
def adB (n s : Int) (xs : List Int) : Bool := numB n && askB s && decide (adF n (n + 1) 0 xs = some s)
theorem adB_bad {n s : Int} {xs : List Int} (h : (numB n && askB s) = false) : adB n s xs = false := by unfold adB; rw [h]; rfl
theorem adB_ok {n s : Int} {xs : List Int} (h : (numB n && askB s) = true) : adB n s xs = decide (adF n (n + 1) 0 xs = some s) := by unfold adB; rw [h]; rfl
theorem dropI {xs : List Int} {k : Nat} {x : Int} (h : xs[k]? = some x) : xs.drop k = x :: xs.drop (k + 1) := by
  obtain ⟨h1, h2⟩ := List.getElem?_eq_some_iff.1 h
  rw [List.drop_eq_getElem_cons h1, h2]
/-- the last number ahead of place k -/
def lastI (n : Int) (xs : List Int) (k : Nat) : Int := match k with | 0 => n + 1 | j + 1 => (xs[j]?).getD 0
theorem lastI_next {n : Int} {xs : List Int} {k : Nat} {x : Int} (h : xs[k]? = some x) : lastI n xs (k + 1) = x := by simp [lastI, h]
structure Ad (n s : Int) (xs : List Int) (k : Nat) (last t : Int) : Prop where
  all : adF n (n + 1) 0 xs = adF n last t (xs.drop k)
  low : 0 ≤ t
  high : t ≤ 2000 * (k : Int)
  le : last ≤ n + 1
  is : last = lastI n xs k
theorem Ad.start (n s : Int) (xs : List Int) : Ad n s xs 0 (n + 1) 0 := ⟨rfl, by omega, by simp, by omega, rfl⟩
theorem Ad.next {n s : Int} {xs : List Int} {k : Nat} {last t d : Int} (h : Ad n s xs k last t) (hx : xs[k]? = some d) (hd : ¬ (d < 1 ∨ last ≤ d ∨ n % d ≠ 0)) (hn : n ≤ 2000) : Ad n s xs (k + 1) d (t + d) := by
  have h1 := h.low
  have h2 := h.high
  have h3 := h.le
  refine ⟨by rw [h.all, dropI hx, adF_yes hd], by omega, by omega, by omega, (lastI_next hx).symm⟩
theorem Ad.bad {n s : Int} {xs : List Int} {k : Nat} {last t d : Int} (h : Ad n s xs k last t) (hx : xs[k]? = some d) (hd : d < 1 ∨ last ≤ d ∨ n % d ≠ 0) (hk : (numB n && askB s) = true) : adB n s xs = false := by
  rw [adB_ok hk, h.all, dropI hx, adF_no hd]
  rfl
theorem Ad.done {n s : Int} {xs : List Int} {k : Nat} {last t : Int} (h : Ad n s xs k last t) (hl : xs.length ≤ k) (hk : (numB n && askB s) = true) : adB n s xs = (t == s) := by
  rw [adB_ok hk, h.all, List.drop_of_length_le hl, adF]
  by_cases e : t = s <;> simp [e]
end Go.Proofs.Ytbjblkfibinenad
