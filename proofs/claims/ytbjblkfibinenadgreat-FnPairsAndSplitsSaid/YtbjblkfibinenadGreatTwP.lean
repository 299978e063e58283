
/-
  Plain facts on lists in which numbers stand twice, and on the rounds that replace them.
-/
import Derived.Test.YtbjblkfibinenadGreatSortP
import Derived.Test.YtbjblkfibinenadGreatIfExp
import Derived.Test.YtbjblkfibinenadGreatPro
namespace Go.Proofs.YtbjblkfibinenadGreat
open Go.RowKit
/-- the index of the first number that stands twice, one behind the other -/
def tw : List Int → Option Nat
  | x :: y :: ys => if x = y then some 0 else (tw (y :: ys)).map (· + 1)
  | _ => none
theorem tw_short {xs : List Int} (h : xs.length ≤ 1) : tw xs = none := by
  match xs, h with
  | [], _ => rfl
  | [_], _ => rfl
theorem tw_end {xs : List Int} {k : Nat} (h : xs.length ≤ k + 1) : tw (xs.drop k) = none := tw_short (by rw [List.length_drop]; omega)
theorem tw_hit {xs : List Int} {k : Nat} {x : Int} (hx : xs[k]? = some x) (hy : xs[k + 1]? = some x) : tw (xs.drop k) = some 0 := by
  rw [drop_at hx, drop_at hy, tw, if_pos rfl]
theorem tw_miss {xs : List Int} {k : Nat} {x y : Int} (hx : xs[k]? = some x) (hy : xs[k + 1]? = some y) (hne : x ≠ y) : tw (xs.drop k) = (tw (xs.drop (k + 1))).map (· + 1) := by
  rw [drop_at hx, drop_at hy, tw, if_neg hne]
theorem tw_at : ∀ {xs : List Int} {i : Nat}, tw xs = some i → ∃ d, xs[i]? = some d ∧ xs[i + 1]? = some d
  | [], i, h => by cases h
  | [_], i, h => by cases h
  | x :: y :: ys, i, h => by
    rw [tw] at h
    by_cases he : x = y
    · rw [if_pos he] at h
      injection h with h
      subst h
      exact ⟨x, rfl, by rw [he]; rfl⟩
    · rw [if_neg he] at h
      cases ht : tw (y :: ys) with
      | none => rw [ht] at h; cases h
      | some j =>
        rw [ht] at h
        injection h with h
        subst h
        obtain ⟨d, h1, h2⟩ := tw_at ht
        exact ⟨d, by simpa using h1, by simpa using h2⟩
/-- without a number that stands twice, a list that does not fall rises -/
theorem tw_rising : ∀ {xs : List Int}, xs.Pairwise (· ≤ ·) → tw xs = none → Rising xs
  | [], _, _ => List.Pairwise.nil
  | [x], _, _ => List.pairwise_singleton _ _
  | x :: y :: ys, hs, h => by
    rw [tw] at h
    by_cases he : x = y
    · rw [if_pos he] at h; cases h
    · rw [if_neg he] at h
      have h2 : tw (y :: ys) = none := by
        cases ht : tw (y :: ys) with
        | none => rfl
        | some j => rw [ht] at h; cases h
      obtain ⟨h3, h4⟩ := List.pairwise_cons.1 hs
      have ih := tw_rising h4 h2
      refine List.pairwise_cons.2 ⟨fun z hz => ?_, ih⟩
      have h5 := h3 y (by simp)
      rcases List.mem_cons.1 hz with rfl | hz
      · omega
      · have := (List.pairwise_cons.1 ih).1 z hz
        omega
/-- what a number d that stands twice is replaced by: how many of it go, and what comes -/
def repP (d : Int) : Nat × List Int := if d % 2 = 0 then (2, [d / 2]) else (2, [(d + 1) / 2, d * (d + 1) / 2])
def repS (d : Int) : Nat × List Int := (1, [d + 1, d * (d + 1)])
/-- one round -/
def roundL (g : Int → Nat × List Int) (xs : List Int) (i : Nat) : List Int := srt (xs.take i ++ xs.drop (i + (g ((xs[i]?).getD 0)).1) ++ (g ((xs[i]?).getD 0)).2)
def small (xs : List Int) : Bool := xs.all fun x => decide (x ≤ 1000000000)
/-- so many rounds at most -/
def rounds (g : Int → Nat × List Int) : Nat → List Int → Option (List Int)
  | k, xs => match tw xs with
    | none => some xs
    | some i => match k with
      | 0 => none
      | k + 1 => if small (roundL g xs i) = true then rounds g k (roundL g xs i) else none
theorem rounds_done {g : Int → Nat × List Int} {k : Nat} {xs : List Int} (h : tw xs = none) : rounds g k xs = some xs := by
  cases k <;> simp [rounds, h]
theorem rounds_out {g : Int → Nat × List Int} {xs : List Int} {i : Nat} (h : tw xs = some i) : rounds g 0 xs = none := by simp [rounds, h]
theorem rounds_big {g : Int → Nat × List Int} {k : Nat} {xs : List Int} {i : Nat} (h : tw xs = some i) (hs : small (roundL g xs i) = false) : rounds g (k + 1) xs = none := by simp [rounds, h, hs]
theorem rounds_on {g : Int → Nat × List Int} {k : Nat} {xs : List Int} {i : Nat} (h : tw xs = some i) (hs : small (roundL g xs i) = true) : rounds g (k + 1) xs = rounds g k (roundL g xs i) := by
  rw [rounds, h]; simp [hs]
/-- a number put into a list that does not fall -/
def putS (xs : List Int) (n : Int) : List Int := xs.takeWhile (fun x => decide (x ≤ n)) ++ [n] ++ xs.dropWhile (fun x => decide (x ≤ n))
theorem putS_perm (xs : List Int) (n : Int) : (putS xs n).Perm (xs ++ [n]) := by
  unfold putS
  have h := List.takeWhile_append_dropWhile (p := fun x => decide (x ≤ n)) (l := xs)
  conv => rhs; rw [← h]
  rw [List.append_assoc, List.append_assoc]
  exact List.Perm.append_left _ List.perm_append_comm
theorem putS_sorted : ∀ {xs : List Int}, xs.Pairwise (· ≤ ·) → ∀ n, (putS xs n).Pairwise (· ≤ ·)
  | [], _, n => by simp [putS]
  | x :: xs, h, n => by
    obtain ⟨h1, h2⟩ := List.pairwise_cons.1 h
    by_cases hx : x ≤ n
    · have ih := putS_sorted h2 n
      have e : putS (x :: xs) n = x :: putS xs n := by simp [putS, hx]
      rw [e]
      refine List.pairwise_cons.2 ⟨fun y hy => ?_, ih⟩
      rcases List.mem_append.1 ((putS_perm xs n).mem_iff.1 hy) with hy | hy
      · exact h1 y hy
      · simp only [List.mem_singleton] at hy; omega
    · have e : putS (x :: xs) n = n :: x :: xs := by simp [putS, hx]
      rw [e]
      refine List.pairwise_cons.2 ⟨fun y hy => ?_, h⟩
      rcases List.mem_cons.1 hy with rfl | hy
      · omega
      · have := h1 y hy; omega
/-- putting in is sorting -/
theorem putS_srt {xs : List Int} (h : xs.Pairwise (· ≤ ·)) (n : Int) : putS xs n = srt (xs ++ [n]) := (srt_of (putS_perm xs n) (putS_sorted h n)).symm
theorem srt_append (xs : List Int) (ys : List Int) : srt (srt xs ++ ys) = srt (xs ++ ys) :=
  srt_of ((srt_perm (xs ++ ys)).trans (List.Perm.append_right ys (srt_perm xs).symm)) (srt_sorted _)
theorem putS_two {xs : List Int} (h : xs.Pairwise (· ≤ ·)) (a b : Int) : putS (putS xs a) b = srt (xs ++ [a, b]) := by
  rw [putS_srt (putS_sorted h a), putS_srt h, srt_append, List.append_assoc]
  rfl
theorem putS_len (xs : List Int) (n : Int) : (putS xs n).length = xs.length + 1 := by rw [(putS_perm xs n).length_eq]; simp
/-- the place of a number in a list that does not fall: as the model's loop finds it -/
theorem putS_at {xs : List Int} {n : Int} : ∀ {k : Nat}, k ≤ xs.length → (∀ (i : Nat) (x : Int), i < k → xs[i]? = some x → x ≤ n) → (∀ x, xs[k]? = some x → ¬ x ≤ n) → putS xs n = xs.take k ++ [n] ++ xs.drop k := by
  intro k
  induction k generalizing xs with
  | zero =>
    intro _ _ h2
    cases xs with
    | nil => rfl
    | cons x xs =>
      have := h2 x rfl
      simp [putS, this]
  | succ k ih =>
    intro hk h1 h2
    cases xs with
    | nil => simp at hk
    | cons x xs =>
      have hx := h1 0 x (by omega) rfl
      have := ih (xs := xs) (by simpa using hk) (fun i y hi hy => h1 (i + 1) y (by omega) (by simpa using hy)) (fun y hy => h2 y (by simpa using hy))
      have e : putS (x :: xs) n = x :: putS xs n := by simp [putS, hx]
      rw [e, this]
      rfl
end Go.Proofs.YtbjblkfibinenadGreat
