
/-
  Plain facts: the model's counts of ways, capped, as a list. No program.
-/
import Derived.Test.YtbjblkfibinenadDivP
namespace Go.Proofs.Ytbjblkfibinenad
def capN (x : Nat) : Nat := min x 1000000001
theorem capN_le (x : Nat) : capN x ≤ 1000000001 := Nat.min_le_right _ _
theorem capN_add (a b : Nat) : capN (capN a + capN b) = capN (a + b) := by unfold capN; omega
def wl (P : List Nat) (S : Nat) : List Int := (List.range (S + 1)).map (fun s => ((capN (ways P s) : Nat) : Int))
def wm (P : List Nat) (d j S : Nat) : List Int := (List.range (S + 1)).map (fun s => if j < s then ((capN (ways (d :: P) s) : Nat) : Int) else ((capN (ways P s) : Nat) : Int))
theorem wl_len (P : List Nat) (S : Nat) : (wl P S).length = S + 1 := by simp [wl]
theorem wm_len (P : List Nat) (d j S : Nat) : (wm P d j S).length = S + 1 := by simp [wm]
theorem wl_at (P : List Nat) {S s : Nat} (h : s ≤ S) : (wl P S)[s]? = some ((capN (ways P s) : Nat) : Int) := by
  unfold wl
  rw [List.getElem?_map, List.getElem?_range (by omega)]
  rfl
theorem wm_at (P : List Nat) (d j : Nat) {S s : Nat} (h : s ≤ S) : (wm P d j S)[s]? = some (if j < s then ((capN (ways (d :: P) s) : Nat) : Int) else ((capN (ways P s) : Nat) : Int)) := by
  unfold wm
  rw [List.getElem?_map, List.getElem?_range (by omega)]
  rfl
theorem wm_low (P : List Nat) (d j : Nat) {S s : Nat} (h : s ≤ S) (hj : s ≤ j) : (wm P d j S)[s]? = some ((capN (ways P s) : Nat) : Int) := by
  rw [wm_at P d j h, if_neg (by omega)]
theorem wm_start (P : List Nat) (d S : Nat) : wm P d S S = wl P S := by
  apply List.ext_getElem?
  intro s
  by_cases h : s ≤ S
  · rw [wm_low P d S h h, wl_at P h]
  · rw [List.getElem?_eq_none (by rw [wm_len]; omega), List.getElem?_eq_none (by rw [wl_len]; omega)]
theorem wm_end (P : List Nat) (d j S : Nat) (hj : j < d) : wm P d j S = wl (d :: P) S := by
  apply List.ext_getElem?
  intro s
  by_cases h : s ≤ S
  · rw [wm_at P d j h, wl_at (d :: P) h]
    by_cases h2 : j < s
    · rw [if_pos h2]
    · rw [if_neg h2, ways, if_neg (show ¬ d ≤ s by omega), Nat.add_zero]
  · rw [List.getElem?_eq_none (by rw [wm_len]; omega), List.getElem?_eq_none (by rw [wl_len]; omega)]
theorem wm_step (P : List Nat) (d j S : Nat) (h1 : 1 ≤ d) (hd : d ≤ j) (hS : j ≤ S) :
    (wm P d j S).set j (min (((capN (ways P j) : Nat) : Int) + ((capN (ways P (j - d)) : Nat) : Int)) 1000000001) = wm P d (j - 1) S := by
  have e : min (((capN (ways P j) : Nat) : Int) + ((capN (ways P (j - d)) : Nat) : Int)) 1000000001 = ((capN (ways (d :: P) j) : Nat) : Int) := by
    rw [ways, if_pos hd, ← capN_add]
    unfold capN
    omega
  rw [e]
  apply List.ext_getElem?
  intro s
  rw [List.getElem?_set]
  by_cases h : s ≤ S
  · by_cases h2 : j = s
    · subst h2
      rw [if_pos rfl, wm_len, if_pos (by omega), wm_at P d (j - 1) h, if_pos (by omega)]
    · rw [if_neg h2, wm_at P d j h, wm_at P d (j - 1) h]
      by_cases h3 : j < s
      · rw [if_pos h3, if_pos (by omega)]
      · rw [if_neg h3, if_neg (by omega)]
  · rw [if_neg (by omega), List.getElem?_eq_none (by rw [wm_len]; omega), List.getElem?_eq_none (by rw [wm_len]; omega)]
theorem wl_begin (S : Nat) : (List.replicate (S + 1) (0 : Int)).set 0 1 = wl [] S := by
  apply List.ext_getElem?
  intro s
  rw [List.getElem?_set]
  by_cases h : s ≤ S
  · rw [wl_at [] h, ways]
    by_cases h2 : 0 = s
    · subst h2
      rw [if_pos rfl, if_pos (by simp), if_pos rfl]
      rfl
    · rw [if_neg h2, List.getElem?_replicate, if_pos (by omega), if_neg (fun e => h2 e.symm)]
      rfl
  · rw [if_neg (by omega), List.getElem?_eq_none (by simp; omega), List.getElem?_eq_none (by rw [wl_len]; omega)]
end Go.Proofs.Ytbjblkfibinenad
