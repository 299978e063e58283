
/-
  Contracts of a number's divisors and their sum, in the program and in the model.
-/
import Derived.Test.YtbjblkfibinenadDivP
import Derived.Test.YtbjblkfibinenadApp
import Derived.Test.YtbjblkfibinenadLists
import Derived.Test.YtbjblkfibinenadFrac
namespace Go.Proofs.Ytbjblkfibinenad
open Go.RowKit
/-- a number of this chapter -/
def numB (n : Int) : Bool := decide (1 ≤ n) && decide (n ≤ 2000)
theorem numB_iff (n : Int) : numB n = true ↔ 1 ≤ n ∧ n ≤ 2000 := by simp [numB]
theorem numB_nat {n : Int} (h : numB n = true) : ∃ N : Nat, n = (N : Int) ∧ 1 ≤ N ∧ N ≤ 2000 := by
  obtain ⟨h1, h2⟩ := (numB_iff n).1 h
  exact ⟨n.toNat, by omega, by omega, by omega⟩
theorem numB_of {N : Nat} (h1 : 1 ≤ N) (h2 : N ≤ 2000) : numB (N : Int) = true := (numB_iff _).2 ⟨by omega, by omega⟩
def ints (l : List Nat) : List Int := l.map (fun x : Nat => (x : Int))
theorem ints_len (l : List Nat) : (ints l).length = l.length := List.length_map ..
theorem ints_app (l m : List Nat) : ints (l ++ m) = ints l ++ ints m := List.map_append
theorem ints_at {l : List Nat} {i : Nat} {x : Int} (h : (ints l)[i]? = some x) : ∃ d : Nat, x = (d : Int) ∧ l[i]? = some d := by
  unfold ints at h
  rw [List.getElem?_map] at h
  cases hl : l[i]? with
  | none => rw [hl] at h; cases h
  | some d => rw [hl] at h; exact ⟨d, by injection h with h; exact h.symm, rfl⟩
/-- the divisors up to k, increasing -/
def asc (n k : Nat) : List Nat := (dsc n k).reverse
theorem asc_yes {n k : Nat} (h : n % (k + 1) = 0) : asc n (k + 1) = asc n k ++ [k + 1] := by unfold asc; rw [dsc_yes h, List.reverse_cons]
theorem asc_no {n k : Nat} (h : n % (k + 1) ≠ 0) : asc n (k + 1) = asc n k := by unfold asc; rw [dsc_no h]
theorem asc_len (n k : Nat) : (asc n k).length ≤ k := by unfold asc; rw [List.length_reverse]; exact dsc_len n k
theorem asc_mem {n k d : Nat} : d ∈ asc n k ↔ d ∈ dsc n k := by unfold asc; exact List.mem_reverse
def dvO (n : Int) : Option (List Nat) := if numB n = true then some (asc n.toNat n.toNat) else none
theorem dvO_yes {N : Nat} (h : numB (N : Int) = true) : dvO (N : Int) = some (asc N N) := by unfold dvO; rw [if_pos h]; rfl
theorem dvO_no {n : Int} (h : numB n = false) : dvO n = none := by unfold dvO; rw [h]; rfl
theorem dvO_len (n : Int) : ((dvO n).getD []).length ≤ 2000 := by
  unfold dvO
  split
  · rename_i h
    have := (numB_iff n).1 h
    have h2 := asc_len n.toNat n.toNat
    rw [Option.getD_some]
    omega
  · simp
/-- the tests on remainders, as the walks write them -/
theorem rem_yes {n k : Nat} (h : n % (k + 1) = 0) : (((n : Int) % ((k : Int) + 1) == 0) = true) ∧ (((n : Int).tmod ((k : Int) + 1) == 0) = true) := by
  have e : (n : Int) % ((k : Int) + 1) = 0 := by
    have : ((n % (k + 1) : Nat) : Int) = 0 := by rw [h]; rfl
    rw [Int.natCast_emod] at this
    exact this
  refine ⟨by simp [e], ?_⟩
  rw [Int.tmod_eq_emod_of_nonneg (by omega)]
  simp [e]
theorem rem_no {n k : Nat} (h : n % (k + 1) ≠ 0) : (((n : Int) % ((k : Int) + 1) == 0) = false) ∧ (((n : Int).tmod ((k : Int) + 1) == 0) = false) := by
  have e : ¬ (n : Int) % ((k : Int) + 1) = 0 := fun e => h (by
    have : ((n % (k + 1) : Nat) : Int) = 0 := by rw [Int.natCast_emod]; exact e
    omega)
  refine ⟨by simp [e], ?_⟩
  rw [Int.tmod_eq_emod_of_nonneg (by omega)]
  simp [e]
theorem isNumber_any (n : Int) (w : World) : Calls Try.prog 34 #[.int .i64 n] w (RetQ (.bool (numB n)) w) := by
  by_cases h : 1 ≤ n ∧ n ≤ 2000
  · have E := Lib.hid ((numB_iff n).2 h)
    obtain ⟨h1, h2⟩ := h
    go_enter Try.func34, Try.ntmps34
    go_wp2
    go_ret
    exact ⟨ret_bool E.out.symm, 0, rfl⟩
  · have E : Hid (numB n = false) := Lib.hid (by simp [numB]; omega)
    by_cases h1 : 1 ≤ n
    · have h2 : ¬ n ≤ 2000 := fun h2 => h ⟨h1, h2⟩
      go_enter Try.func34, Try.ntmps34
      go_wp2
      go_ret
      exact ⟨ret_bool E.out.symm, 0, rfl⟩
    · clear h
      go_enter Try.func34, Try.ntmps34
      go_wp2
      go_ret
      exact ⟨ret_bool E.out.symm, 0, rfl⟩
theorem prNumber_any (n : Int) (w : World) : Calls Try.prog 31 #[.int .i64 n] w (RetQ (.bool (numB n)) w) := by
  by_cases h : 1 ≤ n ∧ n ≤ 2000
  · have E := Lib.hid ((numB_iff n).2 h)
    obtain ⟨h1, h2⟩ := h
    go_enter Try.func31, Try.ntmps31
    go_wp2_with fail
    refine (l1In_yes _ _ _ _ h1 h2).mono ?_; rintro e w1 ⟨rfl, k1, rfl⟩
    go_wp2
    go_ret
    exact ⟨ret_bool E.out.symm, _, rfl⟩
  · have E : Hid (numB n = false) := Lib.hid (by simp [numB]; omega)
    go_enter Try.func31, Try.ntmps31
    go_wp2_with fail
    refine (l1In_no _ _ _ _ h).mono ?_; rintro e w1 ⟨rfl, k1, rfl⟩
    go_wp2
    go_ret
    exact ⟨ret_bool E.out.symm, _, rfl⟩
set_option maxHeartbeats 2000000 in
theorem prDivisors_any (N : Nat) (w : World) (h2 : N ≤ 2000) : Calls Try.prog 58 #[.int .i64 (N : Int)] w (RetL (ints (asc N N)) w) := by
  go_enter Try.func58, Try.ntmps58
  go_wp2
  go_loopw [3, 4] (fun v3 v4 wr => ∃ k : Nat, k ≤ N ∧ v4 = .int .i64 ((k : Int) + 1) ∧ OwnI wr w.heap.size v3 (ints (asc N k)) ∧ Below w.heap.size w wr) (fun _ v4 _ => N + 1 - (intOf v4).toNat)
  case atStart => exact ⟨0, Nat.zero_le _, rfl, OwnI.empty _ _, by (repeat' (first | (with_reducible exact Below.refl _ _) | (with_reducible assumption) | (with_reducible refine Below.drew ?_) | (with_reducible refine belowDrewN ?_ _) | (with_reducible refine Below.alloc ?_ ?_ _) | (with_reducible refine Below.setCell ?_ ?_ _) | (with_reducible refine belowStep (by assumption) ?_ ?_) | (with_reducible exact Below.size (by assumption)) | go_size))⟩
  case round =>
    obtain ⟨k, hk, rfl, ho, hbr⟩ := hrel
    have hzr := hbr.size
    have hl := asc_len N k
    rw [← ints_len] at hl
    have Ho := Lib.hid ho
    clear ho
    by_cases hlt : k < N
    · have hlt' : (k : Int) + 1 ≤ (N : Int) := by omega
      have hne : (k : Int) + 1 ≠ 0 := by omega
      by_cases hm : N % (k + 1) = 0
      · obtain ⟨e1, e2⟩ := rem_yes hm
        have E := Lib.hid (asc_yes hm)
        clear hm
        go_wp2_with (at_builtin; refine wpList_app _ (o := ⟨some 17, _, _, _, _, _⟩) (ys := [(k : Int) + 1]) rfl _ _ rfl rfl (OwnI.below Ho.out ((Below.refl _ _).alloc (Nat.le_refl _) _)) (1) (1) (by first | (simp; done) | (simp; omega)) rfl (Reads.one _ ((k : Int) + 1)) (by (try simp only [List.length_nil, List.length_cons]); omega) (by first | exact Nat.le_refl _ | ((try simp only [World.size_alloc]); omega)) ?_; intro v3 w3 ho3 hb3 hg3 ht3; clear hg3 ht3; have hz3 := hb3.size; (try simp only [World.size_alloc] at hz3))
        go_roundw
        case rel => exact ⟨k + 1, by omega, by go_num, by rw [E.out, ints_app]; exact ho3, by (repeat' (first | (with_reducible exact Below.refl _ _) | (with_reducible assumption) | (with_reducible refine Below.drew ?_) | (with_reducible refine belowDrewN ?_ _) | (with_reducible refine Below.alloc ?_ ?_ _) | (with_reducible refine Below.setCell ?_ ?_ _) | (with_reducible refine belowStep (by assumption) ?_ ?_) | (with_reducible exact Below.size (by assumption)) | go_size))⟩
        case measure => simp [intOf]; omega
      · obtain ⟨e1, e2⟩ := rem_no hm
        have E := Lib.hid (asc_no hm)
        clear hm
        go_wp2
        go_roundw
        case rel => exact ⟨k + 1, by omega, by go_num, by rw [E.out]; exact Ho.out, by (repeat' (first | (with_reducible exact Below.refl _ _) | (with_reducible assumption) | (with_reducible refine Below.drew ?_) | (with_reducible refine belowDrewN ?_ _) | (with_reducible refine Below.alloc ?_ ?_ _) | (with_reducible refine Below.setCell ?_ ?_ _) | (with_reducible refine belowStep (by assumption) ?_ ?_) | (with_reducible exact Below.size (by assumption)) | go_size))⟩
        case measure => simp [intOf]; omega
    · obtain rfl : k = N := by omega
      go_wp2
      go_ret
      exact ⟨_, rfl, Ho.out, hbr⟩
set_option maxHeartbeats 2000000 in
theorem divisorsOf_any (n : Int) (w : World) : Calls Try.prog 78 #[.int .i64 n] w (RetLB (ints ((dvO n).getD [])) (dvO n).isSome w) := by
  cases hn : numB n with
  | false =>
    have E := Lib.hid (dvO_no hn)
    have HN : Hid (∀ w, Calls Try.prog 34 #[.int .i64 n] w (RetQ (.bool false) w)) := Lib.hid fun w => by have := isNumber_any n w; rwa [hn] at this
    clear hn
    go_enter Try.func78, Try.ntmps78
    go_wp2_with fail
    refine (HN.out _).mono ?_; rintro e w1 ⟨rfl, k1, rfl⟩
    go_wp2
    go_ret2
    rw [E.out]
    exact ⟨_, rfl, OwnI.empty _ _, by (repeat' (first | (with_reducible exact Below.refl _ _) | (with_reducible assumption) | (with_reducible refine Below.drew ?_) | (with_reducible refine belowDrewN ?_ _) | (with_reducible refine Below.alloc ?_ ?_ _) | (with_reducible refine Below.setCell ?_ ?_ _) | (with_reducible refine belowStep (by assumption) ?_ ?_) | (with_reducible exact Below.size (by assumption)) | go_size))⟩
  | true =>
    obtain ⟨N, rfl, h1, h2⟩ := numB_nat hn
    have E := Lib.hid (dvO_yes hn)
    have HN : Hid (∀ w, Calls Try.prog 34 #[.int .i64 (N : Int)] w (RetQ (.bool true) w)) := Lib.hid fun w => by have := isNumber_any (N : Int) w; rwa [hn] at this
    clear hn
    go_enter Try.func78, Try.ntmps78
    go_wp2_with fail
    refine (HN.out _).mono ?_; rintro e w1 ⟨rfl, k1, rfl⟩
    go_wp2
    go_loopw [4, 5] (fun v3 v4 wr => ∃ k : Nat, k ≤ N ∧ v4 = .int .i64 ((k : Int) + 1) ∧ OwnI wr w.heap.size v3 (ints (asc N k)) ∧ Below w.heap.size w wr) (fun _ v4 _ => N + 1 - (intOf v4).toNat)
    case atStart => exact ⟨0, Nat.zero_le _, rfl, OwnI.zero _ _ (Nat.le_refl _), by (repeat' (first | (with_reducible exact Below.refl _ _) | (with_reducible assumption) | (with_reducible refine Below.drew ?_) | (with_reducible refine belowDrewN ?_ _) | (with_reducible refine Below.alloc ?_ ?_ _) | (with_reducible refine Below.setCell ?_ ?_ _) | (with_reducible refine belowStep (by assumption) ?_ ?_) | (with_reducible exact Below.size (by assumption)) | go_size))⟩
    case round =>
      obtain ⟨k, hk, rfl, ho, hbr⟩ := hrel
      have hzr := hbr.size
      have hl := asc_len N k
      rw [← ints_len] at hl
      have Ho := Lib.hid ho
      clear ho
      by_cases hlt : k < N
      · have hlt' : (k : Int) + 1 ≤ (N : Int) := by omega
        have hne : (k : Int) + 1 ≠ 0 := by omega
        by_cases hm : N % (k + 1) = 0
        · obtain ⟨e1, e2⟩ := rem_yes hm
          have E := Lib.hid (asc_yes hm)
          clear hm
          go_wp2_with (at_builtin; refine wpList_app _ (o := ⟨some 22, _, _, _, _, _⟩) (ys := [(k : Int) + 1]) rfl _ _ rfl rfl (OwnI.below Ho.out ((Below.refl _ _).alloc (Nat.le_refl _) _)) (1) (1) (by first | (simp; done) | (simp; omega)) rfl (Reads.one _ ((k : Int) + 1)) (by (try simp only [List.length_nil, List.length_cons]); omega) (by first | exact Nat.le_refl _ | ((try simp only [World.size_alloc]); omega)) ?_; intro v3 w3 ho3 hb3 hg3 ht3; clear hg3 ht3; have hz3 := hb3.size; (try simp only [World.size_alloc] at hz3))
          go_roundw
          case rel => exact ⟨k + 1, by omega, by go_num, by rw [E.out, ints_app]; exact ho3, by (repeat' (first | (with_reducible exact Below.refl _ _) | (with_reducible assumption) | (with_reducible refine Below.drew ?_) | (with_reducible refine belowDrewN ?_ _) | (with_reducible refine Below.alloc ?_ ?_ _) | (with_reducible refine Below.setCell ?_ ?_ _) | (with_reducible refine belowStep (by assumption) ?_ ?_) | (with_reducible exact Below.size (by assumption)) | go_size))⟩
          case measure => simp [intOf]; omega
        · obtain ⟨e1, e2⟩ := rem_no hm
          have E := Lib.hid (asc_no hm)
          clear hm
          go_wp2
          go_roundw
          case rel => exact ⟨k + 1, by omega, by go_num, by rw [E.out]; exact Ho.out, by (repeat' (first | (with_reducible exact Below.refl _ _) | (with_reducible assumption) | (with_reducible refine Below.drew ?_) | (with_reducible refine belowDrewN ?_ _) | (with_reducible refine Below.alloc ?_ ?_ _) | (with_reducible refine Below.setCell ?_ ?_ _) | (with_reducible refine belowStep (by assumption) ?_ ?_) | (with_reducible exact Below.size (by assumption)) | go_size))⟩
          case measure => simp [intOf]; omega
      · obtain rfl : k = N := by omega
        go_wp2
        go_ret2
        rw [E.out]
        exact ⟨_, rfl, Ho.out, hbr⟩
end Go.Proofs.Ytbjblkfibinenad
