
/-
  Contracts of the sum of a number's divisors, in the program and in the model.
-/
import Derived.Test.YtbjblkfibinenadDivC
namespace Go.Proofs.Ytbjblkfibinenad
open Go.RowKit
theorem sum_take {l : List Nat} {k d : Nat} (h : l[k]? = some d) : (l.take (k + 1)).sum = (l.take k).sum + d := by
  rw [List.take_add_one, h, List.sum_append]
  simp
theorem sum_take_le {l : List Nat} (h : ∀ d ∈ l, d ≤ 2000) : ∀ k, (l.take k).sum ≤ 2000 * k
  | 0 => by simp
  | k + 1 => by
    have ih := sum_take_le h k
    cases hl : l[k]? with
    | none => rw [List.take_add_one, hl]; simp; omega
    | some d => rw [sum_take hl]; have := h d (List.mem_of_getElem? hl); omega
theorem asc_sum (N : Nat) : (asc N N).sum = sig N := (List.reverse_perm (dsc N N)).sum_nat
theorem asc_small {N : Nat} (h : N ≤ 2000) : ∀ d ∈ asc N N, d ≤ 2000 := fun d hd => by
  have := ((dsc_mem N N d).1 (asc_mem.1 hd)).2.1
  omega
theorem sig_small {N : Nat} (h : N ≤ 2000) : sig N ≤ 4000000 := by
  have h1 := sum_take_le (asc_small h) (asc N N).length
  rw [List.take_length, asc_sum] at h1
  have := asc_len N N
  omega
def sgR (n : Int) : Int := if numB n = true then (sig n.toNat : Int) else 0
theorem sgR_yes {N : Nat} (h : numB (N : Int) = true) : sgR (N : Int) = (sig N : Int) := by unfold sgR; rw [if_pos h]; rfl
theorem sgR_no {n : Int} (h : numB n = false) : sgR n = 0 := by unfold sgR; rw [h]; rfl
set_option maxHeartbeats 2000000 in
theorem prSum_any (N : Nat) (w : World) (h2 : N ≤ 2000) : Calls Try.prog 56 #[.int .i64 (N : Int)] w (Ret (.int .i64 (sig N : Int)) w) := by
  have hs := asc_small h2
  have HS := Lib.hid hs
  have hl := asc_len N N
  have ES := Lib.hid (asc_sum N)
  clear hs
  go_enter Try.func56, Try.ntmps56
  go_wp2_with fail
  refine (prDivisors_any N _ h2).mono ?_; rintro e w2 ⟨v2, rfl, ho2, hb2⟩; obtain ⟨A2, c2, rfl, hr2⟩ := ho2.form
  have HR := Lib.hid hr2
  have hz2 := hb2.size
  clear hr2 ho2
  have hle := ints_len (asc N N)
  generalize asc N N = ds at *
  go_wp2
  go_loopw [3, 9] (fun v3 v9 wr => ∃ k : Nat, k ≤ ds.length ∧ v9 = .int .i64 (k : Int) ∧ v3 = .int .i64 ((ds.take k).sum : Nat) ∧ ∃ m, wr = w2.drewN m) (fun _ v9 _ => ds.length - (intOf v9).toNat)
  case atStart => exact ⟨0, Nat.zero_le _, rfl, by simp, 0, rfl⟩
  case round =>
    obtain ⟨k, hk, rfl, rfl, m, rfl⟩ := hrel
    by_cases hlt : k < ds.length
    · obtain ⟨b, o, x, rfl, hbb, hx, hcell⟩ := (HR.out.drewN m).at_ (show k < (ints ds).length by omega)
      obtain ⟨d, rfl, hd⟩ := ints_at hx
      have hlt' : (k : Int) < (ds.length : Int) := by omega
      have hlt2 : (k : Int) < ((ints ds).length : Int) := by omega
      have E := Lib.hid (sum_take hd)
      have hd2 := HS.out d (List.mem_of_getElem? hd)
      have ht := sum_take_le HS.out k
      clear hx hd
      go_wp2
      go_roundw
      case rel => exact ⟨k + 1, by omega, by go_num, by rw [E.out]; go_num, m, rfl⟩
      case measure => simp [intOf]; omega
    · obtain rfl : k = ds.length := by omega
      have hlt2 : ¬ (ds.length : Int) < ((ints ds).length : Int) := by omega
      rw [List.take_length] at *
      go_wp2
      go_ret
      rw [ES.out]
      exact ⟨rfl, by (repeat' (first | (with_reducible exact Below.refl _ _) | (with_reducible assumption) | (with_reducible refine Below.drew ?_) | (with_reducible refine belowDrewN ?_ _) | (with_reducible refine Below.alloc ?_ ?_ _) | (with_reducible refine Below.setCell ?_ ?_ _) | (with_reducible refine belowStep (by assumption) ?_ ?_) | (with_reducible exact Below.size (by assumption)) | go_size))⟩
set_option maxHeartbeats 2000000 in
theorem divisorSum_any (n : Int) (w : World) : Calls Try.prog 77 #[.int .i64 n] w (Ret (.tuple #[.int .i64 (sgR n), .bool (numB n)]) w) := by
  cases hn : numB n with
  | false =>
    have E := Lib.hid (sgR_no hn)
    have E2 : Hid (∀ w, Calls Try.prog 78 #[.int .i64 n] w (RetLB [] false w)) := Lib.hid fun w => by have := divisorsOf_any n w; rwa [dvO_no hn] at this
    clear hn
    go_enter Try.func77, Try.ntmps77
    go_wp2_with fail
    refine (E2.out _).mono ?_; rintro e w2 ⟨v2, rfl, ho2, hb2⟩; obtain ⟨A2, c2, rfl, hr2⟩ := ho2.form
    go_wp2
    go_loopw [6, 16] (fun v6 v16 wr => v16 = .int .i64 0 ∧ v6 = .int .i64 0 ∧ ∃ m, wr = w2.drewN m) (fun _ _ _ => 0)
    case atStart => exact ⟨rfl, rfl, 0, rfl⟩
    case round =>
      obtain ⟨rfl, rfl, m, rfl⟩ := hrel
      go_wp2
      go_ret2
      rw [E.out]
      exact ⟨rfl, by (repeat' (first | (with_reducible exact Below.refl _ _) | (with_reducible assumption) | (with_reducible refine Below.drew ?_) | (with_reducible refine belowDrewN ?_ _) | (with_reducible refine Below.alloc ?_ ?_ _) | (with_reducible refine Below.setCell ?_ ?_ _) | (with_reducible refine belowStep (by assumption) ?_ ?_) | (with_reducible exact Below.size (by assumption)) | go_size))⟩
  | true =>
    obtain ⟨N, rfl, h1, h2⟩ := numB_nat hn
    have E := Lib.hid (sgR_yes hn)
    have E2 : Hid (∀ w, Calls Try.prog 78 #[.int .i64 (N : Int)] w (RetLB (ints (asc N N)) true w)) := Lib.hid fun w => by have := divisorsOf_any (N : Int) w; rwa [dvO_yes hn] at this
    have hs := asc_small h2
    have HS := Lib.hid hs
    have hl := asc_len N N
    have ES := Lib.hid (asc_sum N)
    clear hs hn
    go_enter Try.func77, Try.ntmps77
    go_wp2_with fail
    refine (E2.out _).mono ?_; rintro e w2 ⟨v2, rfl, ho2, hb2⟩; obtain ⟨A2, c2, rfl, hr2⟩ := ho2.form
    have HR := Lib.hid hr2
    have hz2 := hb2.size
    clear hr2 ho2 E2
    have hle := ints_len (asc N N)
    generalize asc N N = ds at *
    go_wp2
    go_loopw [6, 16] (fun v3 v9 wr => ∃ k : Nat, k ≤ ds.length ∧ v9 = .int .i64 (k : Int) ∧ v3 = .int .i64 ((ds.take k).sum : Nat) ∧ ∃ m, wr = w2.drewN m) (fun _ v9 _ => ds.length - (intOf v9).toNat)
    case atStart => exact ⟨0, Nat.zero_le _, rfl, by simp, 0, rfl⟩
    case round =>
      obtain ⟨k, hk, rfl, rfl, m, rfl⟩ := hrel
      by_cases hlt : k < ds.length
      · obtain ⟨b, o, x, rfl, hbb, hx, hcell⟩ := (HR.out.drewN m).at_ (show k < (ints ds).length by omega)
        obtain ⟨d, rfl, hd⟩ := ints_at hx
        have hlt' : (k : Int) < (ds.length : Int) := by omega
        have hlt2 : (k : Int) < ((ints ds).length : Int) := by omega
        have E := Lib.hid (sum_take hd)
        have hd2 := HS.out d (List.mem_of_getElem? hd)
        have ht := sum_take_le HS.out k
        clear hx hd
        go_wp2
        go_roundw
        case rel => exact ⟨k + 1, by omega, by go_num, by rw [E.out]; go_num, m, rfl⟩
        case measure => simp [intOf]; omega
      · obtain rfl : k = ds.length := by omega
        have hlt2 : ¬ (ds.length : Int) < ((ints ds).length : Int) := by omega
        rw [List.take_length] at *
        go_wp2
        go_ret2
        rw [E.out, ES.out]
        exact ⟨rfl, by (repeat' (first | (with_reducible exact Below.refl _ _) | (with_reducible assumption) | (with_reducible refine Below.drew ?_) | (with_reducible refine belowDrewN ?_ _) | (with_reducible refine Below.alloc ?_ ?_ _) | (with_reducible refine Below.setCell ?_ ?_ _) | (with_reducible refine belowStep (by assumption) ?_ ?_) | (with_reducible exact Below.size (by assumption)) | go_size))⟩
end Go.Proofs.Ytbjblkfibinenad
