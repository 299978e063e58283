
/-
  The contract of the numbers whole / 2^i for all binary digits 1 of a number.
-/
import Derived.Test.YtocnjfbcblbjeabBinP
import Derived.Test.YtocnjfbcblbjeabApp
import Derived.Test.YtocnjfbcblbjeabLists
namespace Go.Proofs.Ytocnjfbcblbjeab
open Go.RowKit
theorem pow_le31 {k : Nat} (h : k ≤ 31) : (2 : Int) ^ k ≤ 2147483648 := by
  have h1 := Nat.pow_le_pow_right (n := 2) (by omega) h
  have e : (2 : Int) ^ k = ((2 ^ k : Nat) : Int) := by simp
  have e2 : (2 : Nat) ^ 31 = 2147483648 := rfl
  rw [e]
  omega
/-- the relation of the loop -/
def Hv (m0 e0 : Int) (k : Nat) (m e : Int) (xs : List Int) : Prop := 0 ≤ m ∧ m < 2 ^ k ∧ k ≤ 31 ∧ 0 ≤ e ∧ e ≤ 9223372036854775807 ∧ xs.length + k ≤ 31 ∧ hvL 31 m0 e0 = xs ++ hvL k m e
theorem Hv.more {m0 e0 m e : Int} {k : Nat} {xs : List Int} (h : Hv m0 e0 k m e xs) (hm : 0 < m) : ∃ j, k = j + 1 ∧ Hv m0 e0 j (m / 2) (e / 2) (if m % 2 = 1 then xs ++ [e] else xs) := by
  obtain ⟨h1, h2, h3, h4, h5, h6, h7⟩ := h
  cases k with
  | zero => simp at h2; omega
  | succ j =>
    have hp : (2 : Int) ^ (j + 1) = 2 ^ j * 2 := Int.pow_succ _ _
    refine ⟨j, rfl, by omega, by omega, by omega, by omega, by omega, ?_, ?_⟩
    · split <;> (try simp) <;> omega
    · by_cases ho : m % 2 = 1
      · rw [if_pos ho, h7, hvL_odd hm ho, List.append_assoc]; rfl
      · rw [if_neg ho, h7, hvL_even hm ho]
theorem Hv.last {m0 e0 m e : Int} {k : Nat} {xs : List Int} (h : Hv m0 e0 k m e xs) (hm : ¬ 0 < m) : hvL 31 m0 e0 = xs := by
  rw [h.2.2.2.2.2.2, hvL_end (by omega), List.append_nil]
set_option maxHeartbeats 2000000 in
theorem halvesAt_any (m0 e0 : Int) (w : World) (hm0 : 0 ≤ m0) (hm1 : m0 < 2147483648) (he0 : 0 ≤ e0) (he1 : e0 ≤ 9223372036854775807) : Calls Try.prog 126 #[.int .i64 m0, .int .i64 e0] w (RetL (hvL 31 m0 e0) w) := by
  go_enter Try.func126, Try.ntmps126
  go_wp2
  go_loopw [0, 1, 5] (fun v0 v1 v5 wr => ∃ (k : Nat) (m e : Int) (xs : List Int) (A : Option Addr) (c : Nat), v0 = .int .i64 m ∧ v1 = .int .i64 e ∧ v5 = .slice A xs.length c ∧ Hv m0 e0 k m e xs ∧ OwnI wr w.heap.size (.slice A xs.length c) xs ∧ Below w.heap.size w wr) (fun v0 _ _ _ => (intOf v0).toNat)
  case atStart => exact ⟨31, m0, e0, [], _, _, rfl, rfl, rfl, ⟨hm0, by rw [pow_31]; exact hm1, Nat.le_refl _, he0, he1, by simp, rfl⟩, OwnI.zero w w.heap.size (Nat.le_refl _), by (repeat' (first | (with_reducible exact Below.refl _ _) | (with_reducible assumption) | (with_reducible refine Below.drew ?_) | (with_reducible refine belowDrewN ?_ _) | (with_reducible refine Below.alloc ?_ ?_ _) | (with_reducible refine Below.setCell ?_ ?_ _) | (with_reducible refine belowStep (by assumption) ?_ ?_) | (with_reducible exact Below.size (by assumption)) | go_size))⟩
  case round =>
    obtain ⟨k, m, e, xs, A, c, rfl, rfl, rfl, hv, ho, hbr⟩ := hrel
    have hzr := hbr.size
    have Ho := Lib.hid ho
    have Hv' := Lib.hid hv
    have b1 := hv.1
    have b2 : m < 2147483648 := by
      have h2 := hv.2.1
      have h3 := pow_le31 hv.2.2.1
      omega
    have b3 := hv.2.2.2.1
    have b4 := hv.2.2.2.2.1
    have b5 : xs.length ≤ 31 := by have := hv.2.2.2.2.2.1; omega
    clear ho hv
    by_cases hm : 0 < m
    · obtain ⟨j, _, hn⟩ := Hv'.out.more hm
      by_cases ho : m % 2 = 1
      · rw [if_pos ho] at hn
        have Hn := Lib.hid hn
        have hod : (m % 2 == 1) = true := by simp [ho]
        clear hn
        go_wp2_with (at_builtin; refine wpList_app _ (o := ⟨some 17, _, _, _, _, _⟩) (ys := [e]) rfl _ _ rfl rfl (Ho.out.below (by (repeat' (first | (with_reducible exact Below.refl _ _) | (with_reducible assumption) | (with_reducible refine Below.drew ?_) | (with_reducible refine belowDrewN ?_ _) | (with_reducible refine Below.alloc ?_ ?_ _) | (with_reducible refine Below.setCell ?_ ?_ _) | (with_reducible refine belowStep (by assumption) ?_ ?_) | (with_reducible exact Below.size (by assumption)) | go_size)))) (1) (1) (by first | (simp; done) | (simp; omega)) rfl (Reads.one _ e) (by (try simp only [List.length_append, List.length_take, List.length_drop, List.length_nil, List.length_singleton, List.length_cons]); omega) (by first | exact Nat.le_refl _ | ((try simp only [World.size_alloc, World.size_setCell, World.size_drew, World.heap_drewN]); omega)) ?_; intro v3 w3 ho3 hb3 hg3 ht3; clear hg3 ht3; have hz3 := hb3.size; (try simp only [World.size_alloc, World.size_setCell, World.size_drew, World.heap_drewN] at hz3))
        obtain ⟨A3, c3, rfl, hr3⟩ := ho3.form
        go_roundw
        case rel => exact ⟨j, _, _, xs ++ [e], A3, c3, rfl, rfl, rfl, Hn.out, ho3, by (repeat' (first | (with_reducible exact Below.refl _ _) | (with_reducible assumption) | (with_reducible refine Below.drew ?_) | (with_reducible refine belowDrewN ?_ _) | (with_reducible refine Below.alloc ?_ ?_ _) | (with_reducible refine Below.setCell ?_ ?_ _) | (with_reducible refine belowStep (by assumption) ?_ ?_) | (with_reducible exact Below.size (by assumption)) | go_size))⟩
        case measure => simp [intOf]; omega
      · rw [if_neg ho] at hn
        have Hn := Lib.hid hn
        have hod : (m % 2 == 1) = false := by simp [ho]
        clear hn
        go_wp2
        go_roundw
        case rel => exact ⟨j, _, _, xs, A, c, rfl, rfl, rfl, Hn.out, Ho.out, by (repeat' (first | (with_reducible exact Below.refl _ _) | (with_reducible assumption) | (with_reducible refine Below.drew ?_) | (with_reducible refine belowDrewN ?_ _) | (with_reducible refine Below.alloc ?_ ?_ _) | (with_reducible refine Below.setCell ?_ ?_ _) | (with_reducible refine belowStep (by assumption) ?_ ?_) | (with_reducible exact Below.size (by assumption)) | go_size))⟩
        case measure => simp [intOf]; omega
    · have E := Lib.hid (Hv'.out.last hm)
      go_wp2
      go_ret
      rw [E.out]
      exact ⟨_, rfl, Ho.out, hbr⟩
end Go.Proofs.Ytocnjfbcblbjeab
