
/-
  Contracts of IsPractical in the model, and of UnreachedOf.
-/
import Derived.Test.YtiapljimgnhgoacRchC
import Derived.Test.YtiapljimgnhgoacNxC
namespace Go.Proofs.Ytiapljimgnhgoac
open Go.RowKit
theorem asc_rev (N : Nat) : (asc N N).reverse = dsc N N := by unfold asc; exact List.reverse_reverse _
def unO (n : Int) : Option Nat := (brO n).map (fun x => sig x.2 + 1)
def unV (o : Option Nat) : Value := .tuple #[.int .i64 ((o.getD 0 : Nat) : Int), .bool o.isSome]
set_option maxRecDepth 100000 in
set_option maxHeartbeats 4000000 in
theorem prUnreached_any (N : Nat) (w : World) (h1 : 1 ≤ N) (h2 : N ≤ 2000) : Calls Try.prog 45 #[.int .i64 (N : Int)] w (Ret (.int .i64 (unI N)) w) := by
  have hR : ∀ (w : World) (A : Option Addr) (c : Nat), Reads w A (ints (asc N N)) → Calls Try.prog 73 #[.slice A (ints (asc N N)).length c] w (fun e w' => ∃ A' c', e = .returned (.slice A' (rl (dsc N N)).length c') ∧ ReadsT w' A' (rl (dsc N N)) ∧ Below w.heap.size w w') := fun w A c h => by
    have := prReached_any (asc N N) w A c h (asc_small h2) (by have := asc_len N N; omega)
    rwa [asc_rev, ← ints_len] at this
  have HR := Lib.hid hR
  have hs := sig_small h2
  have hlen : (rl (dsc N N)).length = sig N + 1 := rl_len _
  have l1 : (rl (dsc N N)).length ≤ sig N + 1 := by omega
  have l2 : sig N + 1 ≤ (rl (dsc N N)).length := by omega
  have HAT : Hid (∀ s, s ≤ sig N → (rl (dsc N N))[s]? = some (decide (0 < ways (dsc N N) s))) := Lib.hid fun s h => rl_at _ h
  clear hR hlen
  obtain ⟨bs, hbs⟩ : ∃ bs, bs = rl (dsc N N) := ⟨_, rfl⟩
  rw [← hbs] at HR l1 l2 HAT
  clear hbs
  go_enter Try.func45, Try.ntmps45
  go_wp2_with fail
  refine (prDivisors_any N _ h2).mono ?_; rintro e w2 ⟨v2, rfl, ho2, hb2⟩; obtain ⟨A2, c2, rfl, hr2⟩ := ho2.form
  have hz2 := hb2.size
  go_wp2_with fail
  refine (HR.out _ _ _ hr2).mono ?_; rintro e w3 ⟨A3, c3, rfl, hr3, hb3⟩
  have hz3 := hb3.size
  have H3 := Lib.hid hr3
  clear hr3 hr2 ho2
  go_wp2
  go_loopw [9] (fun v9 wr => ∃ k : Nat, k ≤ sig N + 1 ∧ v9 = .int .i64 (k : Int) ∧ (∀ t, t < k → 0 < ways (dsc N N) t) ∧ ∃ m, wr = w3.drewN m) (fun v9 _ => sig N + 1 - (intOf v9).toNat)
  case atStart => exact ⟨0, Nat.zero_le _, rfl, fun t ht => absurd ht (Nat.not_lt_zero t), 0, rfl⟩
  case round =>
    obtain ⟨k, hk, rfl, hall, m, rfl⟩ := hrel
    have HA := Lib.hid hall
    clear hall
    by_cases hlt : k < sig N + 1
    · obtain ⟨b, o, x, rfl, hbb, hx, hcell⟩ := (H3.out.drewN m).at_ (show k < bs.length by omega)
      rw [HAT.out k (by omega)] at hx
      injection hx with hx
      subst hx
      have hki : (k : Int) < (bs.length : Int) := by omega
      by_cases hw : 0 < ways (dsc N N) k
      · rw [decide_eq_true hw] at hcell
        have HA2 : Hid (∀ t, t < k + 1 → 0 < ways (dsc N N) t) := Lib.hid fun t ht => by
          rcases Nat.lt_or_ge t k with h | h
          · exact HA.out t h
          · rw [show t = k from by omega]; exact hw
        clear hw
        go_wp2
        go_roundw
        case rel => exact ⟨k + 1, by omega, by go_num, HA2.out, m, rfl⟩
        case measure => simp [intOf]; omega
      · rw [decide_eq_false hw] at hcell
        have E := Lib.hid (unI_is h1 h2 (show k ≤ sig N by omega) (by omega) HA.out)
        clear hw
        go_wp2
        go_ret
        rw [E.out]
        exact ⟨rfl, by (repeat' (first | (with_reducible exact Below.refl _ _) | (with_reducible assumption) | (with_reducible refine Below.drew ?_) | (with_reducible refine belowDrewN ?_ _) | (with_reducible refine Below.alloc ?_ ?_ _) | (with_reducible refine Below.setCell ?_ ?_ _) | (with_reducible refine belowStep (by assumption) ?_ ?_) | (with_reducible exact Below.size (by assumption)) | go_size))⟩
    · have E := Lib.hid (unI_none h1 h2 (fun t ht => HA.out t (by omega)))
      have hki : ¬ (k : Int) < (bs.length : Int) := by omega
      go_wp2
      go_ret
      rw [E.out]
      exact ⟨rfl, by (repeat' (first | (with_reducible exact Below.refl _ _) | (with_reducible assumption) | (with_reducible refine Below.drew ?_) | (with_reducible refine belowDrewN ?_ _) | (with_reducible refine Below.alloc ?_ ?_ _) | (with_reducible refine Below.setCell ?_ ?_ _) | (with_reducible refine belowStep (by assumption) ?_ ?_) | (with_reducible exact Below.size (by assumption)) | go_size))⟩
theorem unO_no {n : Int} (h : brO n = none) : unO n = none := by unfold unO; rw [h]; rfl
theorem unO_yes {n : Int} {q k : Nat} (h : brO n = some (q, k)) : unO n = some (sig k + 1) := by unfold unO; rw [h]; rfl
end Go.Proofs.Ytiapljimgnhgoac
