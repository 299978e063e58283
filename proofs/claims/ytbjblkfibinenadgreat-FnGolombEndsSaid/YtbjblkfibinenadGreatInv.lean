
/-
  Contracts of the inverse, in the program and in the model.
-/
import Derived.Test.YtbjblkfibinenadGreatInvP
import Derived.Test.YtbjblkfibinenadGreatGcd
import Derived.Test.YtbjblkfibinenadGreatFrac
import Derived.Test.YtbjblkfibinenadGreatSteps
namespace Go.Proofs.YtbjblkfibinenadGreat
open Go.RowKit
set_option maxHeartbeats 2000000 in
theorem inverse_any (p q : Int) (w : World) (rp : -9223372036854775808 ≤ p ∧ p ≤ 9223372036854775807) (rq : -9223372036854775808 ≤ q ∧ q ≤ 9223372036854775807) : Calls Tryz.prog 42 #[.int .i64 p, .int .i64 q] w (RetQ (.tuple #[.int .i64 (invR p q), .bool (invB p q)]) w) := by
  by_cases h : 1 ≤ p ∧ p ≤ 1000000000 ∧ 2 ≤ q ∧ q ≤ 1000000000
  · obtain ⟨p1, p2, q1, q2⟩ := h
    go_enter Tryz.func42, Tryz.ntmps42
    go_wp2
    go_loopw [6, 7, 8, 9] (fun v1 v2 v3 v4 wr => ∃ m l x y : Int, v1 = .int .i64 m ∧ v2 = .int .i64 l ∧ v3 = .int .i64 x ∧ v4 = .int .i64 y ∧ Euc p q m l x y ∧ ∃ n, wr = w.drewN n) (fun _ v2 _ _ _ => (intOf v2).toNat)
    case atStart => exact ⟨q, p, 0, 1, rfl, rfl, rfl, rfl, Euc.start p1 p2 q1 q2, 0, rfl⟩
    case round =>
      obtain ⟨m, l, x, y, rfl, rfl, rfl, rfl, he, k, rfl⟩ := hrel
      have He := Lib.hid he
      have m1 := he.m1
      have m2 := he.m2
      have l0 := he.l0
      have l2 := he.l2
      clear he
      by_cases hl : 0 < l
      · obtain ⟨k0, k1, k2, k3, k4, k5, k6, k7, k8, k9, k10, k11⟩ := He.out.sizes q2 (by omega)
        have Hs := Lib.hid (He.out.step (by omega))
        have hlt : m - m / l * l < l := by
          have := Int.mul_ediv_add_emod m l
          have h2 : m / l * l = l * (m / l) := Int.mul_comm _ _
          have := Int.emod_lt_of_pos m (by omega : 0 < l)
          omega
        have hne : l ≠ 0 := by omega
        go_wp2
        all_goals (try go_region)
        all_goals (try go_wp2)
        all_goals (try go_region)
        all_goals (try go_wp2)
        all_goals (try go_region)
        all_goals (try go_wp2)
        all_goals
          go_roundw
          case rel => exact ⟨_, _, _, _, rfl, rfl, rfl, rfl, Hs.out, _, rfl⟩
          case measure => simp [intOf]; omega
      · obtain rfl : l = 0 := by omega
        have hm := He.out.last
        by_cases h1 : m = 1
        · subst h1
          have hi := He.out.inv q1
          have hb : invB p q = true := (invB_iff p q).2 ⟨p1, p2, q1, q2, hm.symm⟩
          have E : Hid (invR p q = x % q ∧ invB p q = true) := Lib.hid ⟨by rw [invR, if_pos hb, invI_eq hi], hb⟩
          have t1 : -q < x.tmod q := Int.lt_tmod_of_pos x (by omega)
          have t2 : x.tmod q < q := Int.tmod_lt_of_pos x (by omega)
          have hne : q ≠ 0 := by omega
          clear hi hb hm
          go_wp2
          all_goals (try go_region)
          all_goals (try go_wp2)
          all_goals go_ret2
          all_goals exact ⟨ret_ib (by rw [E.out.1]; first | exact wrap_mod2 (by omega) | exact wrap_mod (by omega)) E.out.2.symm, _, rfl⟩
        · have hb : invB p q = false := invB_not (fun h => h1 (by rw [hm]; exact h.2.2.2.2))
          have E : Hid (invR p q = 0 ∧ invB p q = false) := Lib.hid ⟨by rw [invR, hb]; rfl, hb⟩
          have h1' : (m != 1) = true := by simp [h1]
          clear hb
          go_wp2
          go_ret2
          exact ⟨ret_ib E.out.1.symm E.out.2.symm, _, rfl⟩
  · have hb : invB p q = false := invB_not (fun hh => h ⟨hh.1, hh.2.1, hh.2.2.1, hh.2.2.2.1⟩)
    have E : Hid (invR p q = 0 ∧ invB p q = false) := Lib.hid ⟨by rw [invR, hb]; rfl, hb⟩
    clear hb
    by_cases h1 : p < 1
    · go_enter Tryz.func42, Tryz.ntmps42
      go_wp2
      go_ret2
      exact ⟨ret_ib E.out.1.symm E.out.2.symm, 0, rfl⟩
    · by_cases h2 : 1000000000 < p
      · go_enter Tryz.func42, Tryz.ntmps42
        go_wp2
        go_ret2
        exact ⟨ret_ib E.out.1.symm E.out.2.symm, 0, rfl⟩
      · by_cases h3 : q < 2
        · go_enter Tryz.func42, Tryz.ntmps42
          go_wp2
          go_ret2
          exact ⟨ret_ib E.out.1.symm E.out.2.symm, 0, rfl⟩
        · have h4 : 1000000000 < q := by omega
          go_enter Tryz.func42, Tryz.ntmps42
          go_wp2
          go_ret2
          exact ⟨ret_ib E.out.1.symm E.out.2.symm, 0, rfl⟩
set_option maxRecDepth 100000 in
set_option maxHeartbeats 2000000 in
theorem meInverse_any (p q : Int) (w : World) (h : 1 ≤ p ∧ p ≤ 1000000000 ∧ 2 ≤ q ∧ q ≤ 1000000000) (hg : gcdI p q = 1) : Calls Tryz.prog 73 #[.int .i64 p, .int .i64 q] w (RetQ (.int .i64 (invI p q)) w) := by
  obtain ⟨p1, p2, q1, q2⟩ := h
  have hr0 := Int.emod_nonneg p (by omega : q ≠ 0)
  have hr1 := Int.emod_lt_of_pos p (by omega : 0 < q)
  have hr : 1 ≤ p % q := by
    rcases Int.lt_or_le 0 (p % q) with h0 | h0
    · omega
    · have e : p % q = 0 := by omega
      have := gcdI_step p q (by omega) (by omega)
      rw [e, gcdI_zero q (by omega), hg] at this
      omega
  have hne0 : q ≠ 0 := by omega
  go_enter Tryz.func73, Tryz.ntmps73
  go_wp2
  all_goals (try go_region)
  all_goals (try go_wp2)
  go_loopw [5, 6, 7, 8] (fun v1 v2 v3 v4 wr => ∃ m l x y : Int, v1 = .int .i64 m ∧ v2 = .int .i64 l ∧ v3 = .int .i64 x ∧ v4 = .int .i64 y ∧ Euc p q m l x y ∧ ∃ n, wr = w.drewN n) (fun _ v2 _ _ _ => (intOf v2).toNat)
  case atStart => exact ⟨p % q, q, 1, 0, rfl, rfl, rfl, rfl, Euc.startR p1 p2 q1 q2 hr, 0, rfl⟩
  case round =>
    obtain ⟨m, l, x, y, rfl, rfl, rfl, rfl, he, k, rfl⟩ := hrel
    have He := Lib.hid he
    clear hr hr0 hr1
    have m1 := he.m1
    have m2 := he.m2
    have l0 := he.l0
    have l2 := he.l2
    clear he
    by_cases hl : 0 < l
    · obtain ⟨k0, k1, k2, k3, k4, k5, k6, k7, k8, k9, k10, k11⟩ := He.out.sizes q2 (by omega)
      have Hs := Lib.hid (He.out.step (by omega))
      have hlt : m - m / l * l < l := by
        have := Int.mul_ediv_add_emod m l
        have h2 : m / l * l = l * (m / l) := Int.mul_comm _ _
        have := Int.emod_lt_of_pos m (by omega : 0 < l)
        omega
      have hne : l ≠ 0 := by omega
      go_wp2
      all_goals (try go_region)
      all_goals (try go_wp2)
      all_goals (try go_region)
      all_goals (try go_wp2)
      all_goals (try go_region)
      all_goals (try go_wp2)
      all_goals
        go_roundw
        case rel => exact ⟨_, _, _, _, rfl, rfl, rfl, rfl, Hs.out, _, rfl⟩
        case measure => simp [intOf]; omega
    · obtain rfl : l = 0 := by omega
      have hm := He.out.last
      obtain rfl : m = 1 := by omega
      clear hm
      have hi := He.out.inv q1
      have E : Hid (invI p q = x % q) := Lib.hid (invI_eq hi)
      have t1 : -q < x.tmod q := Int.lt_tmod_of_pos x (by omega)
      have t2 : x.tmod q < q := Int.tmod_lt_of_pos x (by omega)
      clear hi
      go_wp2
      all_goals (try go_region)
      all_goals (try go_wp2)
      all_goals go_ret
      all_goals exact ⟨ret_int (by rw [E.out]; first | exact wrap_mod2 (by omega) | exact wrap_mod (by omega)), _, rfl⟩
end Go.Proofs.YtbjblkfibinenadGreat
