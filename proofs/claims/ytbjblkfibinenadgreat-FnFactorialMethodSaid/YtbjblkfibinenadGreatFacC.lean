
/-
  Contracts of factorials, and of the powers of 2 and the parts that the method by binary digits begins with.
-/
import Derived.Test.YtbjblkfibinenadGreatFacP
import Derived.Test.YtbjblkfibinenadGreatPro
namespace Go.Proofs.YtbjblkfibinenadGreat
open Go.RowKit
theorem fac_in {n : Nat} (h : n ≤ 12) : 1 ≤ fac n ∧ fac n ≤ 479001600 := ⟨fac_pos n, fac_le h⟩
set_option maxHeartbeats 1000000 in
theorem factorialOf_any (n : Nat) (w : World) (hn : n ≤ 12) : Calls Tryz.prog 44 #[.int .i64 (n : Int)] w (RetQ (.int .i64 (fac n)) w) := by
  go_enter Tryz.func44, Tryz.ntmps44
  go_wp2
  go_loopw [3, 4] (fun v3 v4 wr => ∃ i : Nat, v4 = .int .i64 ((i : Int) + 2) ∧ ((i + 1 ≤ n ∨ i = 0) ∧ v3 = .int .i64 (fac (i + 1))) ∧ ∃ m, wr = w.drewN m) (fun _ v4 _ => n + 2 - (intOf v4).toNat)
  case atStart => exact ⟨0, rfl, ⟨.inr rfl, rfl⟩, 0, rfl⟩
  case round =>
    obtain ⟨i, rfl, hc, m, rfl⟩ := hrel
    obtain ⟨hi, rfl⟩ := hc
    have hle := fac_in (n := i + 1) (by omega)
    by_cases hlt : i + 2 ≤ n
    · have hlt' : (i : Int) + 2 ≤ (n : Int) := by omega
      have hs : fac (i + 1) * ((i : Int) + 2) = fac (i + 1 + 1) := by
        show _ = fac (i + 1) * ((i + 1 + 1 : Nat) : Int)
        congr 1
      have hle2 := fac_in (n := i + 1 + 1) (by omega)
      rw [← hs] at hle2
      have Hs := Lib.hid hs
      clear hs
      go_wp2
      go_roundw
      case rel => exact ⟨i + 1, by go_num, ⟨.inl (by omega), by rw [Hs.out]⟩, m, rfl⟩
      case measure => simp [intOf]; omega
    · have hlt' : ¬ (i : Int) + 2 ≤ (n : Int) := by omega
      have E : Hid (fac n = fac (i + 1)) := Lib.hid (by
        rcases hi with h1 | h1
        · rw [show n = i + 1 from by omega]
        · subst h1
          match n, hlt with
          | 0, _ => rfl
          | 1, _ => rfl
          | k + 2, h => omega)
      go_wp2
      go_ret
      exact ⟨ret_int E.out.symm, m, rfl⟩
set_option maxHeartbeats 1000000 in
theorem meFactorial_any (n : Nat) (w : World) (hn : n ≤ 12) : Calls Tryz.prog 47 #[.int .i64 (n : Int)] w (RetQ (.int .i64 (fac n)) w) := by
  go_enter Tryz.func47, Tryz.ntmps47
  go_wp2
  go_loopw [3, 4] (fun v3 v4 wr => ∃ i : Nat, v4 = .int .i64 ((i : Int) + 2) ∧ ((i + 1 ≤ n ∨ i = 0) ∧ v3 = .int .i64 (fac (i + 1))) ∧ ∃ m, wr = w.drewN m) (fun _ v4 _ => n + 2 - (intOf v4).toNat)
  case atStart => exact ⟨0, rfl, ⟨.inr rfl, rfl⟩, 0, rfl⟩
  case round =>
    obtain ⟨i, rfl, hc, m, rfl⟩ := hrel
    obtain ⟨hi, rfl⟩ := hc
    have hle := fac_in (n := i + 1) (by omega)
    by_cases hlt : i + 2 ≤ n
    · have hlt' : (i : Int) + 2 ≤ (n : Int) := by omega
      have hs : fac (i + 1) * ((i : Int) + 2) = fac (i + 1 + 1) := by
        show _ = fac (i + 1) * ((i + 1 + 1 : Nat) : Int)
        congr 1
      have hle2 := fac_in (n := i + 1 + 1) (by omega)
      rw [← hs] at hle2
      have Hs := Lib.hid hs
      clear hs
      go_wp2
      go_roundw
      case rel => exact ⟨i + 1, by go_num, ⟨.inl (by omega), by rw [Hs.out]⟩, m, rfl⟩
      case measure => simp [intOf]; omega
    · have hlt' : ¬ (i : Int) + 2 ≤ (n : Int) := by omega
      have E : Hid (fac n = fac (i + 1)) := Lib.hid (by
        rcases hi with h1 | h1
        · rw [show n = i + 1 from by omega]
        · subst h1
          match n, hlt with
          | 0, _ => rfl
          | 1, _ => rfl
          | k + 2, h => omega)
      go_wp2
      go_ret
      exact ⟨ret_int E.out.symm, m, rfl⟩
theorem lfR_yes {d : Int} (h : 1 ≤ d) : lfR d = leastF d ∧ lfB d = decide (leastF d ≠ 0) := by
  have hb : lfB d = decide (leastF d ≠ 0) := by rw [lfB, decide_eq_true h, Bool.true_and]
  refine ⟨?_, hb⟩
  rw [lfR, hb]
  by_cases h0 : leastF d = 0
  · rw [h0]; rfl
  · rw [if_pos (by simp [h0])]
set_option maxHeartbeats 2000000 in
theorem leastFactorial_any (d : Int) (w : World) (rd : -9223372036854775808 ≤ d ∧ d ≤ 9223372036854775807) : Calls Tryz.prog 24 #[.int .i64 d] w (RetQ (.tuple #[.int .i64 (lfR d), .bool (lfB d)]) w) := by
  by_cases hd : 1 ≤ d
  · obtain ⟨e1, e2⟩ := lfR_yes hd
    have E1 := Lib.hid e1
    have E2 := Lib.hid e2
    clear e1 e2
    go_enter Tryz.func24, Tryz.ntmps24
    go_wp2
    go_loopw [4] (fun v4 wr => ∃ n k : Nat, n + k = 13 ∧ 1 ≤ n ∧ v4 = .int .i64 (n : Int) ∧ leastF d = lfG d k n ∧ ∃ m, wr = w.drewN m) (fun v4 _ => 13 - (intOf v4).toNat)
    case atStart => exact ⟨1, 12, rfl, by omega, rfl, rfl, 0, rfl⟩
    case round =>
      obtain ⟨n, k, hk, hn1, rfl, hl, m, rfl⟩ := hrel
      have Hl := Lib.hid hl
      clear hl
      by_cases hlt : n ≤ 12
      · obtain ⟨k, rfl⟩ : ∃ j, k = j + 1 := ⟨k - 1, by omega⟩
        obtain ⟨f1, f2⟩ := fac_in hlt
        have hne : d ≠ 0 := by omega
        have HF := Lib.hid fun (w : World) => factorialOf_any n w hlt
        by_cases hm : fac n % d = 0
        · have E : Hid (leastF d = n) := Lib.hid (by rw [Hl.out, lfG_yes hm])
          have hmt : (fac n).tmod d = 0 := by rw [Int.tmod_eq_emod_of_nonneg (by omega)]; exact hm
          have hb1 : (fac n % d == 0) = true := by simp [hm]
          have hb2 : ((fac n).tmod d == 0) = true := by simp [hmt]
          go_wp2_with fail
          refine (HF.out _).mono ?_; rintro e w1 ⟨rfl, k1, rfl⟩
          go_wp2
          go_ret2
          exact ⟨ret_ib (by rw [E1.out, E.out]) (by rw [E2.out, E.out]; simp; omega), _, rfl⟩
        · have Hl2 : Hid (leastF d = lfG d k (n + 1)) := Lib.hid (by rw [Hl.out, lfG_no hm])
          have hmt : (fac n).tmod d ≠ 0 := by rw [Int.tmod_eq_emod_of_nonneg (by omega)]; exact hm
          have hb1 : (fac n % d == 0) = false := by simp [hm]
          have hb2 : ((fac n).tmod d == 0) = false := by simp [hmt]
          go_wp2_with fail
          refine (HF.out _).mono ?_; rintro e w1 ⟨rfl, k1, rfl⟩
          go_wp2
          go_roundw
          case rel => exact ⟨n + 1, k, by omega, by omega, by go_num, Hl2.out, _, rfl⟩
          case measure => simp [intOf]; omega
      · obtain rfl : n = 13 := by omega
        obtain rfl : k = 0 := by omega
        have E : Hid (leastF d = 0) := Lib.hid Hl.out
        go_wp2
        go_ret2
        exact ⟨ret_ib (by rw [E1.out, E.out]) (by rw [E2.out, E.out]; rfl), _, rfl⟩
  · have hb : lfB d = false := by rw [lfB, decide_eq_false hd]; rfl
    have E : Hid (lfR d = 0 ∧ lfB d = false) := Lib.hid ⟨by rw [lfR, hb]; rfl, hb⟩
    clear hb
    go_enter Tryz.func24, Tryz.ntmps24
    go_wp2
    go_ret2
    exact ⟨ret_ib E.out.1.symm E.out.2.symm, 0, rfl⟩
set_option maxHeartbeats 2000000 in
theorem meLeast_any (d : Int) (w : World) (hd : 1 ≤ d) : Calls Tryz.prog 45 #[.int .i64 d] w (RetQ (.int .i64 (leastF d)) w) := by
  go_enter Tryz.func45, Tryz.ntmps45
  go_wp2
  go_loopw [3] (fun v4 wr => ∃ n k : Nat, n + k = 13 ∧ 1 ≤ n ∧ v4 = .int .i64 (n : Int) ∧ leastF d = lfG d k n ∧ ∃ m, wr = w.drewN m) (fun v4 _ => 13 - (intOf v4).toNat)
  case atStart => exact ⟨1, 12, rfl, by omega, rfl, rfl, 0, rfl⟩
  case round =>
    obtain ⟨n, k, hk, hn1, rfl, hl, m, rfl⟩ := hrel
    have Hl := Lib.hid hl
    clear hl
    by_cases hlt : n ≤ 12
    · obtain ⟨k, rfl⟩ : ∃ j, k = j + 1 := ⟨k - 1, by omega⟩
      obtain ⟨f1, f2⟩ := fac_in hlt
      have hne : d ≠ 0 := by omega
      have HF := Lib.hid fun (w : World) => meFactorial_any n w hlt
      by_cases hm : fac n % d = 0
      · have E : Hid (leastF d = n) := Lib.hid (by rw [Hl.out, lfG_yes hm])
        have hmt : (fac n).tmod d = 0 := by rw [Int.tmod_eq_emod_of_nonneg (by omega)]; exact hm
        have hb1 : (fac n % d == 0) = true := by simp [hm]
        have hb2 : ((fac n).tmod d == 0) = true := by simp [hmt]
        go_wp2_with fail
        refine (HF.out _).mono ?_; rintro e w1 ⟨rfl, k1, rfl⟩
        go_wp2
        go_ret
        exact ⟨ret_int (by rw [E.out]), _, rfl⟩
      · have Hl2 : Hid (leastF d = lfG d k (n + 1)) := Lib.hid (by rw [Hl.out, lfG_no hm])
        have hmt : (fac n).tmod d ≠ 0 := by rw [Int.tmod_eq_emod_of_nonneg (by omega)]; exact hm
        have hb1 : (fac n % d == 0) = false := by simp [hm]
        have hb2 : ((fac n).tmod d == 0) = false := by simp [hmt]
        go_wp2_with fail
        refine (HF.out _).mono ?_; rintro e w1 ⟨rfl, k1, rfl⟩
        go_wp2
        go_roundw
        case rel => exact ⟨n + 1, k, by omega, by omega, by go_num, Hl2.out, _, rfl⟩
        case measure => simp [intOf]; omega
    · obtain rfl : n = 13 := by omega
      obtain rfl : k = 0 := by omega
      have E : Hid (leastF d = 0) := Lib.hid Hl.out
      go_wp2
      go_ret
      exact ⟨ret_int (by rw [E.out]), _, rfl⟩
end Go.Proofs.YtbjblkfibinenadGreat
