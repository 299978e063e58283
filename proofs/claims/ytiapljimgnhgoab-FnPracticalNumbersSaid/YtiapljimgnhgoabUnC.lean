
/-
  Contracts of IsPractical in the model, and of UnreachedOf.
-/
import Derived.Test.YtiapljimgnhgoabRchC
import Derived.Test.YtiapljimgnhgoabNxC
namespace Go.Proofs.Ytiapljimgnhgoab
open Go.RowKit
theorem asc_rev (N : Nat) : (asc N N).reverse = dsc N N := by unfold asc; exact List.reverse_reverse _
def unO (n : Int) : Option Nat := (brO n).map (fun x => sig x.2 + 1)
def unV (o : Option Nat) : Value := .tuple #[.int .i64 ((o.getD 0 : Nat) : Int), .bool o.isSome]
set_option maxRecDepth 100000 in
set_option maxHeartbeats 4000000 in
theorem prUnreached_any (N : Nat) (w : World) (h1 : 1 ≤ N) (h2 : N ≤ 2000) : Calls Try.prog 39 #[.int .i64 (N : Int)] w (Ret (.int .i64 (unI N)) w) := by
  have hR : ∀ (w : World) (A : Option Addr) (c : Nat), Reads w A (ints (asc N N)) → Calls Try.prog 59 #[.slice A (ints (asc N N)).length c] w (fun e w' => ∃ A' c', e = .returned (.slice A' (rl (dsc N N)).length c') ∧ ReadsT w' A' (rl (dsc N N)) ∧ Below w.heap.size w w') := fun w A c h => by
    have := prReached_any (asc N N) w A c h (asc_small h2) (by have := asc_len N N; omega)
    rwa [asc_rev, ← ints_len] at this
  have HR := Lib.hid hR
  have hs := sig_small h2
  have hlen : (rl (dsc N N)).length = sig N + 1 := rl_len _
  have l1 : (rl (dsc N N)).length ≤ sig N + 1 := by omega
  have l2 : sig N + 1 ≤ (rl (dsc N N)).length := by omega
  have HAT : Hid (∀ s, s ≤ sig N → (rl (dsc N N))[s]? = some (decide (0 < ways (dsc N N) s))) := Lib.hid fun s h => rl_at _ h
  clear hR hlen
  obtain ⟨bs, hbs⟩ : ∃ bs, bs = rl (dsc N N) := ⟨_, rfl⟩
  rw [← hbs] at HR l1 l2 HAT
  clear hbs
  go_enter Try.func39, Try.ntmps39
  go_wp2_with fail
  refine (prDivisors_any N _ h2).mono ?_; rintro e w2 ⟨v2, rfl, ho2, hb2⟩; obtain ⟨A2, c2, rfl, hr2⟩ := ho2.form
  have hz2 := hb2.size
  go_wp2_with fail
  refine (HR.out _ _ _ hr2).mono ?_; rintro e w3 ⟨A3, c3, rfl, hr3, hb3⟩
  have hz3 := hb3.size
  have H3 := Lib.hid hr3
  clear hr3 hr2 ho2
  go_wp2
  go_loopw [9] (fun v9 wr => ∃ k : Nat, k ≤ sig N + 1 ∧ v9 = .int .i64 (k : Int) ∧ (∀ t, t < k → 0 < ways (dsc N N) t) ∧ ∃ m, wr = w3.drewN m) (fun v9 _ => sig N + 1 - (intOf v9).toNat)
  case atStart => exact ⟨0, Nat.zero_le _, rfl, fun t ht => absurd ht (Nat.not_lt_zero t), 0, rfl⟩
  case round =>
    obtain ⟨k, hk, rfl, hall, m, rfl⟩ := hrel
    have HA := Lib.hid hall
    clear hall
    by_cases hlt : k < sig N + 1
    · obtain ⟨b, o, x, rfl, hbb, hx, hcell⟩ := (H3.out.drewN m).at_ (show k < bs.length by omega)
      rw [HAT.out k (by omega)] at hx
      injection hx with hx
      subst hx
      have hki : (k : Int) < (bs.length : Int) := by omega
      by_cases hw : 0 < ways (dsc N N) k
      · rw [decide_eq_true hw] at hcell
        have HA2 : Hid (∀ t, t < k + 1 → 0 < ways (dsc N N) t) := Lib.hid fun t ht => by
          rcases Nat.lt_or_ge t k with h | h
          · exact HA.out t h
          · rw [show t = k from by omega]; exact hw
        clear hw
        go_wp2
        go_roundw
        case rel => exact ⟨k + 1, by omega, by go_num, HA2.out, m, rfl⟩
        case measure => simp [intOf]; omega
      · rw [decide_eq_false hw] at hcell
        have E := Lib.hid (unI_is h1 h2 (show k ≤ sig N by omega) (by omega) HA.out)
        clear hw
        go_wp2
        go_ret
        rw [E.out]
        exact ⟨rfl, by (repeat' (first | (with_reducible exact Below.refl _ _) | (with_reducible assumption) | (with_reducible refine Below.drew ?_) | (with_reducible refine belowDrewN ?_ _) | (with_reducible refine Below.alloc ?_ ?_ _) | (with_reducible refine Below.setCell ?_ ?_ _) | (with_reducible refine belowStep (by assumption) ?_ ?_) | (with_reducible exact Below.size (by assumption)) | go_size))⟩
    · have E := Lib.hid (unI_none h1 h2 (fun t ht => HA.out t (by omega)))
      have hki : ¬ (k : Int) < (bs.length : Int) := by omega
      go_wp2
      go_ret
      rw [E.out]
      exact ⟨rfl, by (repeat' (first | (with_reducible exact Below.refl _ _) | (with_reducible assumption) | (with_reducible refine Below.drew ?_) | (with_reducible refine belowDrewN ?_ _) | (with_reducible refine Below.alloc ?_ ?_ _) | (with_reducible refine Below.setCell ?_ ?_ _) | (with_reducible refine belowStep (by assumption) ?_ ?_) | (with_reducible exact Below.size (by assumption)) | go_size))⟩
theorem prPractical_any (N : Nat) (w : World) (h1 : 1 ≤ N) (h2 : N ≤ 2000) : Calls Try.prog 37 #[.int .i64 (N : Int)] w (Ret (.bool (brkO N).isNone) w) := by
  have HU := Lib.hid fun (w : World) => prUnreached_any N w h1 h2
  have E := Lib.hid (unI_neg N)
  have hs := unI_small h1 h2
  have hs2 := sig_small h2
  obtain ⟨s1, s3⟩ := hs
  generalize unI N = u at *
  go_enter Try.func37, Try.ntmps37
  go_wp2_with fail
  refine (HU.out _).mono ?_; rintro e w1 ⟨rfl, hb1⟩; have hz1 := hb1.size; (try simp only [World.size_alloc, World.size_setCell, World.size_drew, World.heap_drewN] at hz1)
  go_wp2
  go_ret
  rw [← E.out]
  exact ⟨rfl, by (repeat' (first | (with_reducible exact Below.refl _ _) | (with_reducible assumption) | (with_reducible refine Below.drew ?_) | (with_reducible refine belowDrewN ?_ _) | (with_reducible refine Below.alloc ?_ ?_ _) | (with_reducible refine Below.setCell ?_ ?_ _) | (with_reducible refine belowStep (by assumption) ?_ ?_) | (with_reducible exact Below.size (by assumption)) | go_size))⟩
theorem spec_isPractical_any (n : Int) (w : World) : Calls Try.prog 11 #[.int .i64 n] w (Ret (.tuple #[.bool (prcB n), .bool (numB n)]) w) := by
  cases hn : numB n with
  | false =>
    have E := Lib.hid (prcB_no hn)
    have HN : Hid (∀ w, Calls Try.prog 36 #[.int .i64 n] w (RetQ (.bool false) w)) := Lib.hid fun w => by have := prNumber_any n w; rwa [hn] at this
    clear hn
    go_enter Try.func11, Try.ntmps11
    go_wp2_with fail
    refine (HN.out _).mono ?_; rintro e w1 ⟨rfl, k1, rfl⟩
    go_wp2
    go_ret2
    rw [E.out]
    exact ⟨rfl, by (repeat' (first | (with_reducible exact Below.refl _ _) | (with_reducible assumption) | (with_reducible refine Below.drew ?_) | (with_reducible refine belowDrewN ?_ _) | (with_reducible refine Below.alloc ?_ ?_ _) | (with_reducible refine Below.setCell ?_ ?_ _) | (with_reducible refine belowStep (by assumption) ?_ ?_) | (with_reducible exact Below.size (by assumption)) | go_size))⟩
  | true =>
    obtain ⟨N, rfl, h1, h2⟩ := numB_nat hn
    have HN : Hid (∀ w, Calls Try.prog 36 #[.int .i64 (N : Int)] w (RetQ (.bool true) w)) := Lib.hid fun w => by have := prNumber_any (N : Int) w; rwa [hn] at this
    have E := Lib.hid (prcB_yes h1 h2)
    clear hn
    go_enter Try.func11, Try.ntmps11
    go_wp2_with fail
    refine (HN.out _).mono ?_; rintro e w1 ⟨rfl, k1, rfl⟩
    go_wp2_with fail
    refine (prPractical_any N _ h1 h2).mono ?_; rintro e w2 ⟨rfl, hb2⟩; have hz2 := hb2.size; (try simp only [World.size_alloc, World.size_setCell, World.size_drew, World.heap_drewN] at hz2)
    go_wp2
    go_ret2
    rw [E.out]
    exact ⟨rfl, by (repeat' (first | (with_reducible exact Below.refl _ _) | (with_reducible assumption) | (with_reducible refine Below.drew ?_) | (with_reducible refine belowDrewN ?_ _) | (with_reducible refine Below.alloc ?_ ?_ _) | (with_reducible refine Below.setCell ?_ ?_ _) | (with_reducible refine belowStep (by assumption) ?_ ?_) | (with_reducible exact Below.size (by assumption)) | go_size))⟩
theorem unO_no {n : Int} (h : brO n = none) : unO n = none := by unfold unO; rw [h]; rfl
theorem unO_yes {n : Int} {q k : Nat} (h : brO n = some (q, k)) : unO n = some (sig k + 1) := by unfold unO; rw [h]; rfl
set_option maxHeartbeats 2000000 in
theorem spec_unreachedOf_any (n : Int) (w : World) : Calls Try.prog 13 #[.int .i64 n] w (Ret (unV (unO n)) w) := by
  cases hn : numB n with
  | false =>
    have E := Lib.hid (unO_no (brO_no hn))
    have HN : Hid (∀ w, Calls Try.prog 36 #[.int .i64 n] w (RetQ (.bool false) w)) := Lib.hid fun w => by have := prNumber_any n w; rwa [hn] at this
    clear hn
    go_enter Try.func13, Try.ntmps13
    go_wp2_with fail
    refine (HN.out _).mono ?_; rintro e w1 ⟨rfl, k1, rfl⟩
    go_wp2
    go_ret2
    rw [E.out]
    exact ⟨rfl, by (repeat' (first | (with_reducible exact Below.refl _ _) | (with_reducible assumption) | (with_reducible refine Below.drew ?_) | (with_reducible refine belowDrewN ?_ _) | (with_reducible refine Below.alloc ?_ ?_ _) | (with_reducible refine Below.setCell ?_ ?_ _) | (with_reducible refine belowStep (by assumption) ?_ ?_) | (with_reducible exact Below.size (by assumption)) | go_size))⟩
  | true =>
    obtain ⟨N, rfl, h1, h2⟩ := numB_nat hn
    have HN : Hid (∀ w, Calls Try.prog 36 #[.int .i64 (N : Int)] w (RetQ (.bool true) w)) := Lib.hid fun w => by have := prNumber_any (N : Int) w; rwa [hn] at this
    have HP := Lib.hid fun (w : World) => prPractical_any N w h1 h2
    have HU := Lib.hid fun (w : World) => prUnreached_any N w h1 h2
    have hb := brO_yes hn
    clear hn
    cases hk : brkO N with
    | none =>
      rw [hk] at hb HP
      have E := Lib.hid (unO_no hb)
      clear hb hk
      go_enter Try.func13, Try.ntmps13
      go_wp2_with fail
      refine (HN.out _).mono ?_; rintro e w1 ⟨rfl, k1, rfl⟩
      go_wp2_with fail
      refine (HP.out _).mono ?_; rintro e w2 ⟨rfl, hb2⟩; have hz2 := hb2.size; (try simp only [World.size_alloc, World.size_setCell, World.size_drew, World.heap_drewN] at hz2)
      go_wp2
      go_ret2
      rw [E.out]
      exact ⟨rfl, by (repeat' (first | (with_reducible exact Below.refl _ _) | (with_reducible assumption) | (with_reducible refine Below.drew ?_) | (with_reducible refine belowDrewN ?_ _) | (with_reducible refine Below.alloc ?_ ?_ _) | (with_reducible refine Below.setCell ?_ ?_ _) | (with_reducible refine belowStep (by assumption) ?_ ?_) | (with_reducible exact Below.size (by assumption)) | go_size))⟩
    | some x =>
      obtain ⟨q, k⟩ := x
      have hu : unI N = ((sig k + 1 : Nat) : Int) := by unfold unI; rw [hk]; rfl
      rw [hk] at hb HP
      rw [hu] at HU
      have E := Lib.hid (unO_yes hb)
      clear hb hk hu
      generalize sig k + 1 = t at *
      go_enter Try.func13, Try.ntmps13
      go_wp2_with fail
      refine (HN.out _).mono ?_; rintro e w1 ⟨rfl, k1, rfl⟩
      go_wp2_with fail
      refine (HP.out _).mono ?_; rintro e w2 ⟨rfl, hb2⟩; have hz2 := hb2.size; (try simp only [World.size_alloc, World.size_setCell, World.size_drew, World.heap_drewN] at hz2)
      go_wp2_with fail
      refine (HU.out _).mono ?_; rintro e w3 ⟨rfl, hb3⟩; have hz3 := hb3.size; (try simp only [World.size_alloc, World.size_setCell, World.size_drew, World.heap_drewN] at hz3)
      go_wp2
      go_ret2
      rw [E.out]
      exact ⟨rfl, by (repeat' (first | (with_reducible exact Below.refl _ _) | (with_reducible assumption) | (with_reducible refine Below.drew ?_) | (with_reducible refine belowDrewN ?_ _) | (with_reducible refine Below.alloc ?_ ?_ _) | (with_reducible refine Below.setCell ?_ ?_ _) | (with_reducible refine belowStep (by assumption) ?_ ?_) | (with_reducible exact Below.size (by assumption)) | go_size))⟩
set_option maxHeartbeats 2000000 in
theorem unreachedOf_any (n : Int) (w : World) : Calls Try.prog 14 #[.int .i64 n] w (Ret (unV (unO n)) w) := by
  have HB := Lib.hid fun (w : World) => breakOf_any n w
  cases hk : brO n with
  | none =>
    rw [hk] at HB
    have E := Lib.hid (unO_no hk)
    unfold bkV bkA bkB at HB
    clear hk
    go_enter Try.func14, Try.ntmps14
    go_wp2_with fail
    refine (HB.out _).mono ?_; rintro e w1 ⟨rfl, hb1⟩; have hz1 := hb1.size; (try simp only [World.size_alloc, World.size_setCell, World.size_drew, World.heap_drewN] at hz1)
    go_wp2
    go_ret2
    rw [E.out]
    exact ⟨rfl, by (repeat' (first | (with_reducible exact Below.refl _ _) | (with_reducible assumption) | (with_reducible refine Below.drew ?_) | (with_reducible refine belowDrewN ?_ _) | (with_reducible refine Below.alloc ?_ ?_ _) | (with_reducible refine Below.setCell ?_ ?_ _) | (with_reducible refine belowStep (by assumption) ?_ ?_) | (with_reducible exact Below.size (by assumption)) | go_size))⟩
  | some x =>
    obtain ⟨q, k⟩ := x
    rw [hk] at HB
    have hn : numB n = true := by
      cases hn : numB n with
      | true => rfl
      | false => rw [brO_no hn] at hk; cases hk
    obtain ⟨N, rfl, h1, h2⟩ := numB_nat hn
    have hb := brO_yes hn
    rw [hk] at hb
    have hsay := brkO_says h1 h2
    rw [← hb] at hsay
    obtain ⟨l, e, hq, hk1, hl1, hr, hql, hsk, hf, hc⟩ := hsay
    have hkN : k ≤ 2000 := by
      have := Nat.le_mul_of_pos_right k (show 0 < l by omega)
      omega
    have E := Lib.hid (unO_yes hk)
    have HS : Hid (∀ w, Calls Try.prog 33 #[.int .i64 (k : Int)] w (Ret (.tuple #[.int .i64 (sig k : Int), .bool true]) w)) := Lib.hid fun w => by
      have := divisorSum_any (k : Int) w
      rwa [sgR_yes (numB_of hk1 hkN), numB_of hk1 hkN] at this
    have hsm := sig_small hkN
    unfold bkV bkA bkB at HB
    simp only [Option.isSome_some] at HB
    clear hk hb hn e hq hl1 hr hql hsk hf hc
    generalize sig k = t at *
    go_enter Try.func14, Try.ntmps14
    go_wp2_with fail
    refine (HB.out _).mono ?_; rintro e w1 ⟨rfl, hb1⟩; have hz1 := hb1.size; (try simp only [World.size_alloc, World.size_setCell, World.size_drew, World.heap_drewN] at hz1)
    go_wp2_with fail
    refine (HS.out _).mono ?_; rintro e w2 ⟨rfl, hb2⟩; have hz2 := hb2.size; (try simp only [World.size_alloc, World.size_setCell, World.size_drew, World.heap_drewN] at hz2)
    go_wp2
    go_ret2
    rw [E.out]
    exact ⟨rfl, by (repeat' (first | (with_reducible exact Below.refl _ _) | (with_reducible assumption) | (with_reducible refine Below.drew ?_) | (with_reducible refine belowDrewN ?_ _) | (with_reducible refine Below.alloc ?_ ?_ _) | (with_reducible refine Below.setCell ?_ ?_ _) | (with_reducible refine belowStep (by assumption) ?_ ?_) | (with_reducible exact Below.size (by assumption)) | go_size))⟩
end Go.Proofs.Ytiapljimgnhgoab
