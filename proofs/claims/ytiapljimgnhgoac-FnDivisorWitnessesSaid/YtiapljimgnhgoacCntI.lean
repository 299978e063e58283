
/-
  Contract of CountSums in the program.
-/
import Derived.Test.YtiapljimgnhgoacReaC
import Derived.Test.YtiapljimgnhgoacCntC
namespace Go.Proofs.Ytiapljimgnhgoac
open Go.RowKit
theorem joinC_any (a b : Nat) (d : Int) (w : World) (h : a + b ≤ 17592186044416) : Calls Try.prog 54 #[.int .i64 d, .int .i64 (a : Int), .int .i64 (b : Int)] w (RetQ (.int .i64 ((a + b : Nat) : Int)) w) := by
  go_enter Try.func54, Try.ntmps54
  go_wp2
  go_ret
  exact ⟨ret_int (by omega), 0, rfl⟩
theorem reachCnt_any (N S : Nat) (w : World) (h1 : 1 ≤ N) (h2 : N ≤ 2000) (hS : S ≤ 100000) :
    Calls Try.prog 53 #[.int .i64 (N : Int), .int .i64 (S : Int), .int .i64 1, .func (.func 54) #[] #[]] w (fun e w' => ∃ t : Bool, e = .returned (.tuple #[.int .i64 ((ways (dsc N N) S : Nat) : Int), .bool t]) ∧ Below w.heap.size w w') := by
  have hpl : ∀ x : Int, -9223372036854775808 ≤ x → x ≤ 9223372036854775807 → plainElem (H := Unit) Try.prog 3 (.int .i64 x) = some (.lit (.int .i64 x), []) := fun x a b => plainElem_int Try.underlying3 (WalkArith.wf_i64 ⟨a, b⟩)
  refine (reachI_any 54 #[] (fun _ P s v => v = .int .i64 ((ways P s : Nat) : Int)) N S (.int .i64 1) w h1 h2 hS (fun _ _ => rfl) (fun _ _ _ _ _ P s v h => h) ⟨_, _, hpl 1 (by omega) (by omega)⟩ rfl ?_ ?_ ?_).mono ?_
  · intro w P d s v h hn
    rw [h, ways]
    by_cases hd : d ≤ s
    · rw [if_pos hd, show ways P (s - d) = 0 from by
        by_cases h0 : 0 < ways P (s - d)
        · exact absurd ⟨hd, h0⟩ hn
        · omega]
      rfl
    · rw [if_neg hd]
      rfl
  · intro w1 P d s x y hd hl hw hy hx
    have hx' : x = .int .i64 ((ways P (s + d) : Nat) : Int) := by
      rcases hx with ⟨_, h⟩ | ⟨h0, h⟩
      · exact h
      · rw [h, h0]; rfl
    have ew : ways (d :: P) (s + d) = ways P (s + d) + ways P s := by rw [ways, if_pos (by omega), Nat.add_sub_cancel]
    have ht := Nat.le_trans (ways_two (d :: P) (s + d)) (pow_le44 hl)
    rw [ew] at ht
    subst hx' hy
    refine (joinC_any (ways P (s + d)) (ways P s) (d : Int) w1 ht).mono ?_
    rintro e w2 ⟨rfl, k, rfl⟩
    exact ⟨_, rfl, by rw [ew], ⟨_, _, hpl _ (by omega) (by omega)⟩, belowDrewN (Below.refl _ _) k⟩
  · intro v v' dt ps ps' h h'
    obtain ⟨a, rfl, e, _⟩ := plainElem_int_inv Try.underlying3 h
    obtain ⟨b, rfl, e', _⟩ := plainElem_int_inv Try.underlying3 h'
    injection e with e _
    injection e' with e' _
    rw [e] at e'
    injection e' with e'
    injection e' with _ e'
    rw [e']
  · rintro e w' ⟨v, rfl, hv, hz, hb⟩
    refine ⟨decide (0 < ways (dsc N N) S), ?_, hb⟩
    by_cases h : 0 < ways (dsc N N) S
    · rw [hv h]
    · rw [hz (by omega), show ways (dsc N N) S = 0 from by omega]
      rfl
set_option maxHeartbeats 4000000 in
theorem countSums_any (n s : Int) (w : World) : Calls Try.prog 10 #[.int .i64 n, .int .i64 s] w (Ret (csV n s) w) := by
  have HN := Lib.hid fun (w : World) => isNumber_any n w
  have HT := Lib.hid fun (w : World) => isAskedSum_any s w
  cases hn : numB n with
  | false =>
    have E := Lib.hid (csV_n (s := s) hn)
    rw [hn] at HN
    clear hn
    go_enter Try.func10, Try.ntmps10
    go_wp2_with fail
    refine (HN.out _).mono ?_; rintro e w1 ⟨rfl, k1, rfl⟩
    go_wp2
    go_ret2
    rw [E.out]
    exact ⟨rfl, by (repeat' (first | (with_reducible exact Below.refl _ _) | (with_reducible assumption) | (with_reducible refine Below.drew ?_) | (with_reducible refine belowDrewN ?_ _) | (with_reducible refine Below.alloc ?_ ?_ _) | (with_reducible refine Below.setCell ?_ ?_ _) | (with_reducible refine belowStep (by assumption) ?_ ?_) | (with_reducible exact Below.size (by assumption)) | go_size))⟩
  | true =>
    cases hs : askB s with
    | false =>
      have E := Lib.hid (csV_s (n := n) hs)
      rw [hn] at HN
      rw [hs] at HT
      clear hn hs
      go_enter Try.func10, Try.ntmps10
      go_wp2_with fail
      refine (HN.out _).mono ?_; rintro e w1 ⟨rfl, k1, rfl⟩
      go_wp2_with fail
      refine (HT.out _).mono ?_; rintro e w2 ⟨rfl, k2, rfl⟩
      go_wp2
      go_ret2
      rw [E.out]
      exact ⟨rfl, by (repeat' (first | (with_reducible exact Below.refl _ _) | (with_reducible assumption) | (with_reducible refine Below.drew ?_) | (with_reducible refine belowDrewN ?_ _) | (with_reducible refine Below.alloc ?_ ?_ _) | (with_reducible refine Below.setCell ?_ ?_ _) | (with_reducible refine belowStep (by assumption) ?_ ?_) | (with_reducible exact Below.size (by assumption)) | go_size))⟩
    | true =>
      obtain ⟨N, rfl, h1, h2⟩ := numB_nat hn
      obtain ⟨S, rfl, hS⟩ := askB_nat hs
      have EV := Lib.hid fun (h : ways (dsc N N) S ≤ 1000000000) => csV_ok hn hs h
      have EB := Lib.hid fun (h : ¬ ways (dsc N N) S ≤ 1000000000) => csV_big h
      have HW := Lib.hid fun (w : World) => reachCnt_any N S w h1 h2 hS
      have ht := Nat.le_trans (ways_two (dsc N N) S) (pow_le44 (dsc_few h1 h2))
      rw [hn] at HN
      rw [hs] at HT
      clear hn hs
      generalize ways (dsc N N) S = W at *
      by_cases hW : W ≤ 1000000000
      · have E := Lib.hid (EV.out hW)
        clear EV EB
        have hW' : ¬ (1000000000 : Int) < (W : Int) := by omega
        go_enter Try.func10, Try.ntmps10
        go_wp2_with fail
        refine (HN.out _).mono ?_; rintro e w1 ⟨rfl, k1, rfl⟩
        go_wp2_with fail
        refine (HT.out _).mono ?_; rintro e w2 ⟨rfl, k2, rfl⟩
        go_wp2_with fail
        refine (HW.out _).mono ?_; rintro e w4 ⟨t4, rfl, hb4⟩; have hz4 := hb4.size; (try simp only [World.size_alloc, World.size_setCell, World.size_drew, World.heap_drewN] at hz4)
        go_wp2
        go_ret2
        rw [E.out]
        exact ⟨rfl, by (repeat' (first | (with_reducible exact Below.refl _ _) | (with_reducible assumption) | (with_reducible refine Below.drew ?_) | (with_reducible refine belowDrewN ?_ _) | (with_reducible refine Below.alloc ?_ ?_ _) | (with_reducible refine Below.setCell ?_ ?_ _) | (with_reducible refine belowStep (by assumption) ?_ ?_) | (with_reducible exact Below.size (by assumption)) | go_size))⟩
      · have E := Lib.hid (EB.out hW)
        clear EV EB
        have hW' : (1000000000 : Int) < (W : Int) := by omega
        go_enter Try.func10, Try.ntmps10
        go_wp2_with fail
        refine (HN.out _).mono ?_; rintro e w1 ⟨rfl, k1, rfl⟩
        go_wp2_with fail
        refine (HT.out _).mono ?_; rintro e w2 ⟨rfl, k2, rfl⟩
        go_wp2_with fail
        refine (HW.out _).mono ?_; rintro e w4 ⟨t4, rfl, hb4⟩; have hz4 := hb4.size; (try simp only [World.size_alloc, World.size_setCell, World.size_drew, World.heap_drewN] at hz4)
        go_wp2
        go_ret2
        rw [E.out]
        exact ⟨rfl, by (repeat' (first | (with_reducible exact Below.refl _ _) | (with_reducible assumption) | (with_reducible refine Below.drew ?_) | (with_reducible refine belowDrewN ?_ _) | (with_reducible refine Below.alloc ?_ ?_ _) | (with_reducible refine Below.setCell ?_ ?_ _) | (with_reducible refine belowStep (by assumption) ?_ ?_) | (with_reducible exact Below.size (by assumption)) | go_size))⟩
end Go.Proofs.Ytiapljimgnhgoac
