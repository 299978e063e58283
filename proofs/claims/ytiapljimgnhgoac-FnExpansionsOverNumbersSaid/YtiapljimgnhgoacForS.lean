
/-
  Contract of DivisorsFor in the model, whole.
-/
import Derived.Test.YtiapljimgnhgoacForC
namespace Go.Proofs.Ytiapljimgnhgoac
open Go.RowKit
set_option maxHeartbeats 4000000 in
theorem spec_divisorsFor_any (n s : Int) (w : World) : Calls Try.prog 9 #[.int .i64 n, .int .i64 s] w (RetLB (ints ((dfO n s).getD [])) (dfO n s).isSome w) := by
  have HN := Lib.hid fun (w : World) => prNumber_any n w
  have HT := Lib.hid fun (w : World) => prTotal_any s w
  cases hn : numB n with
  | false =>
    have E := Lib.hid (dfO_n (s := s) hn)
    rw [hn] at HN
    clear hn
    go_enter Try.func9, Try.ntmps9
    go_wp2_with fail
    refine (HN.out _).mono ?_; rintro e w1 ⟨rfl, k1, rfl⟩
    go_wp2
    go_ret2
    rw [E.out]
    exact ⟨_, rfl, OwnI.empty _ _, by (repeat' (first | (with_reducible exact Below.refl _ _) | (with_reducible assumption) | (with_reducible refine Below.drew ?_) | (with_reducible refine belowDrewN ?_ _) | (with_reducible refine Below.alloc ?_ ?_ _) | (with_reducible refine Below.setCell ?_ ?_ _) | (with_reducible refine belowStep (by assumption) ?_ ?_) | (with_reducible exact Below.size (by assumption)) | go_size))⟩
  | true =>
    cases hs : askB s with
    | false =>
      have E := Lib.hid (dfO_s (n := n) hs)
      rw [hn] at HN
      rw [hs] at HT
      clear hn hs
      go_enter Try.func9, Try.ntmps9
      go_wp2_with fail
      refine (HN.out _).mono ?_; rintro e w1 ⟨rfl, k1, rfl⟩
      go_wp2_with fail
      refine (HT.out _).mono ?_; rintro e w2 ⟨rfl, k2, rfl⟩
      go_wp2
      go_ret2
      rw [E.out]
      exact ⟨_, rfl, OwnI.empty _ _, by (repeat' (first | (with_reducible exact Below.refl _ _) | (with_reducible assumption) | (with_reducible refine Below.drew ?_) | (with_reducible refine belowDrewN ?_ _) | (with_reducible refine Below.alloc ?_ ?_ _) | (with_reducible refine Below.setCell ?_ ?_ _) | (with_reducible refine belowStep (by assumption) ?_ ?_) | (with_reducible exact Below.size (by assumption)) | go_size))⟩
    | true =>
      obtain ⟨N, rfl, h1, h2⟩ := numB_nat hn
      obtain ⟨S, rfl, hS⟩ := askB_nat hs
      have EV := Lib.hid fun (h : 0 < ways (dsc N N) S) => dfO_yes hn hs h
      have EB := Lib.hid fun (h : ¬ 0 < ways (dsc N N) S) => dfO_no h
      have HW : Hid (∀ w A c, Reads w A (ints (asc N N)) → (ints (asc N N)).length ≤ c → Calls Try.prog 51 #[.slice A (ints (asc N N)).length c, .int .i64 (S : Int)] w (RetLB (ints (pick (dsc N N) S)) (decide (0 < ways (dsc N N) S)) w)) := Lib.hid fun w A c h hc => by
        have := prFor_any (asc N N) S w A c h (asc_small h2) (by have := asc_len N N; omega) (by rw [← ints_len]; exact hc) hS
        rwa [show (asc N N).reverse = dsc N N from by unfold asc; exact List.reverse_reverse _, ← ints_len] at this
      rw [hn] at HN
      rw [hs] at HT
      clear hn hs
      by_cases hw : 0 < ways (dsc N N) S
      · have E := Lib.hid (EV.out hw)
        rw [decide_eq_true hw] at HW
        clear EV EB hw
        go_enter Try.func9, Try.ntmps9
        go_wp2_with fail
        refine (HN.out _).mono ?_; rintro e w1 ⟨rfl, k1, rfl⟩
        go_wp2_with fail
        refine (HT.out _).mono ?_; rintro e w2 ⟨rfl, k2, rfl⟩
        go_wp2_with fail
        refine (prDivisors_any N _ h2).mono ?_; rintro e w3 ⟨v3, rfl, ho3, hb3⟩; obtain ⟨A3, c3, rfl, hr3⟩ := ho3.form
        have hz3 := hb3.size
        have hcp := ho3.cap_
        (try simp only [World.size_alloc, World.size_setCell, World.size_drew, World.heap_drewN] at hz3)
        go_wp2_with fail
        refine (HW.out _ _ _ hr3 hcp).mono ?_; rintro e w4 ⟨v4, rfl, ho4, hb4⟩; obtain ⟨A4, c4, rfl, hr4⟩ := ho4.form
        have hz4 := hb4.size
        go_wp2
        go_ret2
        rw [E.out]
        exact ⟨_, rfl, ho4.mono (by (first | (go_size; done) | ((try simp only [World.size_alloc, World.size_setCell, World.size_drew, World.heap_drewN]); omega))), by (repeat' (first | (with_reducible exact Below.refl _ _) | (with_reducible assumption) | (with_reducible refine Below.drew ?_) | (with_reducible refine belowDrewN ?_ _) | (with_reducible refine Below.alloc ?_ ?_ _) | (with_reducible refine Below.setCell ?_ ?_ _) | (with_reducible refine belowStep (by assumption) ?_ ?_) | (with_reducible exact Below.size (by assumption)) | go_size))⟩
      · have E := Lib.hid (EB.out hw)
        rw [decide_eq_false hw] at HW
        clear EV EB hw
        go_enter Try.func9, Try.ntmps9
        go_wp2_with fail
        refine (HN.out _).mono ?_; rintro e w1 ⟨rfl, k1, rfl⟩
        go_wp2_with fail
        refine (HT.out _).mono ?_; rintro e w2 ⟨rfl, k2, rfl⟩
        go_wp2_with fail
        refine (prDivisors_any N _ h2).mono ?_; rintro e w3 ⟨v3, rfl, ho3, hb3⟩; obtain ⟨A3, c3, rfl, hr3⟩ := ho3.form
        have hz3 := hb3.size
        have hcp := ho3.cap_
        (try simp only [World.size_alloc, World.size_setCell, World.size_drew, World.heap_drewN] at hz3)
        go_wp2_with fail
        refine (HW.out _ _ _ hr3 hcp).mono ?_; rintro e w4 ⟨v4, rfl, ho4, hb4⟩
        have hz4 := hb4.size
        go_wp2
        go_ret2
        rw [E.out]
        exact ⟨_, rfl, OwnI.empty _ _, by (repeat' (first | (with_reducible exact Below.refl _ _) | (with_reducible assumption) | (with_reducible refine Below.drew ?_) | (with_reducible refine belowDrewN ?_ _) | (with_reducible refine Below.alloc ?_ ?_ _) | (with_reducible refine Below.setCell ?_ ?_ _) | (with_reducible refine belowStep (by assumption) ?_ ?_) | (with_reducible exact Below.size (by assumption)) | go_size))⟩
end Go.Proofs.Ytiapljimgnhgoac
