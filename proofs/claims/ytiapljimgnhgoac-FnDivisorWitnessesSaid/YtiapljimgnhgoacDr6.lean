
/-
  Contract of what draws a number, a sum and a list beside them.
-/
import Derived.Test.YtiapljimgnhgoacDr5
namespace Go.Proofs.Ytiapljimgnhgoac
open Go.RowKit
def DrawNSL (w : World) (e : Ending) (w' : World) : Prop := ∃ (n s : Int) (A : Option Addr) (c : Nat) (xs : List Int), e = .returned (.tuple #[.int .i64 n, .int .i64 s, .slice A xs.length c]) ∧ Reads w' A xs ∧ xs.length ≤ 2001 ∧ (∀ x ∈ xs, -9223372036854775808 ≤ x ∧ x ≤ 9223372036854775807) ∧ -1 ≤ n ∧ n ≤ 2001 ∧ -1 ≤ s ∧ s ≤ 4000001 ∧ Below w.heap.size w w'
theorem dfO_64 (n s : Int) : ∀ x ∈ ints ((dfO n s).getD []), -9223372036854775808 ≤ x ∧ x ≤ 9223372036854775807 := by
  intro x hx
  unfold ints at hx
  obtain ⟨d, hd, rfl⟩ := List.mem_map.1 hx
  unfold dfO at hd
  split at hd
  · rename_i h
    have h1 := (numB_iff n).1 h.1
    have := (dsc_mem _ _ _).1 ((pick_sub _ _).subset hd)
    show -9223372036854775808 ≤ (d : Int) ∧ (d : Int) ≤ 9223372036854775807
    omega
  · cases hd
set_option maxHeartbeats 4000000 in
theorem drawAreDivisorsFor_any (w : World) (A : Option Addr) (n c : Nat) (hr : ReadsB w A n) (hn : n ≤ 1048576) : Calls Try.prog 16 #[.slice A n c] w (DrawNSL w) := by
  have HC0 := Lib.hid (beginP w A n c 56 hr hn)
  have HR := Lib.hid hr
  clear hr
  go_enter Try.func16, Try.ntmps16
  go_wp2_with fail
  refine (drawDivisorsFor_any _ A n c (HR.out.below (by (repeat' (first | (with_reducible exact Below.refl _ _) | (with_reducible assumption) | (with_reducible refine Below.drew ?_) | (with_reducible refine belowDrewN ?_ _) | (with_reducible refine Below.alloc ?_ ?_ _) | (with_reducible refine Below.setCell ?_ ?_ _) | (with_reducible refine belowStep (by assumption) ?_ ?_) | (with_reducible exact Below.size (by assumption)) | go_size)))) hn).mono ?_; rintro e w2 ⟨x, s, rfl, x0, x1, s0, s1, hb2⟩
  have HC2 := Lib.hid (HC0.out.below hb2)
  have hz2 := hb2.size
  (try simp only [World.size_alloc] at hz2)
  have h64 := dfO_64 x s
  have hlen := dfO_len x s
  have HD : Hid (∀ w, Calls Try.prog 9 #[.int .i64 x, .int .i64 s] w (RetLB (ints ((dfO x s).getD [])) (dfO x s).isSome w)) := Lib.hid fun w => spec_divisorsFor_any x s w
  rw [← ints_len] at hlen
  generalize (dfO x s).isSome = told at *
  generalize ints ((dfO x s).getD []) = ys at *
  have H64 := Lib.hid h64
  clear h64
  go_wp2_with fail
  refine (HD.out _).mono ?_; rintro e w3 ⟨v3, rfl, ho3, hb3⟩
  have HC3 := Lib.hid (HC2.out.below hb3)
  have hz3 := hb3.size
  have HO3 := Lib.hid (ho3.mono (show w.heap.size + 1 ≤ w2.heap.size by omega))
  clear ho3
  go_wp2_with fail
  refine (oneP_any w _ w.heap.size 0 (by omega) _ (by omega) HC3.out).mono ?_; rintro e w4 ⟨o, rfl, hc4, hg4⟩
  have HC4 := Lib.hid hc4
  have hz4 := hg4.size
  have HO4 := Lib.hid (HO3.out.grown hg4 (Nat.lt_succ_self _))
  clear hc4 hg4
  cases o with
  | true =>
    go_wp2_with fail
    refine (among_any w _ w.heap.size 2 (by omega) (-1) 2001 _ 5 [1, 2, 0, -1, x] (Reads.lit w4 _ 5 rfl) (by simp) (by simp) (by simp) (fun a ha => by injection ha with ha; subst ha; show w4.heap.size ≠ w.heap.size; omega) (fun z hz => by simp only [List.mem_cons, List.not_mem_nil, or_false] at hz; omega) (HC4.out.below ((Below.refl _ _).alloc (Nat.le_refl _) _))).mono ?_; rintro e w5 ⟨z, rfl, z0, z1, hc5, hg5⟩
    have HB5 := Lib.hid hc5.base.2.2
    have hz5 := hg5.size
    (try simp only [World.size_alloc] at hz5)
    have HO5 := Lib.hid ((HO4.out.below ((Below.refl _ _).alloc (Nat.le_refl _) _)).grown hg5 (Nat.lt_succ_self _))
    clear hc5 hg5
    go_wp2_with (at_builtin; refine wpList_app _ (o := ⟨some 32, _, _, _, _, _⟩) (ys := [z]) rfl _ _ rfl rfl (OwnI.below HO5.out ((Below.refl _ _).alloc (Nat.le_refl _) _)) (1) (1) (by first | (simp; done) | (simp; omega)) rfl (Reads.one _ z) (by (try simp only [List.length_append, List.length_take, List.length_drop, List.length_nil, List.length_singleton, List.length_cons]); omega) (by first | exact Nat.le_refl _ | ((try simp only [World.size_alloc, World.size_setCell, World.size_drew, World.heap_drewN]); omega)) ?_; intro v6 w6 ho6 hb6 hg6 ht6; clear hg6 ht6; have hz6 := hb6.size; (try simp only [World.size_alloc, World.size_setCell, World.size_drew, World.heap_drewN] at hz6))
    obtain ⟨A6, c6, rfl, hr6⟩ := ho6.form
    have HB6 := Lib.hid (hb6.mono (show w.heap.size ≤ w.heap.size + 1 by omega))
    have R6 := Lib.hid hr6
    clear ho6 hr6 hb6
    go_wp2
    go_ret3
    refine ⟨x, s, A6, c6, ys ++ [z], rfl, R6.out, by simp; omega, fun u hu => ?_, x0, x1, s0, s1, (HB5.out.alloc (by omega) _).trans HB6.out⟩
    rcases List.mem_append.1 hu with hu | hu
    · exact H64.out u hu
    · simp only [List.mem_singleton] at hu; omega
  | false =>
    have HB4 := Lib.hid HC4.out.base.2.2
    obtain ⟨A4, c4, e4, hr4⟩ := HO4.out.form
    subst e4
    have R4 := Lib.hid hr4
    clear hr4
    go_wp2
    go_ret3
    exact ⟨x, s, A4, c4, ys, rfl, R4.out, by omega, H64.out, x0, x1, s0, s1, HB4.out⟩
end Go.Proofs.Ytiapljimgnhgoac
