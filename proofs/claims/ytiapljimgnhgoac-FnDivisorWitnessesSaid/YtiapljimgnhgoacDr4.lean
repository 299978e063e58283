
/-
  Contracts of what draws a number of this chapter.
-/
import Derived.Test.YtiapljimgnhgoacDraw
import Derived.Test.YtiapljimgnhgoacLawK
import Derived.Test.YtiapljimgnhgoacDrawP
namespace Go.Proofs.Ytiapljimgnhgoac
open Go.RowKit
set_option maxHeartbeats 4000000 in
theorem number4_any (w0 w : World) (g n : Nat) (hn : n ≤ 100000) (h : Cur w0 w g n) : Calls Try.prog 38 #[.pointer (some ⟨g, 0, none⟩)] w (DrawN w0 w g (n + 4) (-1) 2001) := by
  have HC := Lib.hid h
  obtain ⟨b1, b2, b3⟩ := h.base
  clear h
  go_enter Try.func38, Try.ntmps38
  go_wp2_with fail
  refine (pick_any w0 _ _ n (by omega) _ (by omega) HC.out).mono ?_; rintro e w1 ⟨x, rfl, x0, x1, hc1, hg1⟩
  have HC1 := Lib.hid hc1
  have Hg1 := Lib.hid hg1
  have hz1 := hg1.size
  clear hc1 hg1
  by_cases e0 : x = 0
  · subst e0
    go_wp2_with fail
    refine (among_any w0 _ _ (n + 2) (by omega) (-1) 2001 _ 5 [0, -1, 1, 2000, 2001] (Reads.lit w1 _ 5 rfl) (by simp) (by simp) (by simp) (fun a ha => by injection ha with ha; subst ha; show w1.heap.size ≠ g; omega) (fun z hz => by simp only [List.mem_cons, List.not_mem_nil, or_false] at hz; omega) (HC1.out.below ((Below.refl _ _).alloc (Nat.le_refl _) _))).mono ?_; rintro e w2 ⟨z, rfl, z0, z1, hc2, hg2⟩
    have HC2 := Lib.hid hc2
    have Hg2 := Lib.hid (Hg1.out.trans ((grownAlloc (World.grownBy.refl w1 (some g)) (Nat.le_refl _) _).trans hg2))
    clear hc2 hg2
    go_wp2
    go_ret
    exact ⟨z, rfl, z0, z1, HC2.out, Hg2.out⟩
  · by_cases e1 : x = 1
    · subst e1
      go_wp2_with fail
      refine (pick_any w0 _ _ (n + 2) (by omega) _ (by omega) HC1.out).mono ?_; rintro e w2 ⟨z, rfl, z0, z1, hc2, hg2⟩
      have HC2 := Lib.hid hc2
      have Hg2 := Lib.hid (Hg1.out.trans hg2)
      clear hc2 hg2
      go_wp2
      go_ret
      exact ⟨1 + z, rfl, by omega, by omega, HC2.out, Hg2.out⟩
    · have h0 : (x == 0) = false := by simp [e0]
      have h1 : (x == 1) = false := by simp [e1]
      by_cases e23 : x = 2 ∨ x = 3
      · rcases e23 with rfl | rfl
        all_goals
          go_wp2_with fail
          refine (among_any w0 _ _ (n + 2) (by omega) (-1) 2001 _ 19 [6, 12, 20, 28, 30, 36, 42, 60, 70, 72, 84, 90, 120, 156, 210, 240, 280, 420, 1680] (Reads.lit w1 _ 19 rfl) (by simp) (by simp) (by simp) (fun a ha => by injection ha with ha; subst ha; show w1.heap.size ≠ g; omega) (fun z hz => by simp only [List.mem_cons, List.not_mem_nil, or_false] at hz; omega) (HC1.out.below ((Below.refl _ _).alloc (Nat.le_refl _) _))).mono ?_; rintro e w2 ⟨z, rfl, z0, z1, hc2, hg2⟩
          have HC2 := Lib.hid hc2
          have Hg2 := Lib.hid (Hg1.out.trans ((grownAlloc (World.grownBy.refl w1 (some g)) (Nat.le_refl _) _).trans hg2))
          clear hc2 hg2
          go_wp2
          go_ret
          exact ⟨z, rfl, z0, z1, HC2.out, Hg2.out⟩
      · have h2 : (x == 2) = false := by simp; omega
        have h3 : (x == 3) = false := by simp; omega
        go_wp2_with fail
        refine (pick_any w0 _ _ (n + 2) (by omega) _ (by omega) HC1.out).mono ?_; rintro e w2 ⟨z, rfl, z0, z1, hc2, hg2⟩
        have HC2 := Lib.hid hc2
        have Hg2 := Lib.hid (Hg1.out.trans hg2)
        clear hc2 hg2
        go_wp2
        go_ret
        exact ⟨1 + z, rfl, by omega, by omega, HC2.out, Hg2.out⟩
theorem drawDivisorsOf_any (w : World) (A : Option Addr) (n c : Nat) (hr : ReadsB w A n) (hn : n ≤ 1048576) : Calls Try.prog 59 #[.slice A n c] w (fun e w' => ∃ x : Int, e = .returned (.int .i64 x) ∧ -1 ≤ x ∧ x ≤ 2001 ∧ Below w.heap.size w w') := by
  have HC0 := Lib.hid (beginP w A n c 56 hr hn)
  clear hr
  go_enter Try.func59, Try.ntmps59
  go_wp2_with fail
  refine (number4_any w _ w.heap.size 0 (by omega) HC0.out).mono ?_; rintro e w2 ⟨x, rfl, x0, x1, hc2, hg2⟩
  have hbs := hc2.base.2.2
  clear hc2 hg2
  go_wp2
  go_ret
  exact ⟨x, rfl, x0, x1, hbs⟩
theorem drawPracticalsUpTo_any (w : World) (A : Option Addr) (n c : Nat) (hr : ReadsB w A n) (hn : n ≤ 1048576) : Calls Try.prog 18 #[.slice A n c] w (fun e w' => ∃ x : Int, e = .returned (.int .i64 x) ∧ -1 ≤ x ∧ x ≤ 2001 ∧ Below w.heap.size w w') := by
  have HD := Lib.hid (drawDivisorsOf_any w A n c hr hn)
  clear hr
  go_enter Try.func18, Try.ntmps18
  go_wp2_with fail
  refine HD.out.mono ?_; rintro e w2 ⟨x, rfl, x0, x1, hb2⟩
  go_wp2
  go_ret
  exact ⟨x, rfl, x0, x1, hb2⟩
theorem drawIsPrimitive_any (w : World) (A : Option Addr) (n c : Nat) (hr : ReadsB w A n) (hn : n ≤ 1048576) : Calls Try.prog 22 #[.slice A n c] w (fun e w' => ∃ x : Int, e = .returned (.int .i64 x) ∧ -1 ≤ x ∧ x ≤ 2001 ∧ Below w.heap.size w w') := by
  have HD := Lib.hid (drawDivisorsOf_any w A n c hr hn)
  clear hr
  go_enter Try.func22, Try.ntmps22
  go_wp2_with fail
  refine HD.out.mono ?_; rintro e w2 ⟨x, rfl, x0, x1, hb2⟩
  go_wp2
  go_ret
  exact ⟨x, rfl, x0, x1, hb2⟩
end Go.Proofs.Ytiapljimgnhgoac
