
/-
  Contracts of the draws for splits.
-/
import Derived.Test.YtbjblkfibinenaaDraw
import Derived.Test.YtbjblkfibinenaaSplitP
import Derived.Test.YtbjblkfibinenaaLawK
namespace Go.Proofs.Ytbjblkfibinenaa
open Go.RowKit
theorem Cur.start (w : World) (A : Option Addr) (n c : Nat) (T : TypeId) (hr : ReadsB w A n) (hn : n ≤ 1048576) : Cur w (w.alloc (.cells #[.slice A n c, .int .i64 0, .int .u64 0] T)) w.heap.size 0 :=
  ⟨Nat.le_refl _, by simp, (Below.refl _ _).alloc (Nat.le_refl _) _, A, n, c, 0, 0, cellNew rfl rfl, hn, hr, cellNew rfl rfl, by omega, by omega, cellNew rfl rfl, by simp [go_sem], by simp [go_sem]⟩
def DrawLi (w : World) (e : Ending) (w' : World) : Prop := ∃ (v : Value) (xs : List Int) (i : Int), e = .returned (.tuple #[v, .int .i64 i]) ∧ OwnI w' w.heap.size v xs ∧ xs.length ≤ 40 ∧ In64 xs ∧ (-100 ≤ i ∧ i ≤ 100) ∧ Below w.heap.size w w'
def DrawLipq (w : World) (e : Ending) (w' : World) : Prop := ∃ (v : Value) (xs : List Int) (i p q : Int), e = .returned (.tuple #[v, .int .i64 i, .int .i64 p, .int .i64 q]) ∧ OwnI w' w.heap.size v xs ∧ xs.length ≤ 40 ∧ In64 xs ∧ (-100 ≤ i ∧ i ≤ 100) ∧ (-10000 ≤ p ∧ p ≤ 10000) ∧ (-10000 ≤ q ∧ q ≤ 10000) ∧ Below w.heap.size w w'
set_option maxHeartbeats 2000000 in
theorem drawSplitTerm_any (w : World) (A : Option Addr) (n c : Nat) (hr : ReadsB w A n) (hn : n ≤ 1048576) : Calls Try.prog 20 #[.slice A n c] w (DrawLi w) := by
  have Hr := Lib.hid hr
  clear hr
  go_enter Try.func20, Try.ntmps20
  go_wp2_with fail
  refine (terms_any w _ w.heap.size 0 (by omega) (Cur.start w A n c _ Hr.out hn)).mono ?_; rintro e w1 ⟨v1, xs, rfl, ho1, hl1, hi1, hc1, hg1⟩
  have Hi1 := Lib.hid hi1
  have HC1 := Lib.hid hc1
  have hz1 := hg1.size
  simp only [World.size_alloc] at hz1
  obtain ⟨A1, c1, rfl, _⟩ := ho1.form
  have Ho1 := Lib.hid ho1
  clear ho1 hi1 hc1 hg1
  go_wp2_with fail
  refine (pick_any w _ _ 100 (by omega) _ (by omega) HC1.out).mono ?_; rintro e w2 ⟨x, rfl, x0, x1, hc2, hg2⟩
  have HC2 := Lib.hid hc2
  have Ho2 := Lib.hid (Ho1.out.grown hg2 (by simp))
  have hz2 := hg2.size
  clear hc2 hg2
  go_wp2_with fail
  refine (pick_any w _ _ 102 (by omega) _ (by omega) HC2.out).mono ?_; rintro e w3 ⟨y, rfl, y0, y1, hc3, hg3⟩
  have Hb3 := Lib.hid hc3.base.2.2
  have Ho3 := Lib.hid (Ho2.out.grown hg3 (by simp))
  clear hc3 hg3
  go_wp2
  go_ret2
  exact ⟨_, xs, _, rfl, Ho3.out.mono (by simp), hl1, In64.of_mem Hi1.out, by omega, Hb3.out⟩
set_option maxHeartbeats 8000000 in
theorem drawSplitBy_any (w : World) (A : Option Addr) (n c : Nat) (hr : ReadsB w A n) (hn : n ≤ 1048576) : Calls Try.prog 16 #[.slice A n c] w (DrawLipq w) := by
  have Hr := Lib.hid hr
  clear hr
  go_enter Try.func16, Try.ntmps16
  go_wp2_with fail
  refine (terms_any w _ w.heap.size 0 (by omega) (Cur.start w A n c _ Hr.out hn)).mono ?_; rintro e w1 ⟨v1, xs, rfl, ho1, hl1, hi1, hc1, hg1⟩
  have Hi1 := Lib.hid hi1
  have HC1 := Lib.hid hc1
  have hz1 := hg1.size
  simp only [World.size_alloc] at hz1
  obtain ⟨A1, c1, rfl, _⟩ := ho1.form
  have Ho1 := Lib.hid ho1
  clear ho1 hi1 hc1 hg1
  go_wp2_with fail
  refine (pick_any w _ _ 100 (by omega) _ (by omega) HC1.out).mono ?_; rintro e w2 ⟨x, rfl, x0, x1, hc2, hg2⟩
  have HC2 := Lib.hid hc2
  have Ho2 := Lib.hid (Ho1.out.grown hg2 (by simp))
  have hz2 := hg2.size
  clear hc2 hg2
  go_wp2_with fail
  refine (pick_any w _ _ 102 (by omega) _ (by omega) HC2.out).mono ?_; rintro e w3 ⟨y, rfl, y0, y1, hc3, hg3⟩
  have HC3 := Lib.hid hc3
  have Ho3 := Lib.hid (Ho2.out.grown hg3 (by simp))
  have hz3 := hg3.size
  clear hc3 hg3
  go_wp2_with fail
  refine (pick_any w _ _ 104 (by omega) _ (by omega) HC3.out).mono ?_; rintro e w4 ⟨z, rfl, z0, z1, hc4, hg4⟩
  have HC4 := Lib.hid hc4
  have Ho4 := Lib.hid (Ho3.out.grown hg4 (by simp))
  have hz4 := hg4.size
  clear hc4 hg4
  by_cases e0 : z = 0
  · subst e0
    go_wp2_with fail
    refine (among_any w _ _ 106 (by omega) (-1) 1001 _ 5 [-1, 0, 999, 1000, 1001] (Reads.lit w4 _ 5 rfl) (by simp) (by simp) (by simp) (fun a ha => by injection ha with ha; subst ha; show w4.heap.size ≠ w.heap.size; omega) (fun z hz => by simp only [List.mem_cons, List.not_mem_nil, or_false] at hz; omega) (HC4.out.below ((Below.refl _ _).alloc (Nat.le_refl _) _))).mono ?_; rintro e w5 ⟨p, rfl, p0, p1, hc5, hg5⟩
    have HC5 := Lib.hid hc5
    have Ho5 := Lib.hid ((Ho4.out.below ((Below.refl _ _).alloc (Nat.le_refl _) _)).grown hg5 (by simp))
    have hz5 := hg5.size
    (try simp only [World.size_alloc] at hz5)
    clear hc5 hg5
    go_wp2_with fail
    refine (pick_any w _ _ 108 (by omega) _ (by omega) HC5.out).mono ?_; rintro e w6 ⟨i0, rfl, i1, i2, hc6, hg6⟩
    have HC6 := Lib.hid hc6
    have Ho6 := Lib.hid (Ho5.out.grown hg6 (by simp))
    clear hc6 hg6
    go_wp2_with fail
    refine (pick_any w _ _ 110 (by omega) _ (by omega) HC6.out).mono ?_; rintro e w7 ⟨j0, rfl, j1, j2, hc7, hg7⟩
    have Hb7 := Lib.hid hc7.base.2.2
    have Ho7 := Lib.hid (Ho6.out.grown hg7 (by simp))
    clear hc7 hg7
    go_wp2
    refine bodyPost_ret (by simp [results, Try.results16, go_sem, *]; try rfl) rfl ?_
    exact ⟨_, xs, _, _, _, rfl, Ho7.out.mono (by simp), hl1, In64.of_mem Hi1.out, by omega, by omega, by omega, Hb7.out⟩
  · by_cases e1 : z = 1
    · subst e1
      go_wp2_with fail
      refine (among_any w _ _ 106 (by omega) (-100) 1001 _ 3 [1 + x, 1000, 1001] (Reads.lit w4 _ 3 rfl) (by simp) (by simp) (by simp) (fun a ha => by injection ha with ha; subst ha; show w4.heap.size ≠ w.heap.size; omega) (fun z hz => by simp only [List.mem_cons, List.not_mem_nil, or_false] at hz; omega) (HC4.out.below ((Below.refl _ _).alloc (Nat.le_refl _) _))).mono ?_; rintro e w5 ⟨p, rfl, p0, p1, hc5, hg5⟩
      have HC5 := Lib.hid hc5
      have Ho5 := Lib.hid ((Ho4.out.below ((Below.refl _ _).alloc (Nat.le_refl _) _)).grown hg5 (by simp))
      have hz5 := hg5.size
      (try simp only [World.size_alloc] at hz5)
      clear hc5 hg5
      go_wp2_with fail
      refine (pick_any w _ _ 108 (by omega) _ (by omega) HC5.out).mono ?_; rintro e w6 ⟨i0, rfl, i1, i2, hc6, hg6⟩
      have HC6 := Lib.hid hc6
      have Ho6 := Lib.hid (Ho5.out.grown hg6 (by simp))
      clear hc6 hg6
      go_wp2_with fail
      refine (pick_any w _ _ 110 (by omega) _ (by omega) HC6.out).mono ?_; rintro e w7 ⟨j0, rfl, j1, j2, hc7, hg7⟩
      have Hb7 := Lib.hid hc7.base.2.2
      have Ho7 := Lib.hid (Ho6.out.grown hg7 (by simp))
      clear hc7 hg7
      go_wp2
      refine bodyPost_ret (by simp [results, Try.results16, go_sem, *]; try rfl) rfl ?_
      exact ⟨_, xs, _, _, _, rfl, Ho7.out.mono (by simp), hl1, In64.of_mem Hi1.out, by omega, by omega, by omega, Hb7.out⟩
    · have f0 : (z == 0) = false := by simp [e0]
      have f1 : (z == 1) = false := by simp [e1]
      have HC5 := Lib.hid (HC4.out.more (by omega : 106 ≤ 108))
      have Ho5 := Ho4
      clear e0 e1
      go_wp2_with fail
      refine (pick_any w _ _ 108 (by omega) _ (by omega) HC5.out).mono ?_; rintro e w6 ⟨i0, rfl, i1, i2, hc6, hg6⟩
      have HC6 := Lib.hid hc6
      have Ho6 := Lib.hid (Ho5.out.grown hg6 (by simp))
      clear hc6 hg6
      go_wp2_with fail
      refine (pick_any w _ _ 110 (by omega) _ (by omega) HC6.out).mono ?_; rintro e w7 ⟨j0, rfl, j1, j2, hc7, hg7⟩
      have Hb7 := Lib.hid hc7.base.2.2
      have Ho7 := Lib.hid (Ho6.out.grown hg7 (by simp))
      clear hc7 hg7
      go_wp2
      refine bodyPost_ret (by simp [results, Try.results16, go_sem, *]; try rfl) rfl ?_
      exact ⟨_, xs, _, _, _, rfl, Ho7.out.mono (by simp), hl1, In64.of_mem Hi1.out, by omega, by omega, by omega, Hb7.out⟩
end Go.Proofs.Ytbjblkfibinenaa
