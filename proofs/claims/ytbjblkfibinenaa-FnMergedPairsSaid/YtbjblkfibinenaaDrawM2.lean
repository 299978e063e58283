
/-
  The draw of a list and two numbers for the law on merging.
-/
import Derived.Test.YtbjblkfibinenaaDrawP
import Derived.Test.YtbjblkfibinenaaOwn
import Derived.Test.YtbjblkfibinenaaSum2
import Derived.Test.YtbjblkfibinenaaIfExp
namespace Go.Proofs.Ytbjblkfibinenaa
open Go.RowKit
/-- a list and two numbers have been drawn -/
def DrawnLij (w : World) (e : Ending) (w' : World) : Prop := ∃ A c zs i j, e = .returned (.tuple #[.slice A (List.length zs) c, .int .i64 i, .int .i64 j]) ∧ Reads w' A zs ∧ zs.length ≤ 40 ∧ (∀ z ∈ zs, -9223372036854775808 ≤ z ∧ z ≤ 9223372036854775807) ∧ (-9223372036854775808 ≤ i ∧ i ≤ 9223372036854775807) ∧ (-9223372036854775808 ≤ j ∧ j ≤ 9223372036854775807) ∧ Below w.heap.size w w'
set_option maxRecDepth 100000 in
set_option maxHeartbeats 8000000 in
theorem drawMergePair_any (w : World) (A : Option Addr) (n c : Nat) (hr : ReadsB w A n) (hn : n ≤ 1048576) : Calls Try.prog 48 #[.slice A n c] w (DrawnLij w) := by
  have HC0 := Lib.hid (beginP w A n c 64 hr hn)
  clear hr
  go_enter Try.func48, Try.ntmps48
  go_wp2_with fail
  refine (terms_any w _ w.heap.size 0 (by omega) HC0.out).mono ?_; rintro e w1 ⟨v1, xs, rfl, ho1, hl1, h64, hc1, hg1⟩
  have H64 := Lib.hid h64
  have HC1 := Lib.hid hc1
  have hz1 := hg1.size
  simp only [World.size_alloc] at hz1
  obtain ⟨A1, c1, rfl, hr1⟩ := ho1.form
  have Ho1 : Hid (OwnI w1 (w.heap.size + 1) (.slice A1 xs.length c1) xs) := Lib.hid (by simpa using ho1)
  have HR1 := Lib.hid hr1
  clear ho1 hr1 h64 hc1 hg1
  go_wp2_with fail
  refine (unExpansion_any w1 A1 c1 xs HR1.out (by omega)).mono ?_; rintro e w2 ⟨rfl, hb2⟩
  have HC2 := Lib.hid (HC1.out.below hb2)
  have Ho2 := Lib.hid (Ho1.out.below hb2)
  have hz2 := hb2.size
  clear hb2
  cases hx : expB xs with
  | false =>
    have HC5 := Lib.hid (HC2.out.more (show 100 ≤ 110 by omega))
    have Ho5 := Ho2
    clear hx
    go_wp2_with fail
    refine (pick_any w _ w.heap.size 110 (by omega) _ (by omega) HC5.out).mono ?_; rintro e w6 ⟨jj, rfl, j0, j1, hc6, hg6⟩
    have HC6 := Lib.hid hc6
    have Ho6 := Lib.hid (Ho5.out.grown hg6 (by omega))
    have hz6 := hg6.size
    clear hc6 hg6
    go_wp2_with fail
    refine (pick_any w _ w.heap.size 112 (by omega) (jj + 1) (by omega) HC6.out).mono ?_; rintro e w7 ⟨p, rfl, p0, p1, hc7, hg7⟩
    have HC7 := Lib.hid hc7
    have Ho7 := Lib.hid (Ho6.out.grown hg7 (by omega))
    have hz7 := hg7.size
    clear hc7 hg7
    go_wp2_with fail
    refine (pick_any w _ w.heap.size 114 (by omega) _ (by omega) HC7.out).mono ?_; rintro e w8 ⟨q, rfl, q0, q1, hc8, hg8⟩
    have hbs := hc8.base.2.2
    have Ho8 := Lib.hid (Ho7.out.grown hg8 (by omega))
    have hqd : q.tdiv 8 = q / 8 := Int.tdiv_eq_ediv_of_nonneg (by omega)
    clear hc8 hg8
    obtain ⟨A8, c8, e8, hr8⟩ := Ho8.out.form
    injection e8 with e81 e82 e83
    subst e81 e83
    go_wp2
    go_ret3
    exact ⟨_, _, xs, _, _, rfl, hr8, by omega, H64.out, by omega, by omega, hbs⟩
  | true =>
    by_cases hl0 : 0 < xs.length
    · have hl0i : (0 : Int) < (xs.length : Int) := by omega
      have HE := Lib.hid hx
      clear hx
      go_wp2_with fail
      refine (oneP_any w _ w.heap.size 100 (by omega) _ (by omega) HC2.out).mono ?_; rintro e w3 ⟨o, rfl, hc3, hg3⟩
      have HC3 := Lib.hid hc3
      have Ho3 := Lib.hid (Ho2.out.grown hg3 (by omega))
      have hz3 := hg3.size
      clear hc3 hg3
      cases o with
      | false =>
        have HC5 := Lib.hid (HC3.out.more (show 100 + 2 ≤ 110 by omega))
        have Ho5 := Ho3
        go_wp2_with fail
        refine (pick_any w _ w.heap.size 110 (by omega) _ (by omega) HC5.out).mono ?_; rintro e w6 ⟨jj, rfl, j0, j1, hc6, hg6⟩
        have HC6 := Lib.hid hc6
        have Ho6 := Lib.hid (Ho5.out.grown hg6 (by omega))
        have hz6 := hg6.size
        clear hc6 hg6
        go_wp2_with fail
        refine (pick_any w _ w.heap.size 112 (by omega) (jj + 1) (by omega) HC6.out).mono ?_; rintro e w7 ⟨p, rfl, p0, p1, hc7, hg7⟩
        have HC7 := Lib.hid hc7
        have Ho7 := Lib.hid (Ho6.out.grown hg7 (by omega))
        have hz7 := hg7.size
        clear hc7 hg7
        go_wp2_with fail
        refine (pick_any w _ w.heap.size 114 (by omega) _ (by omega) HC7.out).mono ?_; rintro e w8 ⟨q, rfl, q0, q1, hc8, hg8⟩
        have hbs := hc8.base.2.2
        have Ho8 := Lib.hid (Ho7.out.grown hg8 (by omega))
        have hqd : q.tdiv 8 = q / 8 := Int.tdiv_eq_ediv_of_nonneg (by omega)
        clear hc8 hg8
        obtain ⟨A8, c8, e8, hr8⟩ := Ho8.out.form
        injection e8 with e81 e82 e83
        subst e81 e83
        go_wp2
        go_ret3
        exact ⟨_, _, xs, _, _, rfl, hr8, by omega, H64.out, by omega, by omega, hbs⟩
      | true =>
        go_wp2_with fail
        refine (pick_any w _ w.heap.size 102 (by omega) _ (by omega) HC3.out).mono ?_; rintro e w4 ⟨x, rfl, x0, x1, hc4, hg4⟩
        obtain ⟨j, rfl⟩ := Int.eq_ofNat_of_zero_le x0
        have HC4 := Lib.hid hc4
        have Ho4 := Lib.hid (Ho3.out.grown hg4 (by omega))
        have hz4 := hg4.size
        clear hc4 hg4
        obtain ⟨A4, c4, e4, hr4⟩ := Ho4.out.form
        injection e4 with e41 e42 e43
        subst e41 e43
        obtain ⟨b, o, d, rfl, hb, hd, hcell⟩ := hr4.at_ (k := j) (by omega)
        have hdm := expB_small HE.out d (List.mem_of_getElem? hd)
        have hjl : (j : Int) < (xs.length : Int) := by omega
        have hqd : (3 * d).tdiv 2 = 3 * d / 2 := Int.tdiv_eq_ediv_of_nonneg (by omega)
        have HL := Lib.hid (l1Put_any (w4.alloc (.cells (([7] : List Int).map (Value.int .i64)).toArray 3)) (2 * d + d) (some ⟨w4.heap.size, 0, none⟩) 1 [7] (Reads.lit w4 [7] 1 rfl) (by simp) (by simp))
        clear hd hr4 e42
        go_wp2_with fail
        refine (HL.out).mono ?_; rintro e w5 ⟨A5, c5, rfl, hcap5, hr5, hb5⟩
        have hpl := put_le [7] (2 * d + d)
        have HP1 := Lib.hid (put_in (xs := [7]) (v := 2 * d + d) (by simp) (by omega))
        have HC5 := Lib.hid ((HC4.out.below ((Below.refl _ _).alloc (Nat.le_refl _) _)).below hb5)
        have Hr5 := Lib.hid hr5
        clear HL hr5 hb5
        generalize putL [7] (2 * d + d) = ys at *
        go_wp2_with fail
        refine (l1Put_any w5 (3 * d / 2 * 2) A5 c5 ys Hr5.out (by simp at hpl; omega) hcap5).mono ?_; rintro e w6 ⟨A6, c6, rfl, hcap6, hr6, hb6⟩
        have hpl2 := put_le ys (3 * d / 2 * 2)
        have HP2 := Lib.hid (put_in (v := 3 * d / 2 * 2) HP1.out (by omega))
        have hbs := (HC5.out.below hb6).base.2.2
        have Hr6 := Lib.hid hr6
        clear hr6 hb6
        generalize putL ys (3 * d / 2 * 2) = zs at *
        have hzl : zs.length ≤ 3 := by simp at hpl; omega
        go_wp2
        go_ret3
        exact ⟨_, _, zs, 0, (zs.length : Int) - 1, rfl, Hr6.out, by omega, HP2.out, by omega, by omega, hbs⟩
    · have HC5 := Lib.hid (HC2.out.more (show 100 ≤ 110 by omega))
      have hl1' : ¬ (0 : Int) < (xs.length : Int) := by omega
      have hl2' : decide ((0 : Int) < (xs.length : Int)) = false := decide_eq_false hl1'
      have Ho5 := Ho2
      clear hx
      go_wp2_with fail
      refine (pick_any w _ w.heap.size 110 (by omega) _ (by omega) HC5.out).mono ?_; rintro e w6 ⟨jj, rfl, j0, j1, hc6, hg6⟩
      have HC6 := Lib.hid hc6
      have Ho6 := Lib.hid (Ho5.out.grown hg6 (by omega))
      have hz6 := hg6.size
      clear hc6 hg6
      go_wp2_with fail
      refine (pick_any w _ w.heap.size 112 (by omega) (jj + 1) (by omega) HC6.out).mono ?_; rintro e w7 ⟨p, rfl, p0, p1, hc7, hg7⟩
      have HC7 := Lib.hid hc7
      have Ho7 := Lib.hid (Ho6.out.grown hg7 (by omega))
      have hz7 := hg7.size
      clear hc7 hg7
      go_wp2_with fail
      refine (pick_any w _ w.heap.size 114 (by omega) _ (by omega) HC7.out).mono ?_; rintro e w8 ⟨q, rfl, q0, q1, hc8, hg8⟩
      have hbs := hc8.base.2.2
      have Ho8 := Lib.hid (Ho7.out.grown hg8 (by omega))
      have hqd : q.tdiv 8 = q / 8 := Int.tdiv_eq_ediv_of_nonneg (by omega)
      clear hc8 hg8
      obtain ⟨A8, c8, e8, hr8⟩ := Ho8.out.form
      injection e8 with e81 e82 e83
      subst e81 e83
      go_wp2
      go_ret3
      exact ⟨_, _, xs, _, _, rfl, hr8, by omega, H64.out, by omega, by omega, hbs⟩
end Go.Proofs.Ytbjblkfibinenaa
