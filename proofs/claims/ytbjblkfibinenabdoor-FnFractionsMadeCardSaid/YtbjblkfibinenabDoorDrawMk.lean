
/-
  Contracts of the draws of two numbers and of a text of a fraction.
-/
import Derived.Test.YtbjblkfibinenabDoorDrawS
namespace Go.Proofs.YtbjblkfibinenabDoor
open Go.RowKit
def DrawNN (w : World) (e : Ending) (w' : World) : Prop := ∃ n d : Int, e = .returned (.tuple #[.int .i64 n, .int .i64 d]) ∧ (-9223372036854775808 ≤ n ∧ n ≤ 9223372036854775807) ∧ (-9223372036854775808 ≤ d ∧ d ≤ 9223372036854775807) ∧ Below w.heap.size w w'
def DrawS1 (w : World) (e : Ending) (w' : World) : Prop := ∃ s : ByteArray, e = .returned (.string s) ∧ s.size ≤ 1000 ∧ Below w.heap.size w w'
theorem mul_in {x y : Int} (h0 : 0 ≤ x) (h1 : x ≤ 1000000) (h2 : 0 ≤ y) (h3 : y ≤ 1000000) : 0 ≤ x * y ∧ x * y ≤ 1000000000000 :=
  ⟨Int.mul_nonneg h0 h2, by have := Int.mul_le_mul h1 h3 h2 (by omega : (0 : Int) ≤ 1000000); omega⟩
set_option maxHeartbeats 4000000 in
theorem drawMake_any (w : World) (A : Option Addr) (n c : Nat) (hr : ReadsB w A n) (hn : n ≤ 1048576) : Calls Tryd.prog 20 #[.slice A n c] w (DrawNN w) := by
  have HC0 := Lib.hid (Cur.start w A n c 67 hr hn)
  clear hr
  go_enter Tryd.func20, Tryd.ntmps20
  go_wp2_with fail
  refine (pick_any w _ w.heap.size 0 (by omega) _ (by omega) HC0.out).mono ?_; rintro e w1 ⟨x, rfl, x0, x1, hc1, hg1⟩
  have HC1 := Lib.hid hc1
  have hz1 := hg1.size
  simp only [World.size_alloc] at hz1
  clear hg1 hc1
  by_cases e0 : x = 0
  · subst e0
    go_wp2_with fail
    refine (among_any w _ w.heap.size 2 (by omega) (-1) 1000000000000000001 _ 5 [-1, 0, 7, 1000000000000000000, 1000000000000000001] (Reads.lit w1 _ 5 rfl) (by simp) (by simp) (by simp) (fun a ha => by injection ha with ha; subst ha; show w1.heap.size ≠ w.heap.size; omega) (fun z hz => by simp only [List.mem_cons, List.not_mem_nil, or_false] at hz; omega) (HC1.out.below ((Below.refl _ _).alloc (Nat.le_refl _) _))).mono ?_; rintro e w2 ⟨y, rfl, y0, y1, hc2, hg2⟩
    have HC2 := Lib.hid hc2
    have hz2 := hg2.size
    simp only [World.size_alloc] at hz2
    clear hg2 hc2
    go_wp2_with fail
    refine (among_any w _ w.heap.size 4 (by omega) (-1) 1000000000000000001 _ 5 [-1, 0, 1, 1000000000000000000, 1000000000000000001] (Reads.lit w2 _ 5 rfl) (by simp) (by simp) (by simp) (fun a ha => by injection ha with ha; subst ha; show w2.heap.size ≠ w.heap.size; omega) (fun z hz => by simp only [List.mem_cons, List.not_mem_nil, or_false] at hz; omega) (HC2.out.below ((Below.refl _ _).alloc (Nat.le_refl _) _))).mono ?_; rintro e w3 ⟨z, rfl, z0, z1, hc3, hg3⟩
    have Hb3 := Lib.hid hc3.base.2.2
    clear hg3 hc3
    go_wp2
    go_ret2
    exact ⟨y, z, rfl, by omega, by omega, Hb3.out⟩
  · by_cases e1 : x = 1
    · subst e1
      go_wp2_with fail
      refine (pick_any w _ w.heap.size 2 (by omega) _ (by omega) HC1.out).mono ?_; rintro e w2 ⟨y, rfl, y0, y1, hc2, hg2⟩
      have HC2 := Lib.hid hc2
      clear hg2 hc2
      go_wp2_with fail
      refine (pick_any w _ w.heap.size 4 (by omega) _ (by omega) HC2.out).mono ?_; rintro e w3 ⟨z, rfl, z0, z1, hc3, hg3⟩
      have HC3 := Lib.hid hc3
      have p1 := mul_in (x := 1 + y) (y := z) (by omega) (by omega) (by omega) (by omega)
      clear hg3 hc3
      go_wp2_with fail
      refine (pick_any w _ w.heap.size 6 (by omega) _ (by omega) HC3.out).mono ?_; rintro e w4 ⟨u, rfl, u0, u1, hc4, hg4⟩
      have Hb4 := Lib.hid hc4.base.2.2
      have p2 := mul_in (x := 1 + y) (y := 1 + u) (by omega) (by omega) (by omega) (by omega)
      clear hg4 hc4
      go_wp2
      go_ret2
      exact ⟨_, _, rfl, by omega, by omega, Hb4.out⟩
    · have f0 : (x == 0) = false := by simp [e0]
      have f1 : (x == 1) = false := by simp [e1]
      clear e0 e1
      go_wp2_with fail
      refine (pick_any w _ w.heap.size 2 (by omega) _ (by omega) HC1.out).mono ?_; rintro e w2 ⟨y, rfl, y0, y1, hc2, hg2⟩
      have HC2 := Lib.hid hc2
      clear hg2 hc2
      go_wp2_with fail
      refine (pick_any w _ w.heap.size 4 (by omega) _ (by omega) HC2.out).mono ?_; rintro e w3 ⟨z, rfl, z0, z1, hc3, hg3⟩
      have Hb3 := Lib.hid hc3.base.2.2
      clear hg3 hc3
      go_wp2
      go_ret2
      exact ⟨_, _, rfl, by omega, by omega, Hb3.out⟩
def wordsF : List (List UInt8) := [[], [47], [49, 47, 48], [50, 47, 52], [48, 49], [49, 47, 48, 49], [45, 49], [49, 48, 48, 48, 48, 48, 48, 48, 48, 49], [49, 47, 49], [49, 48, 48, 48, 48, 48, 48, 48, 48, 48, 48]]
theorem wordsF_at (w : World) : ReadsW (w.alloc (.cells (wordsF.map fun l => Value.string ⟨l.toArray⟩).toArray 9)) w.heap.size wordsF :=
  ⟨by simp, fun k l hl => by
    have : (wordsF.map fun l => Value.string ⟨l.toArray⟩).toArray[k]? = some (.string ⟨l.toArray⟩) := by simp [hl]
    simp [this]⟩
theorem text_len40 (a b : Int) (h : goodB a b = true) : (textF a b).length ≤ 41 := by
  obtain ⟨g1, g2, g3, g4⟩ := good_bounds h
  have h1 := dec_len20 a (by omega) (by omega)
  have h2 := dec_len20 b (by omega) (by omega)
  unfold textF
  split
  · omega
  · simp only [List.length_append, List.length_singleton]; omega
set_option maxRecDepth 100000 in
set_option maxHeartbeats 8000000 in
theorem drawParse_any (w : World) (A : Option Addr) (n c : Nat) (hr : ReadsB w A n) (hn : n ≤ 1048576) : Calls Tryd.prog 23 #[.slice A n c] w (DrawS1 w) := by
  have HC0 := Lib.hid (Cur.start w A n c 67 hr hn)
  clear hr
  go_enter Tryd.func23, Tryd.ntmps23
  go_wp2_with fail
  refine (fraction_any w _ w.heap.size 0 (by omega) HC0.out).mono ?_; rintro e w1 ⟨a, b, rfl, ha, hb, hc1, hg1⟩
  have HC1 := Lib.hid (hc1.below ((Below.refl _ _).alloc (Nat.le_refl _) (.cells #[.int .i64 (a), .int .i64 (b)] 26)))
  have hz1 := hg1.size
  simp only [World.size_alloc] at hz1
  have TA := Lib.hid (TwoAt.new w1 (a) (b) 26)
  clear hg1 hc1
  obtain ⟨oA1, oA2, oA3, oA4, oA5⟩ := TA.out
  go_wp2_with fail
  refine (unGood_any a b _).mono ?_; rintro e w2 ⟨rfl, hb2⟩; have hz2 := hb2.size; (try simp only [World.size_alloc] at hz2)
  clear oA1 oA2 oA3 oA4 oA5
  have TA := Lib.hid (TA.out.below hb2)
  have HC2 := Lib.hid (HC1.out.below hb2)
  cases hg : goodB a b with
  | false =>
    have Hw := Lib.hid (wordsF_at w2)
    have HC2' := Lib.hid (HC2.out.below ((Below.refl _ _).alloc (Nat.le_refl _) (.cells (wordsF.map fun l => Value.string ⟨l.toArray⟩).toArray 9)))
    go_wp2_with fail
    refine (of_any w _ w.heap.size 20 w2.heap.size 10 20 10 wordsF rfl (by omega) (by omega) (by omega) Hw.out (by omega) (by decide) HC2'.out).mono ?_; rintro e w3 ⟨s, rfl, hs, hc3, hg3⟩
    have Hb3 := Lib.hid hc3.base.2.2
    clear hg3 hc3
    go_wp2
    go_ret
    exact ⟨s, rfl, by omega, Hb3.out⟩
  | true =>
    obtain ⟨g1, g2, g3, g4⟩ := good_bounds hg
    have hl41 := text_len40 a b hg
    clear hg
    obtain ⟨oA1, oA2, oA3, oA4, oA5⟩ := TA.out
    go_wp2_with fail
    refine (unText_any a b _ g1 g2 g3 g4).mono ?_; rintro e w3 ⟨rfl, hb3⟩; have hz3 := hb3.size; (try simp only [World.size_alloc, World.size_setCell, World.size_drew, World.heap_drewN] at hz3)
    clear oA1 oA2 oA3 oA4 oA5
    have HC3 := Lib.hid (HC2.out.below hb3)
    go_wp2_with fail
    refine (one_any w _ w.heap.size 20 (by omega) _ (by omega) HC3.out).mono ?_; rintro e w4 ⟨o, rfl, hc4, hg4⟩
    have HC4 := Lib.hid hc4
    clear hg4 hc4
    have hts : (⟨(textF a b).toArray⟩ : ByteArray).size ≤ 41 := by rw [mk_size]; exact hl41
    cases o with
    | true =>
      go_wp2_with fail
      refine (spoilt_any w _ w.heap.size 22 _ _ (by omega) (by omega) (by decide) (by decide) HC4.out).mono ?_; rintro e w5 ⟨s, rfl, hs, hc5, hg5⟩
      have Hb5 := Lib.hid hc5.base.2.2
      clear hg5 hc5
      go_wp2
      go_ret
      exact ⟨s, rfl, by omega, Hb5.out⟩
    | false =>
      have Hb4 := Lib.hid HC4.out.base.2.2
      go_wp2
      go_ret
      exact ⟨_, rfl, by omega, Hb4.out⟩
end Go.Proofs.YtbjblkfibinenabDoor
