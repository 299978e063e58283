import Derived.Test.YthkchhjidihkpabPt1
import Derived.Test.YthkchhjidihkpabPt2
import Derived.Test.YthkchhjidihkpabPk12
import Derived.Test.YthkchhjidihkpabPt3
import Derived.Test.YthkchhjidihkpabPk1
import Derived.Test.YthkchhjidihkpabPk20

/-
  For all bytes: the expansion of two parts of an odd number has this sum, two terms that divide the product with its base, and is made of the base, which is more than half of the number; what is told is the model's. No condition.
-/
namespace Go.Proofs.Ythkchhjidihkpab
open Go.ChangeShapes Go.WideShapes Go.ChangeAt Go.RowKit Go.Joins Go.Deep
set_option maxHeartbeats 2000000 in
theorem zSame_any (w : World) (A B : Option Addr) (c d : Nat) (xs ys : List Int) (ha : Reads w A xs) (hb : Reads w B ys) (hl : xs.length ≤ 1048576) (_ : ys.length ≤ 1048576) :
    Calls Try.prog 32 #[.slice A xs.length c, .slice B ys.length d] w (RetQ (.bool (decide (xs = ys))) w) := by
  have HA := Lib.hid ha
  have HB := Lib.hid hb
  clear ha hb
  by_cases hlen : xs.length = ys.length
  · have h1 : xs.length ≤ ys.length := by omega
    have h2 : ys.length ≤ xs.length := by omega
    have Hlen := Lib.hid hlen
    have hne : (((xs.length : Nat) : Int) != ((ys.length : Nat) : Int)) = false := by simp; omega
    clear hlen
    go_enter Try.func32, Try.ntmps32
    go_wp2
    go_loopw [13] (fun v13 wr => ∃ k : Nat, k ≤ xs.length ∧ v13 = .int .i64 k ∧ xs.take k = ys.take k ∧ ∃ n, wr = w.drewN n) (fun v13 _ => xs.length - (intOf v13).toNat)
    case atStart => exact ⟨0, Nat.zero_le _, rfl, by simp, 0, rfl⟩
    case round =>
      obtain ⟨k, hk, rfl, ht, n, rfl⟩ := hrel
      have HT := Lib.hid ht
      clear ht
      by_cases hlt : k < xs.length
      · obtain ⟨b, o, x, rfl, _, hx, hcell⟩ := HA.out.at_ hlt
        obtain ⟨b', o', y, rfl, _, hy, hcell'⟩ := HB.out.at_ (show k < ys.length by omega)
        have hki : (k : Int) < (xs.length : Int) := by omega
        have hki2 : (k : Int) < (ys.length : Int) := by omega
        by_cases hxy : x = y
        · subst hxy
          have HT2 : Hid (xs.take (k + 1) = ys.take (k + 1)) := Lib.hid (by
            rw [List.take_add_one, List.take_add_one, HT.out, hx, hy])
          clear hx hy
          go_wp2
          go_quiet (fail)
          go_wp2
          go_roundw
          case rel => exact ⟨k + 1, by omega, by go_num, HT2.out, _, rfl⟩
          case measure => simp [intOf]; omega
        · have E : Hid (decide (xs = ys) = false) := Lib.hid (by
            refine decide_eq_false fun e => hxy ?_
            rw [e, hy] at hx
            injection hx with hx
            exact hx.symm)
          have hnb : (x != y) = true := by simp [hxy]
          clear hx hy hxy
          go_wp2
          go_quiet (fail)
          go_wp2
          go_ret
          exact ⟨ret_bool E.out.symm, _, World.drewN_drewN _ _ _⟩
      · obtain rfl : k = xs.length := by omega
        have E : Hid (decide (xs = ys) = true) := Lib.hid (by
          refine decide_eq_true ?_
          have := HT.out
          rw [List.take_length, Hlen.out, List.take_length] at this
          exact this)
        go_wp2
        go_ret
        exact ⟨ret_bool E.out.symm, n, rfl⟩
  · have E : Hid (decide (xs = ys) = false) := Lib.hid (decide_eq_false fun e => hlen (by rw [e]))
    have hne : (((xs.length : Nat) : Int) != ((ys.length : Nat) : Int)) = true := by simp; omega
    clear hlen
    go_enter Try.func32, Try.ntmps32
    go_wp2
    go_ret
    exact ⟨ret_bool E.out.symm, 0, rfl⟩
set_option maxHeartbeats 1000000 in
theorem zHas_any (w : World) (v : Int) (Axs : Option Addr) (cxs : Nat) (xs : List Int) (hxs : Reads w Axs xs) (lxs : xs.length ≤ 1048576) : Calls Try.prog 35 #[.slice Axs xs.length cxs, .int .i64 v] w (RetQ (.bool (hasB xs v)) w) := by
  go_enter Try.func35, Try.ntmps35
  go_wp2
  go_loopw [9] (fun v8 wr => ∃ k : Nat, k ≤ xs.length ∧ v8 = .int .i64 k ∧ hasB xs v = hasB (xs.drop k) v ∧ ∃ n, wr = w.drewN n) (fun v8 _ => xs.length - (intOf v8).toNat)
  case atStart => exact ⟨0, Nat.zero_le _, rfl, rfl, 0, rfl⟩
  case round =>
    obtain ⟨k, hk, rfl, hr, n, rfl⟩ := hrel
    have Hr := Lib.hid hr
    clear hr
    by_cases hlt : k < xs.length
    · obtain ⟨b, o, x, rfl, hb, hx, hcell⟩ := hxs.at_ hlt
      have Hx := Lib.hid hx
      clear hx
      by_cases he : x = v
      · have hee : (x == v) = true := by simp [he]
        have He := Lib.hid he
        clear he
        go_wp2
        go_ret
        exact ⟨ret_bool (by rw [Hr.out, drop_at Hx.out, has_hit He.out]), n, rfl⟩
      · have hee : (x == v) = false := by simp; omega
        have He := Lib.hid he
        clear he
        go_wp2
        go_roundw
        case rel => exact ⟨k + 1, by omega, by go_num, by rw [Hr.out, drop_at Hx.out, has_miss He.out], n, rfl⟩
        case measure => simp [intOf]; omega
    · obtain rfl : k = xs.length := by omega
      go_wp2
      go_ret
      exact ⟨ret_bool (by rw [Hr.out, drop_all]; rfl), n, rfl⟩
set_option maxHeartbeats 4000000 in
theorem drawTwoOver_any (w : World) (A : Option Addr) (n c : Nat) (hr : ReadsB w A n) (hn : n ≤ 1048576) : Calls Try.prog 31 #[.slice A n c] w (fun e w' => ∃ x : Int, e = .returned (.int .i64 x) ∧ -3 ≤ x ∧ x ≤ 1000 ∧ Below w.heap.size w w') := by
  have HC0 := Lib.hid (beginP w A n c 70 hr hn)
  clear hr
  go_enter Try.func31, Try.ntmps31
  go_wp2_with fail
  refine (oneP_any w _ w.heap.size 0 (by omega) _ (by omega) HC0.out).mono ?_; rintro e w1 ⟨o, rfl, hc1, hg1⟩
  have HC1 := Lib.hid hc1
  have hz1 := hg1.size
  simp only [World.size_alloc] at hz1
  clear hg1 hc1
  cases o with
  | true =>
    go_wp2_with fail
    refine (among_any w _ w.heap.size 2 (by omega) (-3) 203 _ 6 [1, 2, 4, -3, 201, 203] (Reads.lit w1 _ 6 rfl) (by simp) (by simp) (by simp) (fun a ha => by injection ha with ha; subst ha; show w1.heap.size ≠ w.heap.size; omega) (fun z hz => by simp only [List.mem_cons, List.not_mem_nil, or_false] at hz; omega) (HC1.out.below ((Below.refl _ _).alloc (Nat.le_refl _) _))).mono ?_; rintro e w2 ⟨y, rfl, y0, y1, hc2, hg2⟩
    have Hb2 := Lib.hid hc2.base.2.2
    clear hg2 hc2
    go_wp2
    go_ret
    exact ⟨y, rfl, by omega, by omega, Hb2.out⟩
  | false =>
    go_wp2_with fail
    refine (among_any w _ w.heap.size 2 (by omega) 10 100 _ 3 [10, 50, 100] (Reads.lit w1 _ 3 rfl) (by simp) (by simp) (by simp) (fun a ha => by injection ha with ha; subst ha; show w1.heap.size ≠ w.heap.size; omega) (fun z hz => by simp only [List.mem_cons, List.not_mem_nil, or_false] at hz; omega) (HC1.out.below ((Below.refl _ _).alloc (Nat.le_refl _) _))).mono ?_; rintro e w2 ⟨y, rfl, y0, y1, hc2, hg2⟩
    have HC2 := Lib.hid hc2
    clear hg2 hc2
    go_wp2_with fail
    refine (pick_any w _ w.heap.size 4 (by omega) _ (by omega) HC2.out).mono ?_; rintro e w3 ⟨z, rfl, z0, z1, hc3, hg3⟩
    have Hb3 := Lib.hid hc3.base.2.2
    have hz100 : z ≤ 100 := by omega
    clear hg3 hc3
    go_wp2
    go_ret
    exact ⟨_, rfl, by omega, by omega, Hb3.out⟩
set_option maxRecDepth 100000 in
set_option maxHeartbeats 8000000 in
theorem FnTwoOverOdds_walk (w : World) (A : Option Addr) (c n : Nat) (B : Option Addr) (d m' : Nat) (hA : ReadsB w A n ∧ n ≤ 9223372036854775807) (hB : ReadsB w B m' ∧ m' ≤ 9223372036854775807) :
    Calls Try.prog 9 #[.slice A n c, .slice B m' d] w (Ret (.bool true) w) := by
  obtain ⟨hA, hn⟩ := hA
  obtain ⟨hB, hm'⟩ := hB
  have HA := Lib.hid hA
  clear hA hB
  cases hbig : bigB n m' with
  | true =>
    go_enter Try.func9, Try.ntmps9
    go_wp2_with fail
    refine (big_any _ _ _ _ _ _ _ hn hm').mono ?_; rintro e w1 ⟨rfl, k1, rfl⟩
    go_wp2
    go_ret
    exact ⟨rfl, by (repeat' (first | (with_reducible exact Below.refl _ _) | (with_reducible assumption) | (with_reducible refine Below.drew ?_) | (with_reducible refine belowDrewN ?_ _) | (with_reducible refine Below.alloc ?_ ?_ _) | (with_reducible refine Below.setCell ?_ ?_ _) | (with_reducible refine belowStep (by assumption) ?_ ?_) | (with_reducible exact Below.size (by assumption)) | go_size))⟩
  | false =>
    have hn2 : n ≤ 1048576 := by
      simp only [bigB, Bool.or_eq_false_iff, decide_eq_false_iff_not] at hbig
      omega
    have HDR := Lib.hid fun (w' : World) (h : Below w.heap.size w w') => drawTwoOver_any w' A n c (HA.out.below h) hn2
    have HBG := Lib.hid fun (w : World) => big_any w A B n m' c d hn hm'
    rw [hbig] at HBG
    go_enter Try.func9, Try.ntmps9
    go_wp2_with fail
    refine (HBG.out _).mono ?_; rintro e w1 ⟨rfl, k1, rfl⟩
    go_wp2_with fail
    refine (HDR.out _ (by (repeat' (first | (with_reducible exact Below.refl _ _) | (with_reducible assumption) | (with_reducible refine Below.drew ?_) | (with_reducible refine belowDrewN ?_ _) | (with_reducible refine Below.alloc ?_ ?_ _) | (with_reducible refine Below.setCell ?_ ?_ _) | (with_reducible refine belowStep (by assumption) ?_ ?_) | (with_reducible exact Below.size (by assumption)) | go_size)))).mono ?_; rintro e w2 ⟨x, rfl, x0, x1, hb2⟩
    have hz2 := hb2.size
    (try simp only [World.heap_drewN] at hz2)
    clear hbig HDR HBG
    have I1 := Lib.hid fun (w : World) => twoOver_any x w ⟨by omega, by omega⟩
    have I2 := Lib.hid fun (w : World) => spec_twoOver_any x w
    have I3 := Lib.hid fun (w : World) => twoOverBase_any x w ⟨by omega, by omega⟩
    have I4 := Lib.hid fun (w : World) => spec_twoOverBase_any x w
    rcases two_told (n := x) with ⟨e1, e2⟩ | ⟨m, ts, e1, e2, f1, f2, f3, f4, f5, f6, g1, g2, g3, g4⟩
    · rw [e1] at I3 I4
      rw [e2] at I1 I2
      simp only [Option.getD_none, Option.isSome_none] at I1 I2 I3 I4
      clear e1 e2
      have HZ : Hid (∀ w A B c d, Reads w A [] → Reads w B [] → Calls Try.prog 32 #[.slice A 0 c, .slice B 0 d] w (RetQ (.bool true) w)) := Lib.hid fun w A B c d ha hb => by
        have := zSame_any w A B c d [] [] ha hb (by simp) (by simp)
        rwa [decide_eq_true rfl] at this
      go_wp2_with fail
      refine (I1.out _).mono ?_; rintro e w3 ⟨v3, rfl, ho3, hb3⟩; have hz3 := hb3.size; (try simp only [World.size_alloc, World.size_setCell, World.size_drew, World.heap_drewN] at hz3)
      obtain ⟨A3, c3, rfl, hr3⟩ := ho3.form
      go_wp2_with fail
      refine (I2.out _).mono ?_; rintro e w4 ⟨A4, c4, rfl, hr4, hb4⟩; have hz4 := hb4.size; (try simp only [World.size_alloc, World.size_setCell, World.size_drew, World.heap_drewN] at hz4)
      go_wp2_with fail
      refine (I3.out _).mono ?_; rintro e w5 ⟨rfl, hb5⟩; have hz5 := hb5.size; (try simp only [World.size_alloc, World.size_setCell, World.size_drew, World.heap_drewN] at hz5)
      go_wp2_with fail
      refine (I4.out _).mono ?_; rintro e w6 ⟨rfl, hb6⟩; have hz6 := hb6.size; (try simp only [World.size_alloc, World.size_setCell, World.size_drew, World.heap_drewN] at hz6)
      go_wp2_with fail
      refine (HZ.out _ _ _ _ _ (hr3.below (by (repeat' (first | (with_reducible exact Below.refl _ _) | (with_reducible assumption) | (with_reducible refine Below.drew ?_) | (with_reducible refine belowDrewN ?_ _) | (with_reducible refine Below.alloc ?_ ?_ _) | (with_reducible refine Below.setCell ?_ ?_ _) | (with_reducible refine belowStep (by assumption) ?_ ?_) | (with_reducible exact Below.size (by assumption)) | go_size)))) (hr4.below (by (repeat' (first | (with_reducible exact Below.refl _ _) | (with_reducible assumption) | (with_reducible refine Below.drew ?_) | (with_reducible refine belowDrewN ?_ _) | (with_reducible refine Below.alloc ?_ ?_ _) | (with_reducible refine Below.setCell ?_ ?_ _) | (with_reducible refine belowStep (by assumption) ?_ ?_) | (with_reducible exact Below.size (by assumption)) | go_size))))).mono ?_; rintro e w7 ⟨rfl, k7, rfl⟩
      go_wp2
      go_ret
      exact ⟨rfl, by (repeat' (first | (with_reducible exact Below.refl _ _) | (with_reducible assumption) | (with_reducible refine Below.drew ?_) | (with_reducible refine belowDrewN ?_ _) | (with_reducible refine Below.alloc ?_ ?_ _) | (with_reducible refine Below.setCell ?_ ?_ _) | (with_reducible refine belowStep (by assumption) ?_ ?_) | (with_reducible exact Below.size (by assumption)) | go_size))⟩
    · rw [e1] at I3 I4
      rw [e2] at I1 I2
      simp only [Option.getD_some, Option.isSome_some] at I1 I2 I3 I4
      have hlt : ts.length ≤ 1048576 := by omega
      have HZ : Hid (∀ w A B c d, Reads w A ts → Reads w B ts → Calls Try.prog 32 #[.slice A ts.length c, .slice B ts.length d] w (RetQ (.bool true) w)) := Lib.hid fun w A B c d ha hb => by
        have := zSame_any w A B c d ts ts ha hb hlt hlt
        rwa [decide_eq_true rfl] at this
      have HSM : Hid (∀ w A c, Reads w A ts → Calls Try.prog 33 #[.slice A ts.length c] w (Ret (.tuple #[.agg #[.int .i64 2, .int .i64 x], .bool true]) w)) := Lib.hid fun w A c h => by
        have := sumOf_yes w A c ts h hlt (fun i y hy => by have := expB_small f1 y (List.mem_of_getElem? hy); omega) f1
        rwa [f2, f3] at this
      have hg2x : goodB 2 x = true := by
        have := two_good ((x.toNat - 3) / 2) (by omega)
        obtain ⟨o1, o2, o3⟩ : 3 ≤ x ∧ x ≤ 201 ∧ x % 2 = 1 := (oddB_iff x).1 (by
          unfold baO at e1
          split at e1
          · assumption
          · cases e1)
        rwa [show 2 * (((x.toNat - 3) / 2 : Nat) : Int) + 3 = x from by omega] at this
      have HMK : Hid (∀ w, Calls Try.prog 34 #[.int .i64 2, .int .i64 x] w (Ret (.tuple #[.agg #[.int .i64 2, .int .i64 x], .bool true]) w)) := Lib.hid fun w => by
        have hgg := ((goodB_iff 2 x).1 hg2x).2.2.2.2
        obtain ⟨r1, r2⟩ := red_one hgg
        have hrb : redB 2 x = true := redB_yes (by rw [r1]; omega) (by rw [r2]; omega)
        have := make_yes 2 x w (by omega) (by omega) (by omega) (by omega)
        have q1 : redN 2 x = 2 := by unfold redN; rw [if_pos hrb, r1]
        have q2 : redD 2 x = x := by unfold redD; rw [if_pos hrb, r2]
        rwa [q1, q2, hrb] at this
      have HH : Hid (∀ w A c, Reads w A ts → Calls Try.prog 35 #[.slice A ts.length c, .int .i64 m] w (RetQ (.bool true) w)) := Lib.hid fun w A c h => by
        have := zHas_any w m A c ts h hlt
        rwa [f4] at this
      have HF5 := Lib.hid f5
      have HES := Lib.hid fun t (ht : t ∈ ts) => (expB_small f1 t ht).2
      have p1 := mul_bounds (show 0 ≤ m by omega) (show m ≤ 1000000000 by omega) (show 0 ≤ x by omega) (show x ≤ 1000000000 by omega)
      have hl2 : ((ts.length : Int) != 2) = false := by rw [f6]; rfl
      have hl3 : ts.length ≤ 2 := by omega
      clear e1 e2 f1 f2 f3 f4 f5 f6 hg2x
      go_wp2_with fail
      refine (I1.out _).mono ?_; rintro e w3 ⟨v3, rfl, ho3, hb3⟩; have hz3 := hb3.size; (try simp only [World.size_alloc, World.size_setCell, World.size_drew, World.heap_drewN] at hz3)
      obtain ⟨A3, c3, rfl, hr3⟩ := ho3.form
      go_wp2_with fail
      refine (I2.out _).mono ?_; rintro e w4 ⟨A4, c4, rfl, hr4, hb4⟩; have hz4 := hb4.size; (try simp only [World.size_alloc, World.size_setCell, World.size_drew, World.heap_drewN] at hz4)
      go_wp2_with fail
      refine (I3.out _).mono ?_; rintro e w5 ⟨rfl, hb5⟩; have hz5 := hb5.size; (try simp only [World.size_alloc, World.size_setCell, World.size_drew, World.heap_drewN] at hz5)
      go_wp2_with fail
      refine (I4.out _).mono ?_; rintro e w6 ⟨rfl, hb6⟩; have hz6 := hb6.size; (try simp only [World.size_alloc, World.size_setCell, World.size_drew, World.heap_drewN] at hz6)
      go_wp2_with fail
      refine (HZ.out _ _ _ _ _ (hr3.below (by (repeat' (first | (with_reducible exact Below.refl _ _) | (with_reducible assumption) | (with_reducible refine Below.drew ?_) | (with_reducible refine belowDrewN ?_ _) | (with_reducible refine Below.alloc ?_ ?_ _) | (with_reducible refine Below.setCell ?_ ?_ _) | (with_reducible refine belowStep (by assumption) ?_ ?_) | (with_reducible exact Below.size (by assumption)) | go_size)))) (hr4.below (by (repeat' (first | (with_reducible exact Below.refl _ _) | (with_reducible assumption) | (with_reducible refine Below.drew ?_) | (with_reducible refine belowDrewN ?_ _) | (with_reducible refine Below.alloc ?_ ?_ _) | (with_reducible refine Below.setCell ?_ ?_ _) | (with_reducible refine belowStep (by assumption) ?_ ?_) | (with_reducible exact Below.size (by assumption)) | go_size))))).mono ?_; rintro e w7 ⟨rfl, k7, rfl⟩
      go_wp2_with fail
      refine (HSM.out _ _ _ (hr3.below (by (repeat' (first | (with_reducible exact Below.refl _ _) | (with_reducible assumption) | (with_reducible refine Below.drew ?_) | (with_reducible refine belowDrewN ?_ _) | (with_reducible refine Below.alloc ?_ ?_ _) | (with_reducible refine Below.setCell ?_ ?_ _) | (with_reducible refine belowStep (by assumption) ?_ ?_) | (with_reducible exact Below.size (by assumption)) | go_size))))).mono ?_; rintro e w8 ⟨rfl, hb8⟩; obtain ⟨hc8, hf8⟩ := bcellB hb8; have hz8 := hb8.size; (try simp only [World.heap_drewN] at hc8 hf8 hz8); (try have hy8_r_0 : wr.heap.size < w8.heap.size := by omega); (try have hn8_r_0 : wr.heap.size ≠ w8.heap.size := by omega); (try have hm8_r_0 : w8.heap.size ≠ wr.heap.size := by omega); (try have hy8_r_1 : wr.heap.size + 1 < w8.heap.size := by omega); (try have hn8_r_1 : wr.heap.size + 1 ≠ w8.heap.size := by omega); (try have hm8_r_1 : w8.heap.size ≠ wr.heap.size + 1 := by omega); (try have hy8_r_2 : wr.heap.size + 1 + 1 < w8.heap.size := by omega); (try have hp8_r_1 : wr.heap.size < w8.heap.size + 1 := by omega); (try have hp8_r_2 : wr.heap.size < w8.heap.size + 1 + 1 := by omega); (try have hy8_0_0 : w.heap.size < w8.heap.size := by omega); (try have hn8_0_0 : w.heap.size ≠ w8.heap.size := by omega); (try have hm8_0_0 : w8.heap.size ≠ w.heap.size := by omega); (try have hy8_0_1 : w.heap.size + 1 < w8.heap.size := by omega); (try have hn8_0_1 : w.heap.size + 1 ≠ w8.heap.size := by omega); (try have hm8_0_1 : w8.heap.size ≠ w.heap.size + 1 := by omega); (try have hy8_0_2 : w.heap.size + 1 + 1 < w8.heap.size := by omega); (try have hp8_0_1 : w.heap.size < w8.heap.size + 1 := by omega); (try have hp8_0_2 : w.heap.size < w8.heap.size + 1 + 1 := by omega); (try have hy8_1_0 : w1.heap.size < w8.heap.size := by omega); (try have hn8_1_0 : w1.heap.size ≠ w8.heap.size := by omega); (try have hm8_1_0 : w8.heap.size ≠ w1.heap.size := by omega); (try have hy8_1_1 : w1.heap.size + 1 < w8.heap.size := by omega); (try have hn8_1_1 : w1.heap.size + 1 ≠ w8.heap.size := by omega); (try have hm8_1_1 : w8.heap.size ≠ w1.heap.size + 1 := by omega); (try have hy8_1_2 : w1.heap.size + 1 + 1 < w8.heap.size := by omega); (try have hp8_1_1 : w1.heap.size < w8.heap.size + 1 := by omega); (try have hp8_1_2 : w1.heap.size < w8.heap.size + 1 + 1 := by omega); (try have hy8_2_0 : w2.heap.size < w8.heap.size := by omega); (try have hn8_2_0 : w2.heap.size ≠ w8.heap.size := by omega); (try have hm8_2_0 : w8.heap.size ≠ w2.heap.size := by omega); (try have hy8_2_1 : w2.heap.size + 1 < w8.heap.size := by omega); (try have hn8_2_1 : w2.heap.size + 1 ≠ w8.heap.size := by omega); (try have hm8_2_1 : w8.heap.size ≠ w2.heap.size + 1 := by omega); (try have hy8_2_2 : w2.heap.size + 1 + 1 < w8.heap.size := by omega); (try have hp8_2_1 : w2.heap.size < w8.heap.size + 1 := by omega); (try have hp8_2_2 : w2.heap.size < w8.heap.size + 1 + 1 := by omega); (try have hy8_3_0 : w3.heap.size < w8.heap.size := by omega); (try have hn8_3_0 : w3.heap.size ≠ w8.heap.size := by omega); (try have hm8_3_0 : w8.heap.size ≠ w3.heap.size := by omega); (try have hy8_3_1 : w3.heap.size + 1 < w8.heap.size := by omega); (try have hn8_3_1 : w3.heap.size + 1 ≠ w8.heap.size := by omega); (try have hm8_3_1 : w8.heap.size ≠ w3.heap.size + 1 := by omega); (try have hy8_3_2 : w3.heap.size + 1 + 1 < w8.heap.size := by omega); (try have hp8_3_1 : w3.heap.size < w8.heap.size + 1 := by omega); (try have hp8_3_2 : w3.heap.size < w8.heap.size + 1 + 1 := by omega); (try have hy8_4_0 : w4.heap.size < w8.heap.size := by omega); (try have hn8_4_0 : w4.heap.size ≠ w8.heap.size := by omega); (try have hm8_4_0 : w8.heap.size ≠ w4.heap.size := by omega); (try have hy8_4_1 : w4.heap.size + 1 < w8.heap.size := by omega); (try have hn8_4_1 : w4.heap.size + 1 ≠ w8.heap.size := by omega); (try have hm8_4_1 : w8.heap.size ≠ w4.heap.size + 1 := by omega); (try have hy8_4_2 : w4.heap.size + 1 + 1 < w8.heap.size := by omega); (try have hp8_4_1 : w4.heap.size < w8.heap.size + 1 := by omega); (try have hp8_4_2 : w4.heap.size < w8.heap.size + 1 + 1 := by omega); (try have hy8_5_0 : w5.heap.size < w8.heap.size := by omega); (try have hn8_5_0 : w5.heap.size ≠ w8.heap.size := by omega); (try have hm8_5_0 : w8.heap.size ≠ w5.heap.size := by omega); (try have hy8_5_1 : w5.heap.size + 1 < w8.heap.size := by omega); (try have hn8_5_1 : w5.heap.size + 1 ≠ w8.heap.size := by omega); (try have hm8_5_1 : w8.heap.size ≠ w5.heap.size + 1 := by omega); (try have hy8_5_2 : w5.heap.size + 1 + 1 < w8.heap.size := by omega); (try have hp8_5_1 : w5.heap.size < w8.heap.size + 1 := by omega); (try have hp8_5_2 : w5.heap.size < w8.heap.size + 1 + 1 := by omega); (try have hy8_6_0 : w6.heap.size < w8.heap.size := by omega); (try have hn8_6_0 : w6.heap.size ≠ w8.heap.size := by omega); (try have hm8_6_0 : w8.heap.size ≠ w6.heap.size := by omega); (try have hy8_6_1 : w6.heap.size + 1 < w8.heap.size := by omega); (try have hn8_6_1 : w6.heap.size + 1 ≠ w8.heap.size := by omega); (try have hm8_6_1 : w8.heap.size ≠ w6.heap.size + 1 := by omega); (try have hy8_6_2 : w6.heap.size + 1 + 1 < w8.heap.size := by omega); (try have hp8_6_1 : w6.heap.size < w8.heap.size + 1 := by omega); (try have hp8_6_2 : w6.heap.size < w8.heap.size + 1 + 1 := by omega); (try have hy8_7_0 : w7.heap.size < w8.heap.size := by omega); (try have hn8_7_0 : w7.heap.size ≠ w8.heap.size := by omega); (try have hm8_7_0 : w8.heap.size ≠ w7.heap.size := by omega); (try have hy8_7_1 : w7.heap.size + 1 < w8.heap.size := by omega); (try have hn8_7_1 : w7.heap.size + 1 ≠ w8.heap.size := by omega); (try have hm8_7_1 : w8.heap.size ≠ w7.heap.size + 1 := by omega); (try have hy8_7_2 : w7.heap.size + 1 + 1 < w8.heap.size := by omega); (try have hp8_7_1 : w7.heap.size < w8.heap.size + 1 := by omega); (try have hp8_7_2 : w7.heap.size < w8.heap.size + 1 + 1 := by omega); (try have hg8_g1 : g1 < w8.heap.size := by omega); (try have hi8_g1 : g1 ≠ w8.heap.size := by omega); (try have hj8_g1 : w8.heap.size ≠ g1 := by omega); (try have hk8_g1 : g1 < w8.heap.size + 1 := by omega); (try have hg8_g2 : g2 < w8.heap.size := by omega); (try have hi8_g2 : g2 ≠ w8.heap.size := by omega); (try have hj8_g2 : w8.heap.size ≠ g2 := by omega); (try have hk8_g2 : g2 < w8.heap.size + 1 := by omega)
      go_wp2_with fail
      refine (HMK.out _).mono ?_; rintro e w9 ⟨rfl, hb9⟩; obtain ⟨hc9, hf9⟩ := bcellB hb9; have hz9 := hb9.size; (try simp only [World.size_alloc] at hc9 hf9 hz9); (try have hy9_r_0 : wr.heap.size < w9.heap.size := by omega); (try have hn9_r_0 : wr.heap.size ≠ w9.heap.size := by omega); (try have hm9_r_0 : w9.heap.size ≠ wr.heap.size := by omega); (try have hy9_r_1 : wr.heap.size + 1 < w9.heap.size := by omega); (try have hn9_r_1 : wr.heap.size + 1 ≠ w9.heap.size := by omega); (try have hm9_r_1 : w9.heap.size ≠ wr.heap.size + 1 := by omega); (try have hy9_r_2 : wr.heap.size + 1 + 1 < w9.heap.size := by omega); (try have hp9_r_1 : wr.heap.size < w9.heap.size + 1 := by omega); (try have hp9_r_2 : wr.heap.size < w9.heap.size + 1 + 1 := by omega); (try have hy9_0_0 : w.heap.size < w9.heap.size := by omega); (try have hn9_0_0 : w.heap.size ≠ w9.heap.size := by omega); (try have hm9_0_0 : w9.heap.size ≠ w.heap.size := by omega); (try have hy9_0_1 : w.heap.size + 1 < w9.heap.size := by omega); (try have hn9_0_1 : w.heap.size + 1 ≠ w9.heap.size := by omega); (try have hm9_0_1 : w9.heap.size ≠ w.heap.size + 1 := by omega); (try have hy9_0_2 : w.heap.size + 1 + 1 < w9.heap.size := by omega); (try have hp9_0_1 : w.heap.size < w9.heap.size + 1 := by omega); (try have hp9_0_2 : w.heap.size < w9.heap.size + 1 + 1 := by omega); (try have hy9_1_0 : w1.heap.size < w9.heap.size := by omega); (try have hn9_1_0 : w1.heap.size ≠ w9.heap.size := by omega); (try have hm9_1_0 : w9.heap.size ≠ w1.heap.size := by omega); (try have hy9_1_1 : w1.heap.size + 1 < w9.heap.size := by omega); (try have hn9_1_1 : w1.heap.size + 1 ≠ w9.heap.size := by omega); (try have hm9_1_1 : w9.heap.size ≠ w1.heap.size + 1 := by omega); (try have hy9_1_2 : w1.heap.size + 1 + 1 < w9.heap.size := by omega); (try have hp9_1_1 : w1.heap.size < w9.heap.size + 1 := by omega); (try have hp9_1_2 : w1.heap.size < w9.heap.size + 1 + 1 := by omega); (try have hy9_2_0 : w2.heap.size < w9.heap.size := by omega); (try have hn9_2_0 : w2.heap.size ≠ w9.heap.size := by omega); (try have hm9_2_0 : w9.heap.size ≠ w2.heap.size := by omega); (try have hy9_2_1 : w2.heap.size + 1 < w9.heap.size := by omega); (try have hn9_2_1 : w2.heap.size + 1 ≠ w9.heap.size := by omega); (try have hm9_2_1 : w9.heap.size ≠ w2.heap.size + 1 := by omega); (try have hy9_2_2 : w2.heap.size + 1 + 1 < w9.heap.size := by omega); (try have hp9_2_1 : w2.heap.size < w9.heap.size + 1 := by omega); (try have hp9_2_2 : w2.heap.size < w9.heap.size + 1 + 1 := by omega); (try have hy9_3_0 : w3.heap.size < w9.heap.size := by omega); (try have hn9_3_0 : w3.heap.size ≠ w9.heap.size := by omega); (try have hm9_3_0 : w9.heap.size ≠ w3.heap.size := by omega); (try have hy9_3_1 : w3.heap.size + 1 < w9.heap.size := by omega); (try have hn9_3_1 : w3.heap.size + 1 ≠ w9.heap.size := by omega); (try have hm9_3_1 : w9.heap.size ≠ w3.heap.size + 1 := by omega); (try have hy9_3_2 : w3.heap.size + 1 + 1 < w9.heap.size := by omega); (try have hp9_3_1 : w3.heap.size < w9.heap.size + 1 := by omega); (try have hp9_3_2 : w3.heap.size < w9.heap.size + 1 + 1 := by omega); (try have hy9_4_0 : w4.heap.size < w9.heap.size := by omega); (try have hn9_4_0 : w4.heap.size ≠ w9.heap.size := by omega); (try have hm9_4_0 : w9.heap.size ≠ w4.heap.size := by omega); (try have hy9_4_1 : w4.heap.size + 1 < w9.heap.size := by omega); (try have hn9_4_1 : w4.heap.size + 1 ≠ w9.heap.size := by omega); (try have hm9_4_1 : w9.heap.size ≠ w4.heap.size + 1 := by omega); (try have hy9_4_2 : w4.heap.size + 1 + 1 < w9.heap.size := by omega); (try have hp9_4_1 : w4.heap.size < w9.heap.size + 1 := by omega); (try have hp9_4_2 : w4.heap.size < w9.heap.size + 1 + 1 := by omega); (try have hy9_5_0 : w5.heap.size < w9.heap.size := by omega); (try have hn9_5_0 : w5.heap.size ≠ w9.heap.size := by omega); (try have hm9_5_0 : w9.heap.size ≠ w5.heap.size := by omega); (try have hy9_5_1 : w5.heap.size + 1 < w9.heap.size := by omega); (try have hn9_5_1 : w5.heap.size + 1 ≠ w9.heap.size := by omega); (try have hm9_5_1 : w9.heap.size ≠ w5.heap.size + 1 := by omega); (try have hy9_5_2 : w5.heap.size + 1 + 1 < w9.heap.size := by omega); (try have hp9_5_1 : w5.heap.size < w9.heap.size + 1 := by omega); (try have hp9_5_2 : w5.heap.size < w9.heap.size + 1 + 1 := by omega); (try have hy9_6_0 : w6.heap.size < w9.heap.size := by omega); (try have hn9_6_0 : w6.heap.size ≠ w9.heap.size := by omega); (try have hm9_6_0 : w9.heap.size ≠ w6.heap.size := by omega); (try have hy9_6_1 : w6.heap.size + 1 < w9.heap.size := by omega); (try have hn9_6_1 : w6.heap.size + 1 ≠ w9.heap.size := by omega); (try have hm9_6_1 : w9.heap.size ≠ w6.heap.size + 1 := by omega); (try have hy9_6_2 : w6.heap.size + 1 + 1 < w9.heap.size := by omega); (try have hp9_6_1 : w6.heap.size < w9.heap.size + 1 := by omega); (try have hp9_6_2 : w6.heap.size < w9.heap.size + 1 + 1 := by omega); (try have hy9_7_0 : w7.heap.size < w9.heap.size := by omega); (try have hn9_7_0 : w7.heap.size ≠ w9.heap.size := by omega); (try have hm9_7_0 : w9.heap.size ≠ w7.heap.size := by omega); (try have hy9_7_1 : w7.heap.size + 1 < w9.heap.size := by omega); (try have hn9_7_1 : w7.heap.size + 1 ≠ w9.heap.size := by omega); (try have hm9_7_1 : w9.heap.size ≠ w7.heap.size + 1 := by omega); (try have hy9_7_2 : w7.heap.size + 1 + 1 < w9.heap.size := by omega); (try have hp9_7_1 : w7.heap.size < w9.heap.size + 1 := by omega); (try have hp9_7_2 : w7.heap.size < w9.heap.size + 1 + 1 := by omega); (try have hy9_8_0 : w8.heap.size < w9.heap.size := by omega); (try have hn9_8_0 : w8.heap.size ≠ w9.heap.size := by omega); (try have hm9_8_0 : w9.heap.size ≠ w8.heap.size := by omega); (try have hy9_8_1 : w8.heap.size + 1 < w9.heap.size := by omega); (try have hn9_8_1 : w8.heap.size + 1 ≠ w9.heap.size := by omega); (try have hm9_8_1 : w9.heap.size ≠ w8.heap.size + 1 := by omega); (try have hy9_8_2 : w8.heap.size + 1 + 1 < w9.heap.size := by omega); (try have hp9_8_1 : w8.heap.size < w9.heap.size + 1 := by omega); (try have hp9_8_2 : w8.heap.size < w9.heap.size + 1 + 1 := by omega); (try have hg9_g1 : g1 < w9.heap.size := by omega); (try have hi9_g1 : g1 ≠ w9.heap.size := by omega); (try have hj9_g1 : w9.heap.size ≠ g1 := by omega); (try have hk9_g1 : g1 < w9.heap.size + 1 := by omega); (try have hg9_g2 : g2 < w9.heap.size := by omega); (try have hi9_g2 : g2 ≠ w9.heap.size := by omega); (try have hj9_g2 : w9.heap.size ≠ g2 := by omega); (try have hk9_g2 : g2 < w9.heap.size + 1 := by omega)
      go_wp2_with fail
      refine (HH.out _ _ _ (hr3.below (by (repeat' (first | (with_reducible exact Below.refl _ _) | (with_reducible assumption) | (with_reducible refine Below.drew ?_) | (with_reducible refine belowDrewN ?_ _) | (with_reducible refine Below.alloc ?_ ?_ _) | (with_reducible refine Below.setCell ?_ ?_ _) | (with_reducible refine belowStep (by assumption) ?_ ?_) | (with_reducible exact Below.size (by assumption)) | go_size))))).mono ?_; rintro e w10 ⟨rfl, k10, rfl⟩
      have R3 := Lib.hid hr3
      have hb39 : Below w3.heap.size w3 w9 := by (repeat' (first | (with_reducible exact Below.refl _ _) | (with_reducible assumption) | (with_reducible refine Below.drew ?_) | (with_reducible refine belowDrewN ?_ _) | (with_reducible refine Below.alloc ?_ ?_ _) | (with_reducible refine Below.setCell ?_ ?_ _) | (with_reducible refine belowStep (by assumption) ?_ ?_) | (with_reducible exact Below.size (by assumption)) | go_size))
      have hbw9 : Below w.heap.size w w9 := by (repeat' (first | (with_reducible exact Below.refl _ _) | (with_reducible assumption) | (with_reducible refine Below.drew ?_) | (with_reducible refine belowDrewN ?_ _) | (with_reducible refine Below.alloc ?_ ?_ _) | (with_reducible refine Below.setCell ?_ ?_ _) | (with_reducible refine belowStep (by assumption) ?_ ?_) | (with_reducible exact Below.size (by assumption)) | go_size))
      clear hr3 ho3 hr4
      go_wp2
      go_loopw [116] (fun vk wr => ∃ k : Nat, k ≤ ts.length ∧ vk = .int .i64 (k : Int) ∧ Below w9.heap.size w9 wr) (fun vk _ => ts.length - (intOf vk).toNat)
      case atStart => exact ⟨0, Nat.zero_le _, rfl, by (repeat' (first | (with_reducible exact Below.refl _ _) | (with_reducible assumption) | (with_reducible refine Below.drew ?_) | (with_reducible refine belowDrewN ?_ _) | (with_reducible refine Below.alloc ?_ ?_ _) | (with_reducible refine Below.setCell ?_ ?_ _) | (with_reducible refine belowStep (by assumption) ?_ ?_) | (with_reducible exact Below.size (by assumption)) | go_size))⟩
      case round =>
        obtain ⟨k, hk, rfl, hbr⟩ := hrel
        have hzr := hbr.size
        by_cases hlk : k < ts.length
        · obtain ⟨b9, o9, t, rfl, hbb, ht, hcell⟩ := ((R3.out.below hb39).below hbr).at_ hlk
          obtain ⟨t1, t2⟩ := HF5.out t (List.mem_of_getElem? ht)
          have t3 := HES.out t (List.mem_of_getElem? ht)
          have ht1 : (m * x).tmod t = 0 := by rw [Int.tmod_eq_emod_of_nonneg p1.1]; exact t1
          have htn : t ≠ 0 := by omega
          clear ht
          go_wp2
          go_roundw
          case rel => exact ⟨k + 1, by omega, by go_num, hbr⟩
          case measure => simp [intOf]; omega
        · obtain rfl : k = ts.length := by omega
          go_wp2
          go_ret
          exact ⟨rfl, by (repeat' (first | (with_reducible exact Below.refl _ _) | (with_reducible assumption) | (with_reducible refine Below.drew ?_) | (with_reducible refine belowDrewN ?_ _) | (with_reducible refine Below.alloc ?_ ?_ _) | (with_reducible refine Below.setCell ?_ ?_ _) | (with_reducible refine belowStep (by assumption) ?_ ?_) | (with_reducible exact Below.size (by assumption)) | go_size))⟩

set_option maxRecDepth 100000 in
theorem FnTwoOverOdds_lifted (os : Os) (started : os.Started) (H : Type) (enc : TypeId × Value → H) :
    ReturnsInHanded {} Try.checked os 9 .any (Rows.fnTwoOverOddsSpec.pre6 enc Try.prog Try.f9 Rows.fnTwoOverOddsRow.domain false) (Rows.fnTwoOverOddsSpec.post enc Try.prog Try.f9 false true false false) := by
  refine returnsInHanded_of_change (C := Try.checked) own started (by kernel_rfl) Try.func9
    (ChangeSpec.witness6 (enc := enc) (C := Try.checked) false ⟨#[], #[.slice none 0 0, .slice none 0 0], []⟩ 8 (by kernel_rfl) (by kernel_rfl) (by kernel_rfl) (by kernel_rfl)) ?_
  intro W base args ds gs before hval0 hW hcnd _
  have hval : ∀ (j : Nat) t v, Try.f9.params[j]? = some t → args[j]? = some v → Value.okWide Try.prog W .any base t v := hval0
  have hW' := hW
  have hlt : ∀ p ∈ before, p.block < W.heap.size := fun p hp => hW'.lt p hp
  obtain ⟨p, q, hA0, hV, rfl, hfz, hnd⟩ := hW
  have hA : DataW.TrodAll enc Try.prog W 0 (fun _ => true) true Try.f9.params.toList args.toList ds p := hA0
  rw [Try.params9] at hA hval
  obtain ⟨v0, vs0, d0, ds0, p0, q0, hargs, rfl, rfl, h0, r0⟩ := trodAll_cons hA
  obtain ⟨v1, vs1, d1, ds1, p1, q1, rfl, rfl, rfl, h1, r1⟩ := trodAll_cons r0
  obtain ⟨rfl, rfl, rfl⟩ := trodAll_nil r1
  obtain rfl : args = #[v0, v1] := by cases args; simp_all
  obtain ⟨rfl, rfl⟩ := trodVars_none hV
  obtain ⟨Aa, ca, na, rfl, ha⟩ := open_bytes_reads Try.underlying40 Try.underlying5 (by kernel_rfl) (hval 0 40 v0 rfl rfl) h0 (fun y hy => hlt y (by simp [hy]))
  obtain ⟨Ab, cb, nb, rfl, hb⟩ := open_bytes_reads Try.underlying40 Try.underlying5 (by kernel_rfl) (hval 1 40 v1 rfl rfl) h1 (fun y hy => hlt y (by simp [hy]))
  refine (FnTwoOverOdds_walk W Aa ca na Ab cb nb ha hb).mono fun e W' ⟨he, hg⟩ => ?_
  subst he
  exact ⟨_, rfl, law_post laidOut (by rw [Try.params9]; intro t ht; simp only [List.mem_cons, List.not_mem_nil, or_false] at ht; rcases ht with rfl | rfl <;> exact ⟨by kernel_rfl, of_decide_eq_true (by kernel_rfl)⟩) (by kernel_rfl) Try.underlying4 rfl hW' rfl hg⟩

theorem FnTwoOverOdds_closed : joinedFacts Try.prog 9 Try.f9 Rows.fnTwoOverOddsSpec Rows.fnTwoOverOddsRow = true := by
  unfold joinedFacts
  rw [mayEnter_eq, lifts_eq, make_eq]
  kernel_rfl

theorem FnTwoOverOdds_holds : Rows.FnTwoOverOddsSaid :=
  OpenClaim.holds_of_wide 9 Try.f9 rfl rfl rfl rfl rfl rfl rfl ⟨rfl, rfl, rfl, rfl, rfl⟩ rfl rfl rfl rfl rfl (by kernel_rfl) Try.func9 FnTwoOverOdds_closed
    (of_decide_eq_true (by kernel_rfl)) (by unfold Func.isWrapper; first | (rw [if_pos (by decide +kernel)]; kernel_rfl) | (rw [if_neg (by decide +kernel)]; exact ⟨rfl, rfl⟩))
    (fun os started H enc _ => FnTwoOverOdds_lifted os started H enc)

end Go.Proofs.Ythkchhjidihkpab
