import Derived.Test.YtleookfdngnphaaDraw
import Derived.Test.YtleookfdngnphaaSum2
import Derived.Test.YtleookfdngnphaaHas
import Derived.Test.YtleookfdngnphaaShell
import Derived.Test.YtleookfdngnphaaPoR
import Derived.Test.YtleookfdngnphaaRest
import Derived.Test.YtleookfdngnphaaArith
import Derived.Test.YtleookfdngnphaaPoS

/-
  Contracts of the laws' own helpers.
-/
namespace Go.Proofs.Ytleookfdngnphaa
open Go.RowKit
def bigB (n m : Nat) : Bool := decide (1048576 < n) || decide (1048576 < n + m)
theorem big_any (w : World) (A B : Option Addr) (n m c d : Nat) (hn : n ≤ 9223372036854775807) (_ : m ≤ 9223372036854775807) : Calls Try.prog 13 #[.slice A n c, .slice B m d] w (RetQ (.bool (bigB n m)) w) := by
  by_cases h : 1048576 < n
  · have h1 : 1048576 < (n : Int) := by omega
    have E : Hid (bigB n m = true) := by show bigB n m = true; simp [bigB, h]
    go_enter Try.func13, Try.ntmps13
    go_wp2
    go_ret
    exact ⟨ret_bool (by first | (rw [E.out]; done) | (rw [E.out]; simp; done) | (rw [E.out]; simp; omega)), 0, rfl⟩
  · have h1 : ¬ 1048576 < (n : Int) := by omega
    have h2 : (n : Int) ≤ 1048576 := by omega
    have E : Hid (bigB n m = decide (1048576 - (n : Int) < m)) := by
      show bigB n m = _
      rw [Bool.eq_iff_iff]; simp [bigB, h]; omega
    go_enter Try.func13, Try.ntmps13
    go_wp2
    go_ret
    exact ⟨ret_bool (by first | (rw [E.out]; done) | (rw [E.out]; simp; done) | (rw [E.out]; simp; omega)), 0, rfl⟩
open Go.ChangeShapes Go.WideShapes Go.ChangeAt Go.Joins Go.Deep
section
variable {H : Type} {enc : TypeId × Value → H} {P : Program}
/-- A slice of bytes: nil, empty or not, one way. -/
theorem open_bytes_reads {W : World} {r : Reach} {b0 : Nat} {t ti : TypeId} {v : Value} {d : DataW H} {p : List MemPlace} (ht : P.underlying t = some (.slice ti)) (hti : P.underlying ti = some (.int .u8)) (hC : P.cellsOf ti = 1)
    (hv : Value.okWide P W r b0 t v) (h : DataW.Trod enc P W 0 (fun _ => true) true t v d p) (hlt : ∀ y ∈ p, y.block < W.heap.size) :
    ∃ (A : Option Addr) (c : Nat) (n : Nat), v = .slice A n c ∧ (ReadsB W A n ∧ n ≤ 9223372036854775807) := by
  obtain ⟨a0, len, cap, rfl⟩ := okWide_slice ht hv
  obtain ⟨fuel, hf⟩ := h
  rcases open_ints ht hti hC hf with ⟨hcs, _⟩ | ⟨a, len', cap', zs, hcs, _, hl, hm, hz, hx, hcell, hw⟩
  · simp [Value.cells] at hcs
    obtain ⟨rfl, rfl, rfl⟩ := hcs
    exact ⟨none, 0, 0, rfl, fun h0 => by omega, by omega⟩
  · simp [Value.cells] at hcs
    obtain ⟨rfl, rfl, rfl⟩ := hcs
    simp only [if_true] at hz
    unfold maxLen at hm
    refine ⟨some a, cap, len, rfl, fun h0 => ?_, by omega⟩
    obtain ⟨b, o, spot⟩ := a
    have hspot : spot = none := by simpa [Addr.add] using World.cell?_spot (hcell 0 (by omega))
    subst hspot
    refine ⟨b, o, rfl, ?_, fun i hi => ?_⟩
    · simp only [Prod.mk.injEq] at hx
      exact hlt (.cell b o) (by rw [hx.2]; exact MemPlace.mem_row.2 ⟨0, by omega, by simp⟩)
    · have hc := hcell i (by omega)
      have hb := range_u8 hw i
      refine ⟨zs.getD i 0, by simpa [Go.WideShapes.add_plain] using hc, ?_⟩
      simpa [List.getD] using hb
end
end Go.Proofs.Ytleookfdngnphaa


/-
  For all bytes: the product of two expansions has the product of their sums and as many terms as the product of their lengths, twice a half is the whole, two thirds are two thirds of the sum, a share is the fraction of the loaves and the people; what is told is the model's. No condition.
-/
namespace Go.Proofs.Ytleookfdngnphaa
open Go.ChangeShapes Go.WideShapes Go.ChangeAt Go.RowKit Go.Joins Go.Deep
set_option maxHeartbeats 2000000 in
theorem zSame_any (w : World) (A B : Option Addr) (c d : Nat) (xs ys : List Int) (ha : Reads w A xs) (hb : Reads w B ys) (hl : xs.length ≤ 1048576) (_ : ys.length ≤ 1048576) :
    Calls Try.prog 17 #[.slice A xs.length c, .slice B ys.length d] w (RetQ (.bool (decide (xs = ys))) w) := by
  have HA := Lib.hid ha
  have HB := Lib.hid hb
  clear ha hb
  by_cases hlen : xs.length = ys.length
  · have h1 : xs.length ≤ ys.length := by omega
    have h2 : ys.length ≤ xs.length := by omega
    have Hlen := Lib.hid hlen
    have hne : (((xs.length : Nat) : Int) != ((ys.length : Nat) : Int)) = false := by simp; omega
    clear hlen
    go_enter Try.func17, Try.ntmps17
    go_wp2
    go_loopw [13] (fun v13 wr => ∃ k : Nat, k ≤ xs.length ∧ v13 = .int .i64 k ∧ xs.take k = ys.take k ∧ ∃ n, wr = w.drewN n) (fun v13 _ => xs.length - (intOf v13).toNat)
    case atStart => exact ⟨0, Nat.zero_le _, rfl, by simp, 0, rfl⟩
    case round =>
      obtain ⟨k, hk, rfl, ht, n, rfl⟩ := hrel
      have HT := Lib.hid ht
      clear ht
      by_cases hlt : k < xs.length
      · obtain ⟨b, o, x, rfl, _, hx, hcell⟩ := HA.out.at_ hlt
        obtain ⟨b', o', y, rfl, _, hy, hcell'⟩ := HB.out.at_ (show k < ys.length by omega)
        have hki : (k : Int) < (xs.length : Int) := by omega
        have hki2 : (k : Int) < (ys.length : Int) := by omega
        by_cases hxy : x = y
        · subst hxy
          have HT2 : Hid (xs.take (k + 1) = ys.take (k + 1)) := Lib.hid (by
            rw [List.take_add_one, List.take_add_one, HT.out, hx, hy])
          clear hx hy
          go_wp2
          go_quiet (fail)
          go_wp2
          go_roundw
          case rel => exact ⟨k + 1, by omega, by go_num, HT2.out, _, rfl⟩
          case measure => simp [intOf]; omega
        · have E : Hid (decide (xs = ys) = false) := Lib.hid (by
            refine decide_eq_false fun e => hxy ?_
            rw [e, hy] at hx
            injection hx with hx
            exact hx.symm)
          have hnb : (x != y) = true := by simp [hxy]
          clear hx hy hxy
          go_wp2
          go_quiet (fail)
          go_wp2
          go_ret
          exact ⟨ret_bool E.out.symm, _, World.drewN_drewN _ _ _⟩
      · obtain rfl : k = xs.length := by omega
        have E : Hid (decide (xs = ys) = true) := Lib.hid (by
          refine decide_eq_true ?_
          have := HT.out
          rw [List.take_length, Hlen.out, List.take_length] at this
          exact this)
        go_wp2
        go_ret
        exact ⟨ret_bool E.out.symm, n, rfl⟩
  · have E : Hid (decide (xs = ys) = false) := Lib.hid (decide_eq_false fun e => hlen (by rw [e]))
    have hne : (((xs.length : Nat) : Int) != ((ys.length : Nat) : Int)) = true := by simp; omega
    clear hlen
    go_enter Try.func17, Try.ntmps17
    go_wp2
    go_ret
    exact ⟨ret_bool E.out.symm, 0, rfl⟩
theorem zSame_own (xs : List Int) (hl : xs.length ≤ 1048576) : ∀ w A B c d, Reads w A xs → Reads w B xs → Calls Try.prog 17 #[.slice A xs.length c, .slice B xs.length d] w (RetQ (.bool true) w) := fun w A B c d ha hb => by
  have := zSame_any w A B c d xs xs ha hb hl hl
  rwa [decide_eq_true rfl] at this
theorem opt_told (o : Option (List Int)) (hl : (o.getD []).length ≤ 24) : ∃ L T, o.getD [] = L ∧ o.isSome = T ∧ L.length ≤ 24 ∧ (T = true → o = some L) := ⟨_, _, rfl, rfl, hl, fun h => by cases o with | none => cases h | some l => rfl⟩
theorem in64_at {xs : List Int} (h : ∀ z ∈ xs, -9223372036854775808 ≤ z ∧ z ≤ 9223372036854775807) : ∀ (i : Nat) (x : Int), xs[i]? = some x → -9223372036854775808 ≤ x ∧ x ≤ 9223372036854775807 := fun _ x hx => h x (List.mem_of_getElem? hx)
theorem sum_known {xs : List Int} (h : expB xs = true) : ∀ w A c, Reads w A xs → Calls Try.prog 27 #[.slice A xs.length c] w (Ret (.tuple #[.agg #[.int .i64 (sumN xs), .int .i64 (sumD xs)], .bool true]) w) := fun w A c hr =>
  sumOf_yes w A c xs hr (by have := expB_len h; omega) (fun i y hy => by have := expB_small h y (List.mem_of_getElem? hy); omega) h
theorem eNeD {xs : List Int} (h : expB xs = true) : eN xs = sumN xs ∧ eD xs = sumD xs := by unfold eN eD; rw [if_pos h, if_pos h]; exact ⟨rfl, rfl⟩
set_option maxRecDepth 100000 in
set_option maxHeartbeats 16000000 in
theorem FnProductsOfExpansions_walk (w : World) (A : Option Addr) (c n : Nat) (B : Option Addr) (d m' : Nat) (hA : ReadsB w A n ∧ n ≤ 9223372036854775807) (hB : ReadsB w B m' ∧ m' ≤ 9223372036854775807) :
    Calls Try.prog 5 #[.slice A n c, .slice B m' d] w (Ret (.bool true) w) := by
  obtain ⟨hA, hn⟩ := hA
  obtain ⟨hB, hm'⟩ := hB
  have HA := Lib.hid hA
  have HB := Lib.hid hB
  clear hA hB
  cases hbig : bigB n m' with
  | true =>
    go_enter Try.func5, Try.ntmps5
    go_wp2_with fail
    refine (big_any _ _ _ _ _ _ _ hn hm').mono ?_; rintro e w1 ⟨rfl, k1, rfl⟩
    go_wp2
    go_ret
    exact ⟨rfl, by (repeat' (first | (with_reducible exact Below.refl _ _) | (with_reducible assumption) | (with_reducible refine Below.drew ?_) | (with_reducible refine belowDrewN ?_ _) | (with_reducible refine Below.alloc ?_ ?_ _) | (with_reducible refine Below.setCell ?_ ?_ _) | (with_reducible refine belowStep (by assumption) ?_ ?_) | (with_reducible exact Below.size (by assumption)) | go_size))⟩
  | false =>
    have hn2 : n ≤ 1048576 ∧ m' ≤ 1048576 := by
      simp only [bigB, Bool.or_eq_false_iff, decide_eq_false_iff_not] at hbig
      omega
    have HDR := Lib.hid fun (w' : World) (h : Below w.heap.size w w') => drawProductOf_any w' A n c (HA.out.below h) hn2.1
    have HDH := Lib.hid fun (w' : World) (h : Below w.heap.size w w') => drawHalvesOf_any w' B m' d (HB.out.below h) hn2.2
    have HDS := Lib.hid fun (w' : World) (h : Below w.heap.size w w') => drawShares_any w' B m' d (HB.out.below h) hn2.2
    have HBG := Lib.hid fun (w : World) => big_any w A B n m' c d hn hm'
    rw [hbig] at HBG
    go_enter Try.func5, Try.ntmps5
    go_wp2_with fail
    refine (HBG.out _).mono ?_; rintro e w1 ⟨rfl, k1, rfl⟩
    go_wp2_with fail
    refine (HDR.out _ (by (repeat' (first | (with_reducible exact Below.refl _ _) | (with_reducible assumption) | (with_reducible refine Below.drew ?_) | (with_reducible refine belowDrewN ?_ _) | (with_reducible refine Below.alloc ?_ ?_ _) | (with_reducible refine Below.setCell ?_ ?_ _) | (with_reducible refine belowStep (by assumption) ?_ ?_) | (with_reducible exact Below.size (by assumption)) | go_size)))).mono ?_; rintro e w2 ⟨v, u, xs, ys, rfl, ho, hu, hlx, hly, h64, g64, hb2⟩
    have hz2 := hb2.size
    (try simp only [World.heap_drewN] at hz2)
    obtain ⟨Ax, cx, rfl, hrx⟩ := ho.form
    obtain ⟨Ay, cy, rfl, hry⟩ := hu.form
    clear hbig HDR HBG ho hu hn2
    have I1 := Lib.hid fun (w : World) (hx : Reads w Ax xs) (hy : Reads w Ay ys) => product_any w Ax cx xs hx (by omega) Ay cy ys hy (by omega) (In64.of_mem h64) (In64.of_mem g64)
    have I2 := Lib.hid fun (w : World) (hx : Reads w Ax xs) (hy : Reads w Ay ys) => spec_product_any w Ax cx xs hx (by omega) Ay cy ys hy (by omega)
    obtain ⟨L, T, e1, e2, hL24, hTL⟩ := opt_told (poO xs ys) (poO_len xs ys)
    rw [e1, e2] at I1 I2
    have HZ := Lib.hid (zSame_own L (by omega))
    have HTL := Lib.hid hTL
    have Rx := Lib.hid hrx
    have Ry := Lib.hid hry
    have p2 : 0 ≤ (xs.length : Int) * (ys.length : Int) ∧ (xs.length : Int) * (ys.length : Int) ≤ 1600 := by
      have := mul_bounds (a := (xs.length : Int)) (b := (ys.length : Int)) (by omega) (by omega) (by omega) (by omega)
      have h2 : (xs.length : Int) * (ys.length : Int) ≤ 40 * 40 := Int.mul_le_mul (by omega) (by omega) (by omega) (by omega)
      exact ⟨this.1, by omega⟩
    clear e1 e2 hTL hrx hry h64 g64
    go_wp2_with fail
    refine (I1.out _ (Rx.out.below (by (repeat' (first | (with_reducible exact Below.refl _ _) | (with_reducible assumption) | (with_reducible refine Below.drew ?_) | (with_reducible refine belowDrewN ?_ _) | (with_reducible refine Below.alloc ?_ ?_ _) | (with_reducible refine Below.setCell ?_ ?_ _) | (with_reducible refine belowStep (by assumption) ?_ ?_) | (with_reducible exact Below.size (by assumption)) | go_size)))) (Ry.out.below (by (repeat' (first | (with_reducible exact Below.refl _ _) | (with_reducible assumption) | (with_reducible refine Below.drew ?_) | (with_reducible refine belowDrewN ?_ _) | (with_reducible refine Below.alloc ?_ ?_ _) | (with_reducible refine Below.setCell ?_ ?_ _) | (with_reducible refine belowStep (by assumption) ?_ ?_) | (with_reducible exact Below.size (by assumption)) | go_size))))).mono ?_; rintro e w3 ⟨v3, rfl, ho3, hb3⟩; have hz3 := hb3.size; (try simp only [World.size_alloc, World.size_setCell, World.size_drew, World.heap_drewN] at hz3)
    obtain ⟨A3, c3, rfl, hr3⟩ := ho3.form
    go_wp2_with fail
    refine (I2.out _ (Rx.out.below (by (repeat' (first | (with_reducible exact Below.refl _ _) | (with_reducible assumption) | (with_reducible refine Below.drew ?_) | (with_reducible refine belowDrewN ?_ _) | (with_reducible refine Below.alloc ?_ ?_ _) | (with_reducible refine Below.setCell ?_ ?_ _) | (with_reducible refine belowStep (by assumption) ?_ ?_) | (with_reducible exact Below.size (by assumption)) | go_size)))) (Ry.out.below (by (repeat' (first | (with_reducible exact Below.refl _ _) | (with_reducible assumption) | (with_reducible refine Below.drew ?_) | (with_reducible refine belowDrewN ?_ _) | (with_reducible refine Below.alloc ?_ ?_ _) | (with_reducible refine Below.setCell ?_ ?_ _) | (with_reducible refine belowStep (by assumption) ?_ ?_) | (with_reducible exact Below.size (by assumption)) | go_size))))).mono ?_; rintro e w4 ⟨A4, c4, rfl, hr4, hb4⟩; have hz4 := hb4.size; (try simp only [World.size_alloc, World.size_setCell, World.size_drew, World.heap_drewN] at hz4)
    go_wp2_with fail
    refine (HZ.out _ _ _ _ _ (hr3.below (by (repeat' (first | (with_reducible exact Below.refl _ _) | (with_reducible assumption) | (with_reducible refine Below.drew ?_) | (with_reducible refine belowDrewN ?_ _) | (with_reducible refine Below.alloc ?_ ?_ _) | (with_reducible refine Below.setCell ?_ ?_ _) | (with_reducible refine belowStep (by assumption) ?_ ?_) | (with_reducible exact Below.size (by assumption)) | go_size)))) (hr4.below (by (repeat' (first | (with_reducible exact Below.refl _ _) | (with_reducible assumption) | (with_reducible refine Below.drew ?_) | (with_reducible refine belowDrewN ?_ _) | (with_reducible refine Below.alloc ?_ ?_ _) | (with_reducible refine Below.setCell ?_ ?_ _) | (with_reducible refine belowStep (by assumption) ?_ ?_) | (with_reducible exact Below.size (by assumption)) | go_size))))).mono ?_; rintro e w5 ⟨rfl, k5, rfl⟩
    have R3 := Lib.hid hr3
    have hb34 : Below w3.heap.size w3 w4 := by (repeat' (first | (with_reducible exact Below.refl _ _) | (with_reducible assumption) | (with_reducible refine Below.drew ?_) | (with_reducible refine belowDrewN ?_ _) | (with_reducible refine Below.alloc ?_ ?_ _) | (with_reducible refine Below.setCell ?_ ?_ _) | (with_reducible refine belowStep (by assumption) ?_ ?_) | (with_reducible exact Below.size (by assumption)) | go_size))
    have hbx4 : Below w2.heap.size w2 w4 := by (repeat' (first | (with_reducible exact Below.refl _ _) | (with_reducible assumption) | (with_reducible refine Below.drew ?_) | (with_reducible refine belowDrewN ?_ _) | (with_reducible refine Below.alloc ?_ ?_ _) | (with_reducible refine Below.setCell ?_ ?_ _) | (with_reducible refine belowStep (by assumption) ?_ ?_) | (with_reducible exact Below.size (by assumption)) | go_size))
    have hbw4 : Below w.heap.size w w4 := by (repeat' (first | (with_reducible exact Below.refl _ _) | (with_reducible assumption) | (with_reducible refine Below.drew ?_) | (with_reducible refine belowDrewN ?_ _) | (with_reducible refine Below.alloc ?_ ?_ _) | (with_reducible refine Below.setCell ?_ ?_ _) | (with_reducible refine belowStep (by assumption) ?_ ?_) | (with_reducible exact Below.size (by assumption)) | go_size))
    clear hr3 ho3 hr4 HZ I1 I2
    go_upto_if 77 with fail
    go_cut [] (fun wx => Below w4.heap.size w4 wx)
    case first =>
      as_aux_lemma =>
        cases T with
        | false =>
          go_wp2_with fail
          go_meet
          (repeat' (first | (with_reducible exact Below.refl _ _) | (with_reducible assumption) | (with_reducible refine Below.drew ?_) | (with_reducible refine belowDrewN ?_ _) | (with_reducible refine Below.alloc ?_ ?_ _) | (with_reducible refine Below.setCell ?_ ?_ _) | (with_reducible refine belowStep (by assumption) ?_ ?_) | (with_reducible exact Below.size (by assumption)) | go_size))
        | true =>
          have hp := HTL.out rfl
          obtain ⟨q1, q2, q3, q4, q5⟩ := po_told hp
          obtain ⟨m1, m2, m3⟩ := po_mul hp
          have HSX := Lib.hid (sum_known q1)
          have HSY := Lib.hid (sum_known q2)
          have HSL := Lib.hid (sum_known q3)
          have HM := Lib.hid fun (w : World) => mul_yes (sumN xs) (sumD xs) (sumN ys) (sumD ys) w (good_sum q1) (good_sum q2)
          rw [m1, m2, m3] at HM
          have hne : ((L.length : Int) != (xs.length : Int) * (ys.length : Int)) = false := by rw [q4, Int.natCast_mul]; simp
          generalize sumN xs = a1 at *
          generalize sumD xs = a2 at *
          generalize sumN ys = a3 at *
          generalize sumD ys = a4 at *
          generalize sumN L = a5 at *
          generalize sumD L = a6 at *
          clear hp q1 q2 q3 q4 q5 m1 m2 m3 HTL
          go_wp2_with fail
          refine (HSX.out _ _ _ ((Rx.out.below hbx4).below (by (repeat' (first | (with_reducible exact Below.refl _ _) | (with_reducible assumption) | (with_reducible refine Below.drew ?_) | (with_reducible refine belowDrewN ?_ _) | (with_reducible refine Below.alloc ?_ ?_ _) | (with_reducible refine Below.setCell ?_ ?_ _) | (with_reducible refine belowStep (by assumption) ?_ ?_) | (with_reducible exact Below.size (by assumption)) | go_size))))).mono ?_; rintro e w6 ⟨rfl, hb6⟩; have hz6 := hb6.size; (try simp only [World.heap_drewN] at hz6)
          obtain ⟨hc6, hf6⟩ := bcellB hb6; have hz6 := hb6.size; (try simp only [World.heap_drewN] at hc6 hf6 hz6)
          go_wp2_with fail
          refine (HSY.out _ _ _ ((Ry.out.below hbx4).below (by (repeat' (first | (with_reducible exact Below.refl _ _) | (with_reducible assumption) | (with_reducible refine Below.drew ?_) | (with_reducible refine belowDrewN ?_ _) | (with_reducible refine Below.alloc ?_ ?_ _) | (with_reducible refine Below.setCell ?_ ?_ _) | (with_reducible refine belowStep (by assumption) ?_ ?_) | (with_reducible exact Below.size (by assumption)) | go_size))))).mono ?_; rintro e w7 ⟨rfl, hb7⟩; have hz7 := hb7.size; (try simp only [World.size_alloc] at hz7)
          obtain ⟨hc7, hf7⟩ := bcellB hb7; have hz7 := hb7.size; (try simp only [World.size_alloc] at hc7 hf7 hz7); (try have hy7_00 : w6.heap.size < w7.heap.size := by omega); (try have hn7_00 : w6.heap.size ≠ w7.heap.size := by omega); (try have hm7_00 : w7.heap.size ≠ w6.heap.size := by omega); (try have hp7_00 : w6.heap.size < w7.heap.size + 1 := by omega); (try have hy7_01 : w6.heap.size + 1 < w7.heap.size := by omega); (try have hn7_01 : w6.heap.size + 1 ≠ w7.heap.size := by omega); (try have hm7_01 : w7.heap.size ≠ w6.heap.size + 1 := by omega); (try have hp7_01 : w6.heap.size + 1 < w7.heap.size + 1 := by omega)
          go_wp2_with fail
          refine (HSL.out _ _ _ ((R3.out.below hb34).below (by (repeat' (first | (with_reducible exact Below.refl _ _) | (with_reducible assumption) | (with_reducible refine Below.drew ?_) | (with_reducible refine belowDrewN ?_ _) | (with_reducible refine Below.alloc ?_ ?_ _) | (with_reducible refine Below.setCell ?_ ?_ _) | (with_reducible refine belowStep (by assumption) ?_ ?_) | (with_reducible exact Below.size (by assumption)) | go_size))))).mono ?_; rintro e w8 ⟨rfl, hb8⟩; have hz8 := hb8.size; (try simp only [World.size_alloc] at hz8)
          obtain ⟨hc8, hf8⟩ := bcellB hb8; have hz8 := hb8.size; (try simp only [World.size_alloc] at hc8 hf8 hz8); (try have hy8_00 : w6.heap.size < w8.heap.size := by omega); (try have hn8_00 : w6.heap.size ≠ w8.heap.size := by omega); (try have hm8_00 : w8.heap.size ≠ w6.heap.size := by omega); (try have hp8_00 : w6.heap.size < w8.heap.size + 1 := by omega); (try have hy8_01 : w6.heap.size + 1 < w8.heap.size := by omega); (try have hn8_01 : w6.heap.size + 1 ≠ w8.heap.size := by omega); (try have hm8_01 : w8.heap.size ≠ w6.heap.size + 1 := by omega); (try have hp8_01 : w6.heap.size + 1 < w8.heap.size + 1 := by omega); (try have hy8_10 : w7.heap.size < w8.heap.size := by omega); (try have hn8_10 : w7.heap.size ≠ w8.heap.size := by omega); (try have hm8_10 : w8.heap.size ≠ w7.heap.size := by omega); (try have hp8_10 : w7.heap.size < w8.heap.size + 1 := by omega); (try have hy8_11 : w7.heap.size + 1 < w8.heap.size := by omega); (try have hn8_11 : w7.heap.size + 1 ≠ w8.heap.size := by omega); (try have hm8_11 : w8.heap.size ≠ w7.heap.size + 1 := by omega); (try have hp8_11 : w7.heap.size + 1 < w8.heap.size + 1 := by omega)
          go_wp2_with fail
          refine (HM.out _).mono ?_; rintro e w9 ⟨rfl, hb9⟩; have hz9 := hb9.size; (try simp only [World.size_alloc] at hz9)
          obtain ⟨hc9, hf9⟩ := bcellB hb9; have hz9 := hb9.size; (try simp only [World.size_alloc] at hc9 hf9 hz9); (try have hy9_00 : w6.heap.size < w9.heap.size := by omega); (try have hn9_00 : w6.heap.size ≠ w9.heap.size := by omega); (try have hm9_00 : w9.heap.size ≠ w6.heap.size := by omega); (try have hp9_00 : w6.heap.size < w9.heap.size + 1 := by omega); (try have hy9_01 : w6.heap.size + 1 < w9.heap.size := by omega); (try have hn9_01 : w6.heap.size + 1 ≠ w9.heap.size := by omega); (try have hm9_01 : w9.heap.size ≠ w6.heap.size + 1 := by omega); (try have hp9_01 : w6.heap.size + 1 < w9.heap.size + 1 := by omega); (try have hy9_10 : w7.heap.size < w9.heap.size := by omega); (try have hn9_10 : w7.heap.size ≠ w9.heap.size := by omega); (try have hm9_10 : w9.heap.size ≠ w7.heap.size := by omega); (try have hp9_10 : w7.heap.size < w9.heap.size + 1 := by omega); (try have hy9_11 : w7.heap.size + 1 < w9.heap.size := by omega); (try have hn9_11 : w7.heap.size + 1 ≠ w9.heap.size := by omega); (try have hm9_11 : w9.heap.size ≠ w7.heap.size + 1 := by omega); (try have hp9_11 : w7.heap.size + 1 < w9.heap.size + 1 := by omega); (try have hy9_20 : w8.heap.size < w9.heap.size := by omega); (try have hn9_20 : w8.heap.size ≠ w9.heap.size := by omega); (try have hm9_20 : w9.heap.size ≠ w8.heap.size := by omega); (try have hp9_20 : w8.heap.size < w9.heap.size + 1 := by omega); (try have hy9_21 : w8.heap.size + 1 < w9.heap.size := by omega); (try have hn9_21 : w8.heap.size + 1 ≠ w9.heap.size := by omega); (try have hm9_21 : w9.heap.size ≠ w8.heap.size + 1 := by omega); (try have hp9_21 : w8.heap.size + 1 < w9.heap.size + 1 := by omega)
          go_wp2_with fail
          go_meet
          (repeat' (first | (with_reducible exact Below.refl _ _) | (with_reducible assumption) | (with_reducible refine Below.drew ?_) | (with_reducible refine belowDrewN ?_ _) | (with_reducible refine Below.alloc ?_ ?_ _) | (with_reducible refine Below.setCell ?_ ?_ _) | (with_reducible refine belowStep (by assumption) ?_ ?_) | (with_reducible exact Below.size (by assumption)) | go_size))
    case rest =>
      obtain ⟨w10, rfl⟩ : ∃ x : World, x = wc := ⟨_, rfl⟩
      have hb10 := hcut
      have hz10 := hb10.size
      clear hcut HTL p2
      go_wp2_with fail
      refine (HDH.out _ (by (repeat' (first | (with_reducible exact Below.refl _ _) | (with_reducible assumption) | (with_reducible refine Below.drew ?_) | (with_reducible refine belowDrewN ?_ _) | (with_reducible refine Below.alloc ?_ ?_ _) | (with_reducible refine Below.setCell ?_ ?_ _) | (with_reducible refine belowStep (by assumption) ?_ ?_) | (with_reducible exact Below.size (by assumption)) | go_size)))).mono ?_; rintro e w11 ⟨v11, zs, rfl, ho11, hl11, h64z, hb11⟩
      have hz11 := hb11.size
      obtain ⟨Az, cz, rfl, hrz⟩ := ho11.form
      have J1 := Lib.hid fun (w : World) (hx : Reads w Az zs) => halves_any w Az cz zs hx (by omega) (In64.of_mem h64z)
      have J2 := Lib.hid fun (w : World) (hx : Reads w Az zs) => spec_halves_any w Az cz zs hx (by omega)
      have J3 := Lib.hid fun (w : World) (hx : Reads w Az zs) => twoThirds_any w Az cz zs hx (by omega) (In64.of_mem h64z)
      have J4 := Lib.hid fun (w : World) (hx : Reads w Az zs) => spec_twoThirds_any w Az cz zs hx (by omega)
      have JS := Lib.hid fun (w : World) (hx : Reads w Az zs) => sumOf_any w Az cz zs hx (by omega) (in64_at h64z)
      obtain ⟨L2, T2, e1, e2, hL2, hT2⟩ := opt_told (poO zs [2]) (poO_len zs [2])
      obtain ⟨L3, T3, e3, e4, hL3, hT3⟩ := opt_told (poO zs [2, 6]) (poO_len zs [2, 6])
      rw [e1, e2] at J1 J2
      rw [e3, e4] at J3 J4
      have HZ2 := Lib.hid (zSame_own L2 (by omega))
      have HZ3 := Lib.hid (zSame_own L3 (by omega))
      have HT2 := Lib.hid hT2
      have HT3 := Lib.hid hT3
      have Rz := Lib.hid hrz
      clear e1 e2 e3 e4 hT2 hT3 hrz ho11 h64z HDH
      go_wp2_with fail
      refine (J1.out _ (Rz.out.below (by (repeat' (first | (with_reducible exact Below.refl _ _) | (with_reducible assumption) | (with_reducible refine Below.drew ?_) | (with_reducible refine belowDrewN ?_ _) | (with_reducible refine Below.alloc ?_ ?_ _) | (with_reducible refine Below.setCell ?_ ?_ _) | (with_reducible refine belowStep (by assumption) ?_ ?_) | (with_reducible exact Below.size (by assumption)) | go_size))))).mono ?_; rintro e w12 ⟨v12, rfl, ho12, hb12⟩; have hz12 := hb12.size; (try simp only [World.size_alloc, World.size_setCell, World.size_drew, World.heap_drewN] at hz12)
      obtain ⟨A12, c12, rfl, hr12⟩ := ho12.form
      go_wp2_with fail
      refine (J2.out _ (Rz.out.below (by (repeat' (first | (with_reducible exact Below.refl _ _) | (with_reducible assumption) | (with_reducible refine Below.drew ?_) | (with_reducible refine belowDrewN ?_ _) | (with_reducible refine Below.alloc ?_ ?_ _) | (with_reducible refine Below.setCell ?_ ?_ _) | (with_reducible refine belowStep (by assumption) ?_ ?_) | (with_reducible exact Below.size (by assumption)) | go_size))))).mono ?_; rintro e w13 ⟨A13, c13, rfl, hr13, hb13⟩; have hz13 := hb13.size; (try simp only [World.size_alloc, World.size_setCell, World.size_drew, World.heap_drewN] at hz13)
      go_wp2_with fail
      refine (J3.out _ (Rz.out.below (by (repeat' (first | (with_reducible exact Below.refl _ _) | (with_reducible assumption) | (with_reducible refine Below.drew ?_) | (with_reducible refine belowDrewN ?_ _) | (with_reducible refine Below.alloc ?_ ?_ _) | (with_reducible refine Below.setCell ?_ ?_ _) | (with_reducible refine belowStep (by assumption) ?_ ?_) | (with_reducible exact Below.size (by assumption)) | go_size))))).mono ?_; rintro e w14 ⟨v14, rfl, ho14, hb14⟩; have hz14 := hb14.size; (try simp only [World.size_alloc, World.size_setCell, World.size_drew, World.heap_drewN] at hz14)
      obtain ⟨A14, c14, rfl, hr14⟩ := ho14.form
      go_wp2_with fail
      refine (J4.out _ (Rz.out.below (by (repeat' (first | (with_reducible exact Below.refl _ _) | (with_reducible assumption) | (with_reducible refine Below.drew ?_) | (with_reducible refine belowDrewN ?_ _) | (with_reducible refine Below.alloc ?_ ?_ _) | (with_reducible refine Below.setCell ?_ ?_ _) | (with_reducible refine belowStep (by assumption) ?_ ?_) | (with_reducible exact Below.size (by assumption)) | go_size))))).mono ?_; rintro e w15 ⟨A15, c15, rfl, hr15, hb15⟩; have hz15 := hb15.size; (try simp only [World.size_alloc, World.size_setCell, World.size_drew, World.heap_drewN] at hz15)
      go_wp2_with fail
      refine (HZ2.out _ _ _ _ _ (hr12.below (by (repeat' (first | (with_reducible exact Below.refl _ _) | (with_reducible assumption) | (with_reducible refine Below.drew ?_) | (with_reducible refine belowDrewN ?_ _) | (with_reducible refine Below.alloc ?_ ?_ _) | (with_reducible refine Below.setCell ?_ ?_ _) | (with_reducible refine belowStep (by assumption) ?_ ?_) | (with_reducible exact Below.size (by assumption)) | go_size)))) (hr13.below (by (repeat' (first | (with_reducible exact Below.refl _ _) | (with_reducible assumption) | (with_reducible refine Below.drew ?_) | (with_reducible refine belowDrewN ?_ _) | (with_reducible refine Below.alloc ?_ ?_ _) | (with_reducible refine Below.setCell ?_ ?_ _) | (with_reducible refine belowStep (by assumption) ?_ ?_) | (with_reducible exact Below.size (by assumption)) | go_size))))).mono ?_; rintro e w16 ⟨rfl, k16, rfl⟩
      go_wp2_with fail
      refine (HZ3.out _ _ _ _ _ (hr14.below (by (repeat' (first | (with_reducible exact Below.refl _ _) | (with_reducible assumption) | (with_reducible refine Below.drew ?_) | (with_reducible refine belowDrewN ?_ _) | (with_reducible refine Below.alloc ?_ ?_ _) | (with_reducible refine Below.setCell ?_ ?_ _) | (with_reducible refine belowStep (by assumption) ?_ ?_) | (with_reducible exact Below.size (by assumption)) | go_size)))) (hr15.below (by (repeat' (first | (with_reducible exact Below.refl _ _) | (with_reducible assumption) | (with_reducible refine Below.drew ?_) | (with_reducible refine belowDrewN ?_ _) | (with_reducible refine Below.alloc ?_ ?_ _) | (with_reducible refine Below.setCell ?_ ?_ _) | (with_reducible refine belowStep (by assumption) ?_ ?_) | (with_reducible exact Below.size (by assumption)) | go_size))))).mono ?_; rintro e w17 ⟨rfl, k17, rfl⟩
      go_wp2_with fail
      refine (JS.out _ (Rz.out.below (by (repeat' (first | (with_reducible exact Below.refl _ _) | (with_reducible assumption) | (with_reducible refine Below.drew ?_) | (with_reducible refine belowDrewN ?_ _) | (with_reducible refine Below.alloc ?_ ?_ _) | (with_reducible refine Below.setCell ?_ ?_ _) | (with_reducible refine belowStep (by assumption) ?_ ?_) | (with_reducible exact Below.size (by assumption)) | go_size))))).mono ?_; rintro e w18 ⟨rfl, hb18⟩; have hz18 := hb18.size; (try simp only [World.heap_drewN] at hz18)
      have R12 := Lib.hid (hr12.below (show Below w12.heap.size w12 w18 by (repeat' (first | (with_reducible exact Below.refl _ _) | (with_reducible assumption) | (with_reducible refine Below.drew ?_) | (with_reducible refine belowDrewN ?_ _) | (with_reducible refine Below.alloc ?_ ?_ _) | (with_reducible refine Below.setCell ?_ ?_ _) | (with_reducible refine belowStep (by assumption) ?_ ?_) | (with_reducible exact Below.size (by assumption)) | go_size))))
      have R14 := Lib.hid (hr14.below (show Below w14.heap.size w14 w18 by (repeat' (first | (with_reducible exact Below.refl _ _) | (with_reducible assumption) | (with_reducible refine Below.drew ?_) | (with_reducible refine belowDrewN ?_ _) | (with_reducible refine Below.alloc ?_ ?_ _) | (with_reducible refine Below.setCell ?_ ?_ _) | (with_reducible refine belowStep (by assumption) ?_ ?_) | (with_reducible exact Below.size (by assumption)) | go_size))))
      have hbw18 : Below w.heap.size w w18 := by (repeat' (first | (with_reducible exact Below.refl _ _) | (with_reducible assumption) | (with_reducible refine Below.drew ?_) | (with_reducible refine belowDrewN ?_ _) | (with_reducible refine Below.alloc ?_ ?_ _) | (with_reducible refine Below.setCell ?_ ?_ _) | (with_reducible refine belowStep (by assumption) ?_ ?_) | (with_reducible exact Below.size (by assumption)) | go_size))
      have hzw18 := hbw18.size
      have TS := Lib.hid (TwoAt.new w18 (eN zs) (eD zs) 38)
      obtain ⟨ws, hws⟩ : ∃ x : World, x = w18.alloc (.cells #[.int .i64 (eN zs), .int .i64 (eD zs)] 38) := ⟨_, rfl⟩
      have hbs18 : Below w18.heap.size w18 ws := by rw [hws]; (repeat' (first | (with_reducible exact Below.refl _ _) | (with_reducible assumption) | (with_reducible refine Below.drew ?_) | (with_reducible refine belowDrewN ?_ _) | (with_reducible refine Below.alloc ?_ ?_ _) | (with_reducible refine Below.setCell ?_ ?_ _) | (with_reducible refine belowStep (by assumption) ?_ ?_) | (with_reducible exact Below.size (by assumption)) | go_size))
      clear hr12 hr13 hr14 hr15 ho12 ho14 HZ2 HZ3 J1 J2 J3 J4 JS
      go_upto_region 23 with fail
      go_cut [178] (fun s wx => s = .bool (T2 && expB zs) ∧ wx = ws)
      case first =>
        as_aux_lemma =>
          cases T2 <;> (go_wp2_with fail; go_meet; exact ⟨by simp, by rw [hws]⟩)
      case rest =>
        obtain ⟨rfl, hwe⟩ := hcut
        rw [hwe]
        clear hwe
        rw [← hws] at TS
        have Hws := Lib.hid hws
        clear hws
        go_upto_if 178 with fail
        go_cut [] (fun wx => Below ws.heap.size ws wx)
        case first =>
          as_aux_lemma =>
            cases hTX : (T2 && expB zs) with
            | false =>
              go_wp2_with fail
              go_meet
              (repeat' (first | (with_reducible exact Below.refl _ _) | (with_reducible assumption) | (with_reducible refine Below.drew ?_) | (with_reducible refine belowDrewN ?_ _) | (with_reducible refine Below.alloc ?_ ?_ _) | (with_reducible refine Below.setCell ?_ ?_ _) | (with_reducible refine belowStep (by assumption) ?_ ?_) | (with_reducible exact Below.size (by assumption)) | go_size))
            | true =>
              obtain ⟨t2, x2⟩ : T2 = true ∧ expB zs = true := by simpa using hTX
              have hp := HT2.out t2
              obtain ⟨q1, q2, q3, q4, q5⟩ := po_told hp
              obtain ⟨m1, m2, m3⟩ := po_half hp
              have HSL := Lib.hid (sum_known q3)
              have HM := Lib.hid fun (w : World) => add_yes (sumN L2) (sumD L2) (sumN L2) (sumD L2) w (good_sum q3) (good_sum q3)
              rw [m1, m2, m3, ← (eNeD q1).1, ← (eNeD q1).2] at HM
              clear hp q1 q2 q3 q4 q5 m1 m2 m3 HT2 HT3 t2 x2 hTX
              obtain ⟨oS1, oS2, oS3, oS4, oS5⟩ := TS.out
              generalize eN zs = a1 at *
              generalize eD zs = a2 at *
              generalize sumN L2 = a5 at *
              generalize sumD L2 = a6 at *
              go_wp2_with fail
              refine (HSL.out _ _ _ ((R12.out.below hbs18).below (by (repeat' (first | (with_reducible exact Below.refl _ _) | (with_reducible assumption) | (with_reducible refine Below.drew ?_) | (with_reducible refine belowDrewN ?_ _) | (with_reducible refine Below.alloc ?_ ?_ _) | (with_reducible refine Below.setCell ?_ ?_ _) | (with_reducible refine belowStep (by assumption) ?_ ?_) | (with_reducible exact Below.size (by assumption)) | go_size))))).mono ?_; rintro e w19 ⟨rfl, hb19⟩; have hz19 := hb19.size; (try simp only [World.size_alloc, World.size_setCell, World.size_drew, World.heap_drewN] at hz19)
              obtain ⟨hc19, hf19⟩ := bcellB hb19; have hz19 := hb19.size; (try simp only [World.size_alloc, World.size_setCell, World.size_drew, World.heap_drewN] at hc19 hf19 hz19); (try have hy19_00 : w18.heap.size < w19.heap.size := by omega); (try have hn19_00 : w18.heap.size ≠ w19.heap.size := by omega); (try have hm19_00 : w19.heap.size ≠ w18.heap.size := by omega); (try have hp19_00 : w18.heap.size < w19.heap.size + 1 := by omega); (try have hy19_01 : w18.heap.size + 1 < w19.heap.size := by omega); (try have hn19_01 : w18.heap.size + 1 ≠ w19.heap.size := by omega); (try have hm19_01 : w19.heap.size ≠ w18.heap.size + 1 := by omega); (try have hp19_01 : w18.heap.size + 1 < w19.heap.size + 1 := by omega)
              go_wp2_with fail
              refine (HM.out _).mono ?_; rintro e w20 ⟨rfl, hb20⟩; have hz20 := hb20.size; (try simp only [World.size_alloc] at hz20)
              obtain ⟨hc20, hf20⟩ := bcellB hb20; have hz20 := hb20.size; (try simp only [World.size_alloc] at hc20 hf20 hz20); (try have hy20_00 : w18.heap.size < w20.heap.size := by omega); (try have hn20_00 : w18.heap.size ≠ w20.heap.size := by omega); (try have hm20_00 : w20.heap.size ≠ w18.heap.size := by omega); (try have hp20_00 : w18.heap.size < w20.heap.size + 1 := by omega); (try have hy20_01 : w18.heap.size + 1 < w20.heap.size := by omega); (try have hn20_01 : w18.heap.size + 1 ≠ w20.heap.size := by omega); (try have hm20_01 : w20.heap.size ≠ w18.heap.size + 1 := by omega); (try have hp20_01 : w18.heap.size + 1 < w20.heap.size + 1 := by omega); (try have hy20_10 : w19.heap.size < w20.heap.size := by omega); (try have hn20_10 : w19.heap.size ≠ w20.heap.size := by omega); (try have hm20_10 : w20.heap.size ≠ w19.heap.size := by omega); (try have hp20_10 : w19.heap.size < w20.heap.size + 1 := by omega); (try have hy20_11 : w19.heap.size + 1 < w20.heap.size := by omega); (try have hn20_11 : w19.heap.size + 1 ≠ w20.heap.size := by omega); (try have hm20_11 : w20.heap.size ≠ w19.heap.size + 1 := by omega); (try have hp20_11 : w19.heap.size + 1 < w20.heap.size + 1 := by omega)
              go_wp2_with fail
              go_meet
              (repeat' (first | (with_reducible exact Below.refl _ _) | (with_reducible assumption) | (with_reducible refine Below.drew ?_) | (with_reducible refine belowDrewN ?_ _) | (with_reducible refine Below.alloc ?_ ?_ _) | (with_reducible refine Below.setCell ?_ ?_ _) | (with_reducible refine belowStep (by assumption) ?_ ?_) | (with_reducible exact Below.size (by assumption)) | go_size))
        case rest =>
          obtain ⟨w21, rfl⟩ : ∃ x : World, x = wc := ⟨_, rfl⟩
          have hb21 := hcut
          have hz21 := hb21.size
          have hzs := hbs18.size
          have TS := Lib.hid (TS.out.below hb21)
          clear hcut HT2
          go_upto_region 28 with fail
          go_cut [204] (fun s wx => s = .bool (T3 && expB zs) ∧ wx = w21)
          case first =>
            as_aux_lemma =>
              cases T3 <;> (go_wp2_with fail; go_meet; exact ⟨by simp, rfl⟩)
          case rest =>
            obtain ⟨rfl, hwe⟩ := hcut
            rw [hwe]
            clear hwe
            go_upto_if 204 with fail
            go_cut [] (fun wx => Below w21.heap.size w21 wx)
            case first =>
              as_aux_lemma =>
                cases hTX : (T3 && expB zs) with
                | false =>
                  go_wp2_with fail
                  go_meet
                  (repeat' (first | (with_reducible exact Below.refl _ _) | (with_reducible assumption) | (with_reducible refine Below.drew ?_) | (with_reducible refine belowDrewN ?_ _) | (with_reducible refine Below.alloc ?_ ?_ _) | (with_reducible refine Below.setCell ?_ ?_ _) | (with_reducible refine belowStep (by assumption) ?_ ?_) | (with_reducible exact Below.size (by assumption)) | go_size))
                | true =>
                  obtain ⟨t2, x2⟩ : T3 = true ∧ expB zs = true := by simpa using hTX
                  have hp := HT3.out t2
                  obtain ⟨q1, q2, q3, q4, q5⟩ := po_told hp
                  obtain ⟨m1, m2, m3⟩ := po_third hp
                  have HSL := Lib.hid (sum_known q3)
                  have HM := Lib.hid fun (w : World) => mul_yes (sumN zs) (sumD zs) 2 3 w (good_sum q1) (by decide +kernel)
                  rw [m1, m2, m3, ← (eNeD q1).1, ← (eNeD q1).2] at HM
                  clear hp q1 q2 q3 q4 q5 m1 m2 m3 HT3 t2 x2 hTX
                  obtain ⟨oS1, oS2, oS3, oS4, oS5⟩ := TS.out
                  generalize eN zs = a1 at *
                  generalize eD zs = a2 at *
                  generalize sumN L3 = a5 at *
                  generalize sumD L3 = a6 at *
                  go_wp2_with fail
                  refine (HSL.out _ _ _ (((R14.out.below hbs18).below hb21).below (by (repeat' (first | (with_reducible exact Below.refl _ _) | (with_reducible assumption) | (with_reducible refine Below.drew ?_) | (with_reducible refine belowDrewN ?_ _) | (with_reducible refine Below.alloc ?_ ?_ _) | (with_reducible refine Below.setCell ?_ ?_ _) | (with_reducible refine belowStep (by assumption) ?_ ?_) | (with_reducible exact Below.size (by assumption)) | go_size))))).mono ?_; rintro e w22 ⟨rfl, hb22⟩; have hz22 := hb22.size; (try simp only [World.size_alloc, World.size_setCell, World.size_drew, World.heap_drewN] at hz22)
                  obtain ⟨hc22, hf22⟩ := bcellB hb22; have hz22 := hb22.size; (try simp only [World.size_alloc, World.size_setCell, World.size_drew, World.heap_drewN] at hc22 hf22 hz22); (try have hy22_00 : w18.heap.size < w22.heap.size := by omega); (try have hn22_00 : w18.heap.size ≠ w22.heap.size := by omega); (try have hm22_00 : w22.heap.size ≠ w18.heap.size := by omega); (try have hp22_00 : w18.heap.size < w22.heap.size + 1 := by omega); (try have hy22_01 : w18.heap.size + 1 < w22.heap.size := by omega); (try have hn22_01 : w18.heap.size + 1 ≠ w22.heap.size := by omega); (try have hm22_01 : w22.heap.size ≠ w18.heap.size + 1 := by omega); (try have hp22_01 : w18.heap.size + 1 < w22.heap.size + 1 := by omega)
                  go_wp2_with fail
                  refine (HM.out _).mono ?_; rintro e w23 ⟨rfl, hb23⟩; have hz23 := hb23.size; (try simp only [World.size_alloc] at hz23)
                  obtain ⟨hc23, hf23⟩ := bcellB hb23; have hz23 := hb23.size; (try simp only [World.size_alloc] at hc23 hf23 hz23); (try have hy23_00 : w18.heap.size < w23.heap.size := by omega); (try have hn23_00 : w18.heap.size ≠ w23.heap.size := by omega); (try have hm23_00 : w23.heap.size ≠ w18.heap.size := by omega); (try have hp23_00 : w18.heap.size < w23.heap.size + 1 := by omega); (try have hy23_01 : w18.heap.size + 1 < w23.heap.size := by omega); (try have hn23_01 : w18.heap.size + 1 ≠ w23.heap.size := by omega); (try have hm23_01 : w23.heap.size ≠ w18.heap.size + 1 := by omega); (try have hp23_01 : w18.heap.size + 1 < w23.heap.size + 1 := by omega); (try have hy23_10 : w22.heap.size < w23.heap.size := by omega); (try have hn23_10 : w22.heap.size ≠ w23.heap.size := by omega); (try have hm23_10 : w23.heap.size ≠ w22.heap.size := by omega); (try have hp23_10 : w22.heap.size < w23.heap.size + 1 := by omega); (try have hy23_11 : w22.heap.size + 1 < w23.heap.size := by omega); (try have hn23_11 : w22.heap.size + 1 ≠ w23.heap.size := by omega); (try have hm23_11 : w23.heap.size ≠ w22.heap.size + 1 := by omega); (try have hp23_11 : w22.heap.size + 1 < w23.heap.size + 1 := by omega)
                  go_wp2_with fail
                  go_meet
                  (repeat' (first | (with_reducible exact Below.refl _ _) | (with_reducible assumption) | (with_reducible refine Below.drew ?_) | (with_reducible refine belowDrewN ?_ _) | (with_reducible refine Below.alloc ?_ ?_ _) | (with_reducible refine Below.setCell ?_ ?_ _) | (with_reducible refine belowStep (by assumption) ?_ ?_) | (with_reducible exact Below.size (by assumption)) | go_size))
            case rest =>
              obtain ⟨w25, rfl⟩ : ∃ x : World, x = wc := ⟨_, rfl⟩
              have hb25 := hcut
              have hz25 := hb25.size
              have hbw25 : Below w.heap.size w w25 := by (repeat' (first | (with_reducible exact Below.refl _ _) | (with_reducible assumption) | (with_reducible refine Below.drew ?_) | (with_reducible refine belowDrewN ?_ _) | (with_reducible refine Below.alloc ?_ ?_ _) | (with_reducible refine Below.setCell ?_ ?_ _) | (with_reducible refine belowStep (by assumption) ?_ ?_) | (with_reducible exact Below.size (by assumption)) | go_size))
              clear hcut HT3 TS
              go_wp2_with fail
              refine (HDS.out _ (by (repeat' (first | (with_reducible exact Below.refl _ _) | (with_reducible assumption) | (with_reducible refine Below.drew ?_) | (with_reducible refine belowDrewN ?_ _) | (with_reducible refine Below.alloc ?_ ?_ _) | (with_reducible refine Below.setCell ?_ ?_ _) | (with_reducible refine belowStep (by assumption) ?_ ?_) | (with_reducible exact Below.size (by assumption)) | go_size)))).mono ?_; rintro e w26 ⟨x, p, rfl, x0, x1, p0, p1, hb26⟩
              have hz26 := hb26.size
              have K1 := Lib.hid fun (w : World) => shares_any x p w
              have K2 := Lib.hid fun (w : World) => spec_shares_any x p w
              obtain ⟨L5, T5, e5, e6, hL5, hT5⟩ := opt_told (shO x p) (shO_len x p)
              rw [e5, e6] at K1 K2
              have HZ5 := Lib.hid (zSame_own L5 (by omega))
              have HT5 := Lib.hid hT5
              clear e5 e6 hT5
              go_wp2_with fail
              refine (K1.out _).mono ?_; rintro e w27 ⟨v27, rfl, ho27, hb27⟩; have hz27 := hb27.size; (try simp only [World.size_alloc, World.size_setCell, World.size_drew, World.heap_drewN] at hz27)
              obtain ⟨A27, c27, rfl, hr27⟩ := ho27.form
              go_wp2_with fail
              refine (K2.out _).mono ?_; rintro e w28 ⟨A28, c28, rfl, hr28, hb28⟩; have hz28 := hb28.size; (try simp only [World.size_alloc, World.size_setCell, World.size_drew, World.heap_drewN] at hz28)
              go_wp2_with fail
              refine (HZ5.out _ _ _ _ _ (hr27.below (by (repeat' (first | (with_reducible exact Below.refl _ _) | (with_reducible assumption) | (with_reducible refine Below.drew ?_) | (with_reducible refine belowDrewN ?_ _) | (with_reducible refine Below.alloc ?_ ?_ _) | (with_reducible refine Below.setCell ?_ ?_ _) | (with_reducible refine belowStep (by assumption) ?_ ?_) | (with_reducible exact Below.size (by assumption)) | go_size)))) (hr28.below (by (repeat' (first | (with_reducible exact Below.refl _ _) | (with_reducible assumption) | (with_reducible refine Below.drew ?_) | (with_reducible refine belowDrewN ?_ _) | (with_reducible refine Below.alloc ?_ ?_ _) | (with_reducible refine Below.setCell ?_ ?_ _) | (with_reducible refine belowStep (by assumption) ?_ ?_) | (with_reducible exact Below.size (by assumption)) | go_size))))).mono ?_; rintro e w29 ⟨rfl, k29, rfl⟩
              have R27 := Lib.hid hr27
              clear hr27 hr28 ho27
              cases T5 with
              | false =>
                go_wp2
                go_ret
                exact ⟨rfl, by (repeat' (first | (with_reducible exact Below.refl _ _) | (with_reducible assumption) | (with_reducible refine Below.drew ?_) | (with_reducible refine belowDrewN ?_ _) | (with_reducible refine Below.alloc ?_ ?_ _) | (with_reducible refine Below.setCell ?_ ?_ _) | (with_reducible refine belowStep (by assumption) ?_ ?_) | (with_reducible exact Below.size (by assumption)) | go_size))⟩
              | true =>
                obtain ⟨q1, q2, q3, q4, q5, q6, q7, q8⟩ := sh_told (HT5.out rfl)
                have HSL := Lib.hid (sum_known q5)
                have HM := Lib.hid fun (w : World) => make_yes x p w q3 q1 (by omega) (by omega)
                rw [q6, q7, q8] at HM
                generalize sumN L5 = a5 at *
                generalize sumD L5 = a6 at *
                clear q1 q2 q3 q4 q5 q6 q7 q8 HT5
                go_wp2_with fail
                refine (HSL.out _ _ _ (R27.out.below (by (repeat' (first | (with_reducible exact Below.refl _ _) | (with_reducible assumption) | (with_reducible refine Below.drew ?_) | (with_reducible refine belowDrewN ?_ _) | (with_reducible refine Below.alloc ?_ ?_ _) | (with_reducible refine Below.setCell ?_ ?_ _) | (with_reducible refine belowStep (by assumption) ?_ ?_) | (with_reducible exact Below.size (by assumption)) | go_size))))).mono ?_; rintro e w30 ⟨rfl, hb30⟩; have hz30 := hb30.size; (try simp only [World.heap_drewN] at hz30)
                obtain ⟨hc30, hf30⟩ := bcellB hb30; have hz30 := hb30.size; (try simp only [World.heap_drewN] at hc30 hf30 hz30)
                go_wp2_with fail
                refine (HM.out _).mono ?_; rintro e w31 ⟨rfl, hb31⟩; have hz31 := hb31.size; (try simp only [World.size_alloc] at hz31)
                obtain ⟨hc31, hf31⟩ := bcellB hb31; have hz31 := hb31.size; (try simp only [World.size_alloc] at hc31 hf31 hz31); (try have hy31_00 : w30.heap.size < w31.heap.size := by omega); (try have hn31_00 : w30.heap.size ≠ w31.heap.size := by omega); (try have hm31_00 : w31.heap.size ≠ w30.heap.size := by omega); (try have hp31_00 : w30.heap.size < w31.heap.size + 1 := by omega); (try have hy31_01 : w30.heap.size + 1 < w31.heap.size := by omega); (try have hn31_01 : w30.heap.size + 1 ≠ w31.heap.size := by omega); (try have hm31_01 : w31.heap.size ≠ w30.heap.size + 1 := by omega); (try have hp31_01 : w30.heap.size + 1 < w31.heap.size + 1 := by omega)
                go_wp2
                go_ret
                exact ⟨rfl, by (repeat' (first | (with_reducible exact Below.refl _ _) | (with_reducible assumption) | (with_reducible refine Below.drew ?_) | (with_reducible refine belowDrewN ?_ _) | (with_reducible refine Below.alloc ?_ ?_ _) | (with_reducible refine Below.setCell ?_ ?_ _) | (with_reducible refine belowStep (by assumption) ?_ ?_) | (with_reducible exact Below.size (by assumption)) | go_size))⟩
set_option maxRecDepth 100000 in
theorem FnProductsOfExpansions_lifted (os : Os) (started : os.Started) (H : Type) (enc : TypeId × Value → H) :
    ReturnsInHanded {} Try.checked os 5 .any (Rows.fnProductsOfExpansionsSpec.pre6 enc Try.prog Try.f5 Rows.fnProductsOfExpansionsRow.domain false) (Rows.fnProductsOfExpansionsSpec.post enc Try.prog Try.f5 false true false false) := by
  refine returnsInHanded_of_change (C := Try.checked) own started (by kernel_rfl) Try.func5
    (ChangeSpec.witness6 (enc := enc) (C := Try.checked) false ⟨#[], #[.slice none 0 0, .slice none 0 0], []⟩ 8 (by kernel_rfl) (by kernel_rfl) (by kernel_rfl) (by kernel_rfl)) ?_
  intro W base args ds gs before hval0 hW hcnd _
  have hval : ∀ (j : Nat) t v, Try.f5.params[j]? = some t → args[j]? = some v → Value.okWide Try.prog W .any base t v := hval0
  have hW' := hW
  have hlt : ∀ p ∈ before, p.block < W.heap.size := fun p hp => hW'.lt p hp
  obtain ⟨p, q, hA0, hV, rfl, hfz, hnd⟩ := hW
  have hA : DataW.TrodAll enc Try.prog W 0 (fun _ => true) true Try.f5.params.toList args.toList ds p := hA0
  rw [Try.params5] at hA hval
  obtain ⟨v0, vs0, d0, ds0, p0, q0, hargs, rfl, rfl, h0, r0⟩ := trodAll_cons hA
  obtain ⟨v1, vs1, d1, ds1, p1, q1, rfl, rfl, rfl, h1, r1⟩ := trodAll_cons r0
  obtain ⟨rfl, rfl, rfl⟩ := trodAll_nil r1
  obtain rfl : args = #[v0, v1] := by cases args; simp_all
  obtain ⟨rfl, rfl⟩ := trodVars_none hV
  obtain ⟨Aa, ca, na, rfl, ha⟩ := open_bytes_reads Try.underlying22 Try.underlying5 (by kernel_rfl) (hval 0 22 v0 rfl rfl) h0 (fun y hy => hlt y (by simp [hy]))
  obtain ⟨Ab, cb, nb, rfl, hb⟩ := open_bytes_reads Try.underlying22 Try.underlying5 (by kernel_rfl) (hval 1 22 v1 rfl rfl) h1 (fun y hy => hlt y (by simp [hy]))
  refine (FnProductsOfExpansions_walk W Aa ca na Ab cb nb ha hb).mono fun e W' ⟨he, hg⟩ => ?_
  subst he
  exact ⟨_, rfl, law_post laidOut (by rw [Try.params5]; intro t ht; simp only [List.mem_cons, List.not_mem_nil, or_false] at ht; rcases ht with rfl | rfl <;> exact ⟨by kernel_rfl, of_decide_eq_true (by kernel_rfl)⟩) (by kernel_rfl) Try.underlying4 rfl hW' rfl hg⟩

theorem FnProductsOfExpansions_closed : joinedFacts Try.prog 5 Try.f5 Rows.fnProductsOfExpansionsSpec Rows.fnProductsOfExpansionsRow = true := by
  unfold joinedFacts
  rw [mayEnter_eq, lifts_eq, make_eq]
  kernel_rfl

theorem FnProductsOfExpansions_holds : Rows.FnProductsOfExpansionsSaid :=
  OpenClaim.holds_of_wide 5 Try.f5 rfl rfl rfl rfl rfl rfl rfl ⟨rfl, rfl, rfl, rfl, rfl⟩ rfl rfl rfl rfl rfl (by kernel_rfl) Try.func5 FnProductsOfExpansions_closed
    (of_decide_eq_true (by kernel_rfl)) (by unfold Func.isWrapper; first | (rw [if_pos (by decide +kernel)]; kernel_rfl) | (rw [if_neg (by decide +kernel)]; exact ⟨rfl, rfl⟩))
    (fun os started H enc _ => FnProductsOfExpansions_lifted os started H enc)

end Go.Proofs.Ytleookfdngnphaa
