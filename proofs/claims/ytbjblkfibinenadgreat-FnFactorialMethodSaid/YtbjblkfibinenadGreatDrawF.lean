
/-
  Contracts of the draws for the law on the method by factorials.
-/
import Derived.Test.YtbjblkfibinenadGreatDrawP
import Derived.Test.YtbjblkfibinenadGreatFacC
namespace Go.Proofs.YtbjblkfibinenadGreat
open Go.RowKit
theorem RetQ.retF {v : Value} {w : World} {e : Ending} {w' : World} (h : RetQ v w e w') : Ret v w e w' := by
  obtain ⟨rfl, k, rfl⟩ := h
  exact ⟨rfl, by (repeat' (first | (with_reducible exact Below.refl _ _) | (with_reducible assumption) | (with_reducible refine Below.drew ?_) | (with_reducible refine belowDrewN ?_ _) | (with_reducible refine Below.alloc ?_ ?_ _) | (with_reducible refine Below.setCell ?_ ?_ _) | (with_reducible refine belowStep (by assumption) ?_ ?_) | (with_reducible exact Below.size (by assumption)) | go_size))⟩
theorem l1Least_any (a b : Int) (w : World) : Calls Tryz.prog 66 #[.int .i64 a, .int .i64 b] w (RetQ (.int .i64 (min a b)) w) := by
  by_cases h : a < b
  · have E : Hid (min a b = a) := Lib.hid (by omega)
    go_enter Tryz.func66, Tryz.ntmps66
    go_wp2
    go_ret
    exact ⟨ret_int E.out.symm, 0, rfl⟩
  · have E : Hid (min a b = b) := Lib.hid (by omega)
    go_enter Tryz.func66, Tryz.ntmps66
    go_wp2
    go_ret
    exact ⟨ret_int E.out.symm, 0, rfl⟩
theorem red_smallF {x y : Int} (hx : 0 ≤ x) (hx2 : x ≤ 1000000000) (hy : 1 ≤ y) (hy2 : y ≤ 1000000000) : (-9223372036854775808 ≤ x / gcdI x y ∧ x / gcdI x y ≤ 9223372036854775807) ∧ (-9223372036854775808 ≤ y / gcdI x y ∧ y / gcdI x y ≤ 9223372036854775807) := by
  have := Int.ediv_le_self (gcdI x y) hx
  have := Int.ediv_le_self (gcdI x y) (by omega : 0 ≤ y)
  have := gcdI_nonneg x y
  have := Int.ediv_nonneg hx this
  have := Int.ediv_nonneg (by omega : 0 ≤ y) (gcdI_nonneg x y)
  omega
set_option maxRecDepth 100000 in
set_option maxHeartbeats 8000000 in
theorem factored_any (w0 w : World) (g n : Nat) (hn : n ≤ 9000) (h : Cur w0 w g n) : Calls Tryz.prog 43 #[.pointer (some ⟨g, 0, none⟩)] w (DrawF w0 w g (n + 60)) := by
  have HC := Lib.hid (h.below ((Below.refl _ _).alloc (Nat.le_refl _) (.cells #[.int .i64 0, .int .i64 0] 25)))
  obtain ⟨b1, b2, b3⟩ := h.base
  clear h
  have T0 := Lib.hid (TwoAt.new w 0 0 25)
  go_enter Tryz.func43, Tryz.ntmps43
  go_wp2_with fail
  refine (oneP_any w0 _ g n (by omega) _ (by omega) HC.out).mono ?_; rintro e w1 ⟨o, rfl, hc1, hg1⟩
  have HC1 := Lib.hid hc1
  have T1 := Lib.hid (T0.out.grown hg1 (by omega))
  have Hg1 := Lib.hid ((grownAlloc (World.grownBy.refl w (some g)) (Nat.le_refl _) _).trans hg1)
  have hz1 := hg1.size
  simp only [World.size_alloc] at hz1
  clear hc1 hg1
  cases o with
  | true =>
    go_wp2_with fail
    refine (proper_any w0 _ g (n + 2) (by omega) HC1.out).mono ?_; rintro e w2 ⟨a, b, rfl, ha, hb, hc2, hg2⟩
    have HC2 := Lib.hid hc2
    have Hg2 := Lib.hid (Hg1.out.trans hg2)
    have hz2 := hg2.size
    obtain ⟨t1, t2, t3, t4, t5⟩ := T1.out.grown hg2 (by omega)
    clear hc2 hg2
    go_wp2
    refine bodyPost_ret (by simp [results, Tryz.results43, go_sem, *]; try rfl) rfl ?_
    exact ⟨a, b, rfl, ha, hb, ((HC2.out.more (by omega)).set (by omega) (by omega) _ _).set (by omega) (by omega) _ _, grownSetNew (grownSetNew Hg2.out (Nat.le_refl _) _ _) (Nat.le_refl _) _ _⟩
  | false =>
    go_wp2_with fail
    refine (pick_any w0 _ _ (n + 2) (by omega) _ (by omega) HC1.out).mono ?_; rintro e w2 ⟨p, rfl, p0, p1, hc2, hg2⟩
    have HC2 := Lib.hid hc2
    have T2 := Lib.hid (T1.out.grown hg2 (by omega))
    have Hg2 := Lib.hid (Hg1.out.trans hg2)
    have hz2 := hg2.size
    clear hc2 hg2
    obtain ⟨m, hm⟩ : ∃ m : Nat, (m : Int) = 2 + p := ⟨(2 + p).toNat, by omega⟩
    have hm12 : m ≤ 12 := by omega
    have hm2 : 2 ≤ m := by omega
    have HF := Lib.hid fun (w : World) => (show Calls Tryz.prog 47 #[.int .i64 (2 + p)] w (RetQ (.int .i64 (fac m)) w) by rw [← hm]; exact meFactorial_any m w hm12)
    have hf := fac_in hm12
    have hf2 := fac_mono hm2
    rw [show fac 2 = 2 from rfl] at hf2
    clear hm
    go_wp2_with fail
    refine ((HF.out _).mono fun _ _ h => h.retF).mono ?_; rintro e w3 ⟨rfl, hb3⟩
    have HC3 := Lib.hid (HC2.out.below hb3)
    have T3 := Lib.hid (T2.out.below hb3)
    have Hg3 := Lib.hid (grownBelow Hg2.out (by omega) hb3)
    have hz3 := hb3.size
    clear hb3
    generalize fac m = F at *
    go_wp2_with fail
    refine ((l1Least_any _ _ _).mono fun _ _ h => h.retF).mono ?_; rintro e w4 ⟨rfl, hb4⟩
    have HC4 := Lib.hid (HC3.out.below hb4)
    have T4 := Lib.hid (T3.out.below hb4)
    have Hg4 := Lib.hid (grownBelow Hg3.out (by omega) hb4)
    have hz4 := hb4.size
    clear hb4
    obtain ⟨M, hM⟩ : ∃ M, M = min (F - 1) 60000 := ⟨_, rfl⟩
    have hM1 : M ≤ 60000 := by omega
    have hM2 : 1 ≤ M := by omega
    rw [← hM]
    clear hM
    go_wp2_with fail
    refine (pick_any w0 _ _ (n + 4) (by omega) _ (by omega) HC4.out).mono ?_; rintro e w5 ⟨q, rfl, q0, q1, hc5, hg5⟩
    have HC5 := Lib.hid hc5
    have T5 := Lib.hid (T4.out.grown hg5 (by omega))
    have Hg5 := Lib.hid (Hg4.out.trans hg5)
    have hz5 := hg5.size
    clear hc5 hg5
    go_wp2_with fail
    refine (unMake_any _ _ _ (by omega) (by omega) (by omega) (by omega)).mono ?_; rintro e w6 ⟨rfl, hb6⟩
    have hsm := red_smallF (x := 1 + q) (y := F) (by omega) (by omega) (by omega) (by omega)
    generalize (1 + q) / gcdI (1 + q) F = a at *
    generalize F / gcdI (1 + q) F = b at *
    have Hsm := Lib.hid hsm
    have HC6 := Lib.hid (HC5.out.below hb6)
    have Hg6 := Lib.hid (grownBelow Hg5.out (by omega) hb6)
    obtain ⟨t1, t2, t3, t4, t5⟩ := T5.out.below hb6
    have hz6 := hb6.size
    clear hsm hb6
    go_wp2
    refine bodyPost_ret (by simp [results, Tryz.results43, go_sem, *]; try rfl) rfl ?_
    exact ⟨a, b, rfl, Hsm.out.1, Hsm.out.2, ((HC6.out.more (by omega)).set (by omega) (by omega) _ _).set (by omega) (by omega) _ _, grownSetNew (grownSetNew Hg6.out (Nat.le_refl _) _ _) (Nat.le_refl _) _ _⟩
def slenF : Value → Nat | .slice _ n _ => n | _ => 0
set_option maxRecDepth 100000 in
set_option maxHeartbeats 2000000 in
theorem drawFactored_any (w : World) (A : Option Addr) (n c : Nat) (hr : ReadsB w A n) (hn : n ≤ 1048576) : Calls Tryz.prog 16 #[.slice A n c] w (fun e w' => ∃ a b : Int, e = .returned (.agg #[.int .i64 a, .int .i64 b]) ∧ (-9223372036854775808 ≤ a ∧ a ≤ 9223372036854775807) ∧ (-9223372036854775808 ≤ b ∧ b ≤ 9223372036854775807) ∧ Below w.heap.size w w') := by
  have T0 := Lib.hid (TwoAt.new w 0 0 25)
  have hc0 := beginP (w.alloc (.cells #[.int .i64 0, .int .i64 0] 25)) A n c 46 (hr.below ((Below.refl _ _).alloc (Nat.le_refl _) _)) hn
  rw [World.size_alloc] at hc0
  have HC0 := Lib.hid hc0
  clear hr hc0
  go_enter Tryz.func16, Tryz.ntmps16
  go_wp2_with fail
  refine (factored_any (w.alloc (.cells #[.int .i64 0, .int .i64 0] 25)) _ (w.heap.size + 1) 0 (by omega) HC0.out).mono ?_; rintro e w2 ⟨a, b, rfl, ha, hb, hc2, hg2⟩
  have hbs := hc2.base.2.2
  have hz2 := hg2.size
  simp only [World.size_alloc] at hz2
  obtain ⟨t1, t2, t3, t4, t5⟩ := T0.out.below hbs
  have hbw : Below w.heap.size w w2 := by (repeat' (first | (with_reducible exact Below.refl _ _) | (with_reducible assumption) | (with_reducible refine Below.drew ?_) | (with_reducible refine belowDrewN ?_ _) | (with_reducible refine Below.alloc ?_ ?_ _) | (with_reducible refine Below.setCell ?_ ?_ _) | (with_reducible refine belowStep (by assumption) ?_ ?_) | (with_reducible exact Below.size (by assumption)) | go_size))
  clear hc2 hg2 hbs
  go_wp2
  refine bodyPost_ret (by simp [results, Tryz.results16, go_sem, *]; try rfl) rfl ?_
  exact ⟨a, b, rfl, ha, hb, (hbw.setCell (Nat.le_refl _) _).setCell (Nat.le_refl _) _⟩
set_option maxRecDepth 100000 in
set_option maxHeartbeats 8000000 in
theorem drawFromFactorial_any (w : World) (A : Option Addr) (n c : Nat) (hr : ReadsB w A n) (hn : n ≤ 1048576) : Calls Tryz.prog 21 #[.slice A n c] w (DrawnL w) := by
  have HC0 := Lib.hid (beginP w A n c 46 hr hn)
  clear hr
  go_enter Tryz.func21, Tryz.ntmps21
  go_wp2_with fail
  refine (pick_any w _ w.heap.size 0 (by omega) _ (by omega) HC0.out).mono ?_; rintro e w1 ⟨x, rfl, x0, x1, hc1, hg1⟩
  have HC1 := Lib.hid hc1
  have hz1 := hg1.size
  simp only [World.size_alloc] at hz1
  clear hc1 hg1
  have hlt0 : w.heap.size < w.heap.size + 1 := by omega
  go_wp2
  go_loopw [4] (fun v4 wr => ∃ (zs : List Int) (A : Option Addr) (c : Nat), v4 = .slice A zs.length c ∧ zs.length ≤ 11 ∧ OwnI wr (w.heap.size + 1) (.slice A zs.length c) zs ∧ (∀ z ∈ zs, -9223372036854775808 ≤ z ∧ z ≤ 9223372036854775807) ∧ Cur w wr w.heap.size (2 + 2 * zs.length)) (fun v4 _ => 11 - slenF v4)
  case atStart => exact ⟨[], none, 0, rfl, by simp, OwnI.empty _ _, (fun z hz => by cases hz), HC1.out⟩
  case round =>
    obtain ⟨zs, A, c, rfl, hzl, ho, hz64, hcr⟩ := hrel
    have Ho := Lib.hid ho
    have Hz64 := Lib.hid hz64
    have HCr := Lib.hid hcr
    obtain ⟨g1, g2, g3⟩ := hcr.base
    clear ho hz64 hcr
    by_cases hlt : (zs.length : Int) < x
    · go_wp2_with fail
      refine (pick_any w _ w.heap.size (2 + 2 * zs.length) (by omega) _ (by omega) HCr.out).mono ?_; rintro e w2 ⟨y, rfl, y0, y1, hc2, hg2⟩
      have HC2 := Lib.hid hc2
      have Ho2 := Lib.hid (Ho.out.grown hg2 hlt0)
      have hz2 := hg2.size
      clear hc2 hg2
      go_wp2_with (at_builtin; refine wpList_app _ (o := ⟨some 22, _, _, _, _, _⟩) (ys := [y]) rfl _ _ rfl rfl (OwnI.below Ho2.out ((Below.refl _ _).alloc (Nat.le_refl _) _)) (1) (1) (by first | (simp; done) | (simp; omega)) rfl (Reads.one _ y) (by (try simp only [List.length_nil, List.length_cons]); omega) (by first | exact Nat.le_refl _ | ((try simp only [World.size_alloc]); omega)) ?_; intro v3 w3 ho3 hb3 hg3 ht3; clear hg3 ht3; have hz3 := hb3.size; (try simp only [World.size_alloc] at hz3))
      obtain ⟨A4, c4, rfl, _⟩ := ho3.form
      go_roundw
      case rel => exact ⟨zs ++ [y], A4, c4, by simp, by simp; omega, by simpa using ho3, (fun u hu => by
          rcases List.mem_append.1 hu with hu | hu
          · exact Hz64.out u hu
          · simp only [List.mem_singleton] at hu; omega), ((HC2.out.below ((Below.refl _ _).alloc (Nat.le_refl _) _)).belowB hb3 hlt0).more (by simp; omega)⟩
      case measure => simp [slenF]; omega
    · go_wp2_with fail
      refine (pick_any w _ w.heap.size (2 + 2 * zs.length) (by omega) _ (by omega) HCr.out).mono ?_; rintro e w2 ⟨y, rfl, y0, y1, hc2, hg2⟩
      have HC2 := Lib.hid hc2
      have Ho2 := Lib.hid (Ho.out.grown hg2 hlt0)
      have hz2 := hg2.size
      clear hc2 hg2
      by_cases e0 : y = 0
      · subst e0
        go_wp2_with fail
        refine (pick_any w _ w.heap.size (4 + 2 * zs.length) (by omega) _ (by omega) (HC2.out.more (by omega))).mono ?_; rintro e w3 ⟨z, rfl, z0, z1, hc3, hg3⟩
        have HC3 := Lib.hid hc3
        have Ho3 := Lib.hid (Ho2.out.grown hg3 hlt0)
        have hz3 := hg3.size
        clear hc3 hg3
        go_wp2_with (at_builtin; refine wpList_app _ (o := ⟨some 32, _, _, _, _, _⟩) (ys := [z - 1]) rfl _ _ rfl rfl (OwnI.below Ho3.out ((Below.refl _ _).alloc (Nat.le_refl _) _)) (1) (1) (by first | (simp; done) | (simp; omega)) rfl (Reads.one _ (z - 1)) (by (try simp only [List.length_nil, List.length_cons]); omega) (by first | exact Nat.le_refl _ | ((try simp only [World.size_alloc]); omega)) ?_; intro v4 w4 ho4 hb4 hg4 ht4; clear hg4 ht4; have hz4 := hb4.size; (try simp only [World.size_alloc] at hz4))
        go_ret
        exact ⟨_, zs ++ [z - 1], rfl, ho4.mono (by omega), by simp; omega, (fun u hu => by
          rcases List.mem_append.1 hu with hu | hu
          · exact Hz64.out u hu
          · simp only [List.mem_singleton] at hu; omega), ((HC3.out.below ((Below.refl _ _).alloc (Nat.le_refl _) _)).belowB hb4 hlt0).base.2.2⟩
      · by_cases e1 : y = 1
        · subst e1
          go_wp2_with fail
          refine (pick_any w _ w.heap.size (4 + 2 * zs.length) (by omega) _ (by omega) (HC2.out.more (by omega))).mono ?_; rintro e w3 ⟨m, rfl, m0, m1, hc3, hg3⟩
          have HC3 := Lib.hid hc3
          have hz3 := hg3.size
          obtain ⟨M, hM⟩ : ∃ M : Nat, 11 + m = (M : Int) := ⟨(11 + m).toNat, by omega⟩
          have hM2 : M ≤ 12 := by omega
          have hmk : ∀ w : World, (Instr.makeSlice 30 (.int .i64 (M : Int)) (.int .i64 (M : Int))).run Tryz.prog w = .ok (.slice (some ⟨w.heap.size, 0, none⟩) M M) (w.alloc (.cells (madeCells #[.int .i64 0] M) 3)) := fun w =>
            run_make_row' 30 3 (.int .i64 0) 8 Tryz.underlying30 intInfo rfl .i64 .i64 M (by omega) (by omega) w
          have hwm : IntKind.i64.wrap (11 + m) = (M : Int) := by rw [hM]; exact IntWalk.i64_in _ (by omega)
          clear hc3 hg3
          have Ho4 : Hid (OwnI (w3.alloc (.cells (madeCells #[.int .i64 0] M) 3)) w.heap.size (.slice (some ⟨w3.heap.size, 0, none⟩) M M) (List.replicate M 0)) := Lib.hid (OwnI.atRow (by omega) (by omega) (heap_alloc_new w3 _))
          go_wp2
          go_ret
          exact ⟨_, List.replicate M 0, rfl, Ho4.out, by simp; omega, (fun u hu => by have := (List.mem_replicate.1 hu).2; omega), (HC3.out.below ((Below.refl _ _).alloc (Nat.le_refl _) _)).base.2.2⟩
        · have f0 : (y == 0) = false := by simp [e0]
          have f1 : (y == 1) = false := by simp [e1]
          clear e0 e1
          go_wp2
          go_ret
          exact ⟨_, zs, rfl, Ho2.out.mono (by omega), by omega, Hz64.out, HC2.out.base.2.2⟩
end Go.Proofs.YtbjblkfibinenadGreat
