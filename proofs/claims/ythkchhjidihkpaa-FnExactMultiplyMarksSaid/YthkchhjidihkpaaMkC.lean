
/-
  Contracts of the functions on marks in the program.
-/
import Derived.Test.YthkchhjidihkpaaAtC
import Derived.Test.YthkchhjidihkpaaRev
import Derived.Test.YthkchhjidihkpaaRise
import Derived.Test.YthkchhjidihkpaaInsP
import Derived.Test.YthkchhjidihkpaaDivC
namespace Go.Proofs.Ythkchhjidihkpaa
open Go.RowKit
theorem ints_reverse (l : List Nat) : ints l.reverse = (ints l).reverse := by unfold ints; rw [List.map_reverse]
theorem ints_snoc (l : List Nat) (x : Nat) : ints (l ++ [x]) = ints l ++ [(x : Int)] := by simp [ints]
/-- the quotient by doublings -/
def dqL (a b : Int) : List Int := if quoB a b = true then ints (dvF b.toNat 20 a.toNat).reverse else []
def dqZ (a b : Int) : Int := if quoB a b = true then ((dvR b.toNat 20 a.toNat : Nat) : Int) else 0
theorem dq_no {a b : Int} (h : quoB a b = false) : dqL a b = [] ∧ dqZ a b = 0 := by unfold dqL dqZ; rw [h]; exact ⟨rfl, rfl⟩
theorem dq_yes {A B : Nat} (h : quoB (A : Int) (B : Int) = true) : dqL (A : Int) (B : Int) = ints (dvF B 20 A).reverse ∧ dqZ (A : Int) (B : Int) = ((dvR B 20 A : Nat) : Int) := by unfold dqL dqZ; rw [if_pos h, if_pos h]; exact ⟨rfl, rfl⟩
theorem dqL_len (a b : Int) : (dqL a b).length ≤ 20 := by
  unfold dqL
  split
  · rw [ints_len, List.length_reverse]; exact dvF_len _ _ _
  · simp
theorem RowAt.grown {w w' : World} {g : Nat} {xs : List Int} {row : Option Nat} (h : RowAt w g xs) (hg : w.grownBy w' row) (hr : row ≠ some g) : RowAt w' g xs := ⟨by rw [hg.block g h.lt (fun e => hr e.symm)]; exact h.1, h.2⟩
set_option maxRecDepth 100000 in
set_option maxHeartbeats 8000000 in
theorem divideMarks_any (a b : Int) (w : World) : Calls Try.prog 26 #[.int .i64 a, .int .i64 b] w (RetLIB (dqL a b) (dqZ a b) (quoB a b) w) := by
  have HA := Lib.hid fun (w : World) => areForQuotient_any a b w
  cases hq : quoB a b with
  | false =>
    obtain ⟨e1, e2⟩ := dq_no hq
    rw [e1, e2]
    rw [hq] at HA
    clear hq e1 e2
    go_enter Try.func26, Try.ntmps26
    go_wp2_with fail
    refine (HA.out _).mono ?_; rintro e w1 ⟨rfl, k1, rfl⟩
    go_wp2
    go_ret3
    exact ⟨_, rfl, OwnI.empty _ _, by (repeat' (first | (with_reducible exact Below.refl _ _) | (with_reducible assumption) | (with_reducible refine Below.drew ?_) | (with_reducible refine belowDrewN ?_ _) | (with_reducible refine Below.alloc ?_ ?_ _) | (with_reducible refine Below.setCell ?_ ?_ _) | (with_reducible refine belowStep (by assumption) ?_ ?_) | (with_reducible exact Below.size (by assumption)) | go_size))⟩
  | true =>
    obtain ⟨A, B, rfl, rfl, a1, b1, b2⟩ := quoB_nat hq
    obtain ⟨e1, e2⟩ := dq_yes hq
    rw [e1, e2]
    rw [hq] at HA
    clear hq e1 e2
    go_enter Try.func26, Try.ntmps26
    go_wp2_with fail
    refine (HA.out _).mono ?_; rintro e w1 ⟨rfl, k1, rfl⟩
    go_wp2_with (first | (go_at_call 47; refine (doublingsFrom_any B _ b2).mono ?_; rintro e w2 ⟨rfl, hb2⟩; have hz2 := hb2.size) | (with_reducible show wpList _ _ _ _ _ _; refine step_allocR (o := ⟨some 7, _, _, _, _, _⟩) rfl rfl ?_; intro w3 hR3 hb3 hz3) | (have hR3' : RowAt w3 (w2.heap.size + 1) zr := (by simpa using hR3); first | (with_reducible show wpList _ _ _ _ _ _; refine step_storeR (w2.heap.size + 1) (dblR B 20) hR3' (dblR_len (Nat.le_refl _)) (.tmp 7) (.tmp 17) rfl rfl rfl rfl ?_; intro w4 hR4 hb4 hz4 hn4) | (with_reducible show wpList _ _ _ _ _ _; refine step_storeR (_) (dblR B 20) hR3 (dblR_len (Nat.le_refl _)) (.tmp 7) (.tmp 17) rfl rfl rfl rfl ?_; intro w4 hR4 hb4 hz4 hn4)))
    have hs2 : (w2.alloc (.cells #[] 3)).heap.size = w2.heap.size + 1 := World.size_alloc _ _
    rw [hs2] at hR4 hb3 hb4 hz3
    have O4 := Lib.hid (OwnI.below (OwnI.zero w2 w2.heap.size (Nat.le_refl _)) (w' := w4) (by rw [hs2]; exact belowStep hb4 (Nat.le_refl _) hb3))
    have R4 := Lib.hid hR4
    have hb24 : Below w2.heap.size w2 w4 := by (repeat' (first | (with_reducible exact Below.refl _ _) | (with_reducible assumption) | (with_reducible refine Below.drew ?_) | (with_reducible refine belowDrewN ?_ _) | (with_reducible refine Below.alloc ?_ ?_ _) | (with_reducible refine Below.setCell ?_ ?_ _) | (with_reducible refine belowStep (by assumption) ?_ ?_) | (with_reducible exact Below.size (by assumption)) | go_size))
    have hzz : w2.heap.size + 2 ≤ w4.heap.size := by omega
    have hbw : Below w.heap.size w w2 := by (repeat' (first | (with_reducible exact Below.refl _ _) | (with_reducible assumption) | (with_reducible refine Below.drew ?_) | (with_reducible refine belowDrewN ?_ _) | (with_reducible refine Below.alloc ?_ ?_ _) | (with_reducible refine Below.setCell ?_ ?_ _) | (with_reducible refine belowStep (by assumption) ?_ ?_) | (with_reducible exact Below.size (by assumption)) | go_size))
    clear hR3 hR3' hR4 hn4 hb3 hb4 hs2 hb2 hz3 hz4
    go_loopw [8, 9, 20] (fun v8 v9 v20 wr => ∃ (k l : Nat) (fs : List Nat), k ≤ 20 ∧ v20 = .int .i64 (k : Int) ∧ v9 = .int .i64 (l : Int) ∧ l ≤ A ∧ Hid (dvF B 20 A = fs ++ dvF B (20 - k) l) ∧ Hid (dvR B 20 A = dvR B (20 - k) l) ∧ fs.length ≤ k ∧ OwnI wr w2.heap.size v8 (ints fs) ∧ v8.ownBlock ≠ some (w2.heap.size + 1) ∧ RowAt wr (w2.heap.size + 1) (dblR B 20) ∧ Below w2.heap.size w2 wr ∧ w2.heap.size + 2 ≤ wr.heap.size) (fun _ _ v20 _ => 20 - (intOf v20).toNat)
    case atStart => exact ⟨0, A, [], by omega, rfl, rfl, Nat.le_refl _, Lib.hid rfl, Lib.hid rfl, Nat.le_refl _, O4.out, by simp [Value.ownBlock], R4.out, hb24, hzz⟩
    case round =>
      obtain ⟨k, l, fs, hk, rfl, rfl, hl, HF, HR, hfl, ho, hnb, hRr, hbr, hzr⟩ := hrel
      clear O4 R4 hb24 hzz
      have Ho := Lib.hid ho
      have R := Lib.hid hRr
      have HNB := Lib.hid hnb
      have hfi : (ints fs).length ≤ 20 := by rw [ints_len]; omega
      clear ho hRr hnb
      by_cases hlt : k < 20
      · have hki : (k : Int) < 20 := by omega
        obtain ⟨m, hm⟩ : ∃ m : Nat, m + k = 19 := ⟨19 - k, by omega⟩
        have hmk : (19 : Int) - (k : Int) = (m : Int) := by omega
        have hm0 : 0 ≤ (m : Int) := by omega
        have hm1 : (m : Int) < 20 := by omega
        have hS := shl_nat (show m < 20 by omega) b2
        have hC := R.out.cell (dblR_at (a := B) (show m < 20 by omega))
        have hkm : 20 - k = m + 1 := by omega
        have hkm2 : 20 - (k + 1) = m := by omega
        rw [hkm] at HF HR
        by_cases hc : B * 2 ^ m ≤ l
        · obtain ⟨y1, y2⟩ := dvF_yes hc
          have HF2 : Hid (dvF B 20 A = (fs ++ [m]) ++ dvF B (20 - (k + 1)) (l - B * 2 ^ m)) := Lib.hid (by rw [HF.out, y1, hkm2]; simp)
          have HR2 : Hid (dvR B 20 A = dvR B (20 - (k + 1)) (l - B * 2 ^ m)) := Lib.hid (by rw [HR.out, y2, hkm2])
          clear y1 y2 HF HR hkm hkm2
          have hci : ((B * 2 ^ m : Nat) : Int) ≤ (l : Int) := by omega
          have HAT := Lib.hid (dblR_at (a := B) (show m < 20 by omega))
          have hCA : (wr.alloc (.cells #[.int .i64 (m : Int)] 3)).cell? ⟨w2.heap.size + 1, m, none⟩ = some (.int .i64 ((B * 2 ^ m : Nat) : Int)) := (RowAt.below R.out (by (repeat' (first | (with_reducible exact Below.refl _ _) | (with_reducible assumption) | (with_reducible refine Below.drew ?_) | (with_reducible refine belowDrewN ?_ _) | (with_reducible refine Below.alloc ?_ ?_ _) | (with_reducible refine Below.setCell ?_ ?_ _) | (with_reducible refine belowStep (by assumption) ?_ ?_) | (with_reducible exact Below.size (by assumption)) | go_size)))).cell HAT.out
          generalize hd : B * 2 ^ m = d at *
          clear hd
          go_wp2
          go_region_law (refine step_app _ (o := ⟨some 33, _, _, _, _, _⟩) (ys := [(m : Int)]) rfl _ _ rfl rfl (OwnI.below Ho.out (by (repeat' (first | (with_reducible exact Below.refl _ _) | (with_reducible assumption) | (with_reducible refine Below.drew ?_) | (with_reducible refine belowDrewN ?_ _) | (with_reducible refine Below.alloc ?_ ?_ _) | (with_reducible refine Below.setCell ?_ ?_ _) | (with_reducible refine belowStep (by assumption) ?_ ?_) | (with_reducible exact Below.size (by assumption)) | go_size)))) 1 1 (by first | (simp; done) | (simp; omega)) rfl (Reads.one _ (m : Int)) (by simp; omega) (by (first | (go_size; done) | ((try simp only [World.size_alloc, World.size_setCell, World.size_drew, World.heap_drewN]); omega))) ?_; intro v6 w6 ho6 hb6 hg6 ht6; have hR6 : RowAt w6 (w2.heap.size + 1) (dblR B 20) := RowAt.grown (RowAt.below R.out (by (repeat' (first | (with_reducible exact Below.refl _ _) | (with_reducible assumption) | (with_reducible refine Below.drew ?_) | (with_reducible refine belowDrewN ?_ _) | (with_reducible refine Below.alloc ?_ ?_ _) | (with_reducible refine Below.setCell ?_ ?_ _) | (with_reducible refine belowStep (by assumption) ?_ ?_) | (with_reducible exact Below.size (by assumption)) | go_size)))) hg6 HNB.out; have hC6 := hR6.cell HAT.out; have hv6 : v6.ownBlock ≠ some (w2.heap.size + 1) := (fun h => ht6.elim (fun e => HNB.out (e.symm.trans h)) (fun e => by (have h2 := e.symm.trans h; simp only [World.size_alloc, World.size_drew, Option.some.injEq] at h2; omega))); have hz6 := hb6.size; (try simp only [World.size_alloc, World.size_drew] at hz6); have hz6' : w2.heap.size + 2 ≤ w6.heap.size := (by have := hg6.size; simp only [World.size_alloc, World.size_drew] at this; omega); clear hg6 ht6)
          all_goals go_wp2
          all_goals refine ⟨⟨k + 1, l - d, fs ++ [m], by omega, by go_num, by rw [show ((l - d : Nat) : Int) = (l : Int) - (d : Int) from by omega], by omega, HF2, HR2, by simp; omega, by rw [ints_snoc]; exact ho6, hv6, hR6, by (repeat' (first | (with_reducible exact Below.refl _ _) | (with_reducible assumption) | (with_reducible refine Below.drew ?_) | (with_reducible refine belowDrewN ?_ _) | (with_reducible refine Below.alloc ?_ ?_ _) | (with_reducible refine Below.setCell ?_ ?_ _) | (with_reducible refine belowStep (by assumption) ?_ ?_) | (with_reducible exact Below.size (by assumption)) | go_size)), hz6'⟩, ?_⟩
          all_goals simp [intOf]; omega
        · obtain ⟨y1, y2⟩ := dvF_no hc
          have HF2 : Hid (dvF B 20 A = fs ++ dvF B (20 - (k + 1)) l) := Lib.hid (by rw [HF.out, y1, hkm2])
          have HR2 : Hid (dvR B 20 A = dvR B (20 - (k + 1)) l) := Lib.hid (by rw [HR.out, y2, hkm2])
          clear y1 y2 HF HR hkm hkm2
          have hci : ¬ ((B * 2 ^ m : Nat) : Int) ≤ (l : Int) := by omega
          generalize hd : B * 2 ^ m = d at *
          clear hd
          go_wp2
          go_roundw
          case rel => exact ⟨k + 1, l, fs, by omega, by go_num, rfl, hl, HF2, HR2, by omega, Ho.out, HNB.out, R.out, hbr, hzr⟩
          case measure => simp [intOf]; omega
      · obtain rfl : k = 20 := by omega
        have EF : Hid (dvF B 20 A = fs) := Lib.hid (by rw [HF.out]; simp [dvF])
        have ER : Hid (dvR B 20 A = l) := Lib.hid (by rw [HR.out]; simp [dvR])
        clear HF HR R HNB
        have hbw2 : Below w.heap.size w wr := belowStep hbr hbw.size hbw
        have HV := Lib.hid (rev_own wr w2.heap.size _ (ints fs) Ho.out (by omega))
        go_wp2_with fail
        refine HV.out.mono ?_; rintro e w6 ⟨rfl, ho6, hg6⟩
        have hb6 : Below w2.heap.size wr w6 := (Below.refl _ _).grown hg6 (by omega) (fun j hj => (Ho.out.block j hj).1)
        have hz6 := hg6.size
        have H6 := Lib.hid ho6
        have hzw : w.heap.size ≤ w2.heap.size := hbw.size
        clear hg6 ho6 HV Ho
        go_wp2
        go_ret3
        rw [EF.out, ER.out, ints_reverse]
        exact ⟨_, rfl, OwnI.mono H6.out (by omega), by (repeat' (first | (with_reducible exact Below.refl _ _) | (with_reducible assumption) | (with_reducible refine Below.drew ?_) | (with_reducible refine belowDrewN ?_ _) | (with_reducible refine Below.alloc ?_ ?_ _) | (with_reducible refine Below.setCell ?_ ?_ _) | (with_reducible refine belowStep (by assumption) ?_ ?_) | (with_reducible exact Below.size (by assumption)) | go_size))⟩
/-- the marks of a number, as the functions tell them -/
def moL (n : Int) : List Int := if facB n = true then ints (mk n.toNat) else []
theorem moL_no {n : Int} (h : facB n = false) : moL n = [] := by unfold moL; rw [h]; rfl
theorem moL_yes {N : Nat} (h : facB (N : Int) = true) : moL (N : Int) = ints (mk N) := by unfold moL; rw [if_pos h]; rfl
theorem moL_len (n : Int) : (moL n).length ≤ 20 := by
  unfold moL
  split
  · rw [ints_len]; exact mk_len _
  · simp
theorem quo_one (n : Int) : quoB n 1 = facB n := by
  unfold quoB
  rw [show facB 1 = true from by decide]
  simp
theorem dq_one (n : Int) : dqL n 1 = moL n := by
  unfold dqL moL
  rw [quo_one]
  rfl
set_option maxRecDepth 100000 in
set_option maxHeartbeats 2000000 in
theorem marksOf_any (n : Int) (w : World) : Calls Try.prog 14 #[.int .i64 n] w (RetLB (moL n) (facB n) w) := by
  have HD : Hid (∀ w, Calls Try.prog 26 #[.int .i64 n, .int .i64 1] w (RetLIB (moL n) (dqZ n 1) (facB n) w)) := Lib.hid fun w => by
    have := divideMarks_any n 1 w
    rwa [dq_one, quo_one] at this
  generalize moL n = ys at *
  generalize dqZ n 1 = z at *
  go_enter Try.func14, Try.ntmps14
  go_wp2_with fail
  refine (HD.out _).mono ?_; rintro e w1 ⟨v1, rfl, ho1, hb1⟩; have hz1 := hb1.size; (try simp only [World.size_alloc, World.size_setCell, World.size_drew, World.heap_drewN] at hz1)
  go_wp2
  go_ret2
  exact ⟨_, rfl, ho1.mono (by (first | (go_size; done) | ((try simp only [World.size_alloc, World.size_setCell, World.size_drew, World.heap_drewN]); omega))), by (repeat' (first | (with_reducible exact Below.refl _ _) | (with_reducible assumption) | (with_reducible refine Below.drew ?_) | (with_reducible refine belowDrewN ?_ _) | (with_reducible refine Below.alloc ?_ ?_ _) | (with_reducible refine Below.setCell ?_ ?_ _) | (with_reducible refine belowStep (by assumption) ?_ ?_) | (with_reducible exact Below.size (by assumption)) | go_size))⟩
end Go.Proofs.Ythkchhjidihkpaa
