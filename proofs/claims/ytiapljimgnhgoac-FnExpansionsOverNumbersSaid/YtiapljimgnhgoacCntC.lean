
/-
  Contract of CountSums in the model.
-/
import Derived.Test.YtiapljimgnhgoacCntP
import Derived.Test.YtiapljimgnhgoacRchC
import Derived.Test.YtiapljimgnhgoacDivS
import Derived.Test.YtiapljimgnhgoacAdC
namespace Go.Proofs.Ytiapljimgnhgoac
open Go.RowKit
theorem l1Least_q (a b : Int) (w : World) : Calls Try.prog 76 #[.int .i64 a, .int .i64 b] w (RetQ (.int .i64 (min a b)) w) := by
  by_cases h : a < b
  · have E : Hid (min a b = a) := Lib.hid (by omega)
    go_enter Try.func76, Try.ntmps76
    go_wp2
    go_ret
    exact ⟨ret_int E.out.symm, 0, rfl⟩
  · have E : Hid (min a b = b) := Lib.hid (by omega)
    go_enter Try.func76, Try.ntmps76
    go_wp2
    go_ret
    exact ⟨ret_int E.out.symm, 0, rfl⟩
theorem mk_own {w1 : World} {base n : Nat} {v : Value} (h : w1.ownsRow base 3 1 v n (madeCells (Value.int .i64 0).cells (n * 1)).toList) : OwnI w1 base v (List.replicate n 0) := by
  unfold OwnI
  rw [List.map_replicate, List.length_replicate]
  rw [show (Value.int IntKind.i64 0).cells = #[Value.int IntKind.i64 0] from rfl, Nat.mul_one, toList_madeCells_one] at h
  exact h
theorem mk_one {w1 : World} {base g S c : Nat} (h : OwnI w1 base (.slice (some ⟨g, 0, none⟩) (S + 1) c) (List.replicate (S + 1) 0)) : OwnI (w1.setCell ⟨g, 0, none⟩ (.int .i64 1)) base (.slice (some ⟨g, 0, none⟩) (S + 1) c) (wl [] S) := by
  rw [← wl_begin]
  exact h.set_ (by simp) 0 1
set_option maxRecDepth 100000 in
set_option maxHeartbeats 8000000 in
theorem prWays_any (ds : List Nat) (S : Nat) (w : World) (A : Option Addr) (c : Nat) (hr : Reads w A (ints ds)) (hd : ∀ d ∈ ds, 1 ≤ d ∧ d ≤ 2000) (hl : ds.length ≤ 2000) (hS : S ≤ 100000) :
    Calls Try.prog 55 #[.slice A ds.length c, .int .i64 (S : Int)] w (Ret (.int .i64 ((capN (ways ds.reverse S) : Nat) : Int)) w) := by
  obtain ⟨i0, hi, hz0, hz1, hz2⟩ := info_parts intInfo
  have HR := Lib.hid hr
  have HS := Lib.hid hd
  have hle := ints_len ds
  have h1 : ds.length ≤ (ints ds).length := by omega
  have h2 : (ints ds).length ≤ ds.length := by omega
  have hnn : ¬ ((S : Int) + 1 < 0) := by omega
  have hS1 : IntKind.i64.wrap ((S : Int) + 1) = ((S + 1 : Nat) : Int) := by rw [IntWalk.i64_in _ (by omega)]; omega
  clear hr hd hle
  go_enter Try.func55, Try.ntmps55
  go_wp2_with (at_make; refine wpList_make_full _ rfl _ _ 26 rfl w.heap.size 3 i0 (.int .i64 0) 1 Try.underlying26 hi hz0 hz1 .i64 .i64 _ _ (S + 1) rfl rfl (by omega) (by omega) (by rw [hz2]; omega) (by unfold maxLen; omega) (Nat.le_refl _) ?_; intro w1 hown1 hgrow1; have hown := mk_own hown1; have hb1 : Below w.heap.size w w1 := (Below.refl _ _).grown hgrow1 (Nat.le_refl _) (by simp); have hz1 := hb1.size; obtain ⟨q1, q2⟩ := hown.cell_ (by simp) (k := 0) (x := 0) (by simp); have HO1 := Lib.hid (mk_one hown); clear hown hown1 hgrow1)
  go_loopw [16] (fun v16 wr => ∃ k : Nat, k ≤ ds.length ∧ v16 = .int .i64 (k : Int) ∧ OwnI wr w.heap.size (.slice (some ⟨w.heap.size, 0, none⟩) (S + 1) (S + 1)) (wl (ds.take k).reverse S) ∧ Below w.heap.size w wr) (fun v16 _ => ds.length - (intOf v16).toNat)
  case atStart => exact ⟨0, Nat.zero_le _, rfl, by simpa using HO1.out, by (repeat' (first | (with_reducible exact Below.refl _ _) | (with_reducible assumption) | (with_reducible refine Below.drew ?_) | (with_reducible refine belowDrewN ?_ _) | (with_reducible refine Below.alloc ?_ ?_ _) | (with_reducible refine Below.setCell ?_ ?_ _) | (with_reducible refine belowStep (by assumption) ?_ ?_) | (with_reducible exact Below.size (by assumption)) | go_size))⟩
  case round =>
    obtain ⟨k, hk, rfl, ho, hbr⟩ := hrel
    obtain ⟨wo, rfl⟩ : ∃ x : World, x = wr := ⟨_, rfl⟩
    have Ho := Lib.hid ho
    have hzo := hbr.size
    clear ho
    by_cases hlt : k < ds.length
    · obtain ⟨b9, o9, x, rfl, hbb, hx, hcell⟩ := (HR.out.below hbr).at_ (show k < (ints ds).length by omega)
      obtain ⟨d, rfl, hdx⟩ := ints_at hx
      obtain ⟨hd1, hd2⟩ := HS.out d (List.mem_of_getElem? hdx)
      have E := Lib.hid (take_rev hdx)
      have hki : (k : Int) < (ds.length : Int) := by omega
      clear hx hdx
      obtain ⟨P, hP⟩ : ∃ P, P = (ds.take k).reverse := ⟨_, rfl⟩
      rw [← hP] at Ho E
      clear hP
      go_wp2
      go_loopw [8] (fun v8 wq => ∃ j : Nat, j ≤ S ∧ v8 = .int .i64 (j : Int) ∧ OwnI wq w.heap.size (.slice (some ⟨w.heap.size, 0, none⟩) (S + 1) (S + 1)) (wm P d j S) ∧ Below w.heap.size w wq) (fun v8 _ => (intOf v8).toNat)
      case atStart => exact ⟨S, Nat.le_refl _, rfl, by rw [wm_start]; exact Ho.out, by (repeat' (first | (with_reducible exact Below.refl _ _) | (with_reducible assumption) | (with_reducible refine Below.drew ?_) | (with_reducible refine belowDrewN ?_ _) | (with_reducible refine Below.alloc ?_ ?_ _) | (with_reducible refine Below.setCell ?_ ?_ _) | (with_reducible refine belowStep (by assumption) ?_ ?_) | (with_reducible exact Below.size (by assumption)) | go_size))⟩
      case round =>
        obtain ⟨j, hj, rfl, ho, hbq⟩ := hrel
        obtain ⟨wq, rfl⟩ : ∃ x : World, x = wr := ⟨_, rfl⟩
        have Hq := Lib.hid ho
        have hzq := hbq.size
        clear ho
        by_cases hdj : d ≤ j
        · have hdj' : (d : Int) ≤ (j : Int) := by omega
          obtain ⟨a1, a2⟩ := Hq.out.cell_ (by rw [wm_len]) (wm_low P d j hj (Nat.le_refl _))
          obtain ⟨b1, b2⟩ := Hq.out.cell_ (by rw [wm_len]) (wm_low P d j (s := j - d) (by omega) (by omega))
          have HS2 := Lib.hid (OwnI.set_ Hq.out (by rw [wm_len]) j (min (((capN (ways P j) : Nat) : Int) + ((capN (ways P (j - d)) : Nat) : Int)) 1000000001))
          have ES := Lib.hid (wm_step P d j S hd1 hdj hj)
          have c1 := capN_le (ways P j)
          have c2 := capN_le (ways P (j - d))
          generalize capN (ways P j) = x at *
          generalize capN (ways P (j - d)) = y at *
          have hwj : IntKind.i64.wrap ((j : Int) - (d : Int)) = ((j - d : Nat) : Int) := by rw [IntWalk.i64_in _ (by omega)]; omega
          have hws : IntKind.i64.wrap ((x : Int) + (y : Int)) = (x : Int) + (y : Int) := IntWalk.i64_in _ (by omega)
          have i1 : j < S + 1 := by omega
          have i2 : j - d < S + 1 := by omega
          have i3 : (j : Int) < (((S + 1 : Nat)) : Int) := by omega
          have i4 : ((j - d : Nat) : Int) < (((S + 1 : Nat)) : Int) := by omega
          go_wp2_with fail
          go_region_with (first | (go_at_call 76; refine (l1Least_q _ _ _).mono ?_; rintro e w2 ⟨rfl, k2, rfl⟩))
          all_goals go_wp2
          all_goals go_roundw
          all_goals first
            | exact ⟨j - 1, by omega, by rw [show ((j : Int) - 1) = ((j - 1 : Nat) : Int) from by omega], by rw [← ES.out]; exact OwnI.set_ (OwnI.drewN Hq.out _) (by rw [wm_len]) j _, by (repeat' (first | (with_reducible exact Below.refl _ _) | (with_reducible assumption) | (with_reducible refine Below.drew ?_) | (with_reducible refine belowDrewN ?_ _) | (with_reducible refine Below.alloc ?_ ?_ _) | (with_reducible refine Below.setCell ?_ ?_ _) | (with_reducible refine belowStep (by assumption) ?_ ?_) | (with_reducible exact Below.size (by assumption)) | go_size))⟩
            | (simp [intOf]; omega)
        · have hdj' : ¬ (d : Int) ≤ (j : Int) := by omega
          have HE := Lib.hid (show OwnI wq w.heap.size _ (wl (ds.take (k + 1)).reverse S) from by rw [E.out, ← wm_end P d j S (by omega)]; exact Hq.out)
          go_wp2
          go_roundw
          case rel => exact ⟨k + 1, by omega, by go_num, HE.out, by (repeat' (first | (with_reducible exact Below.refl _ _) | (with_reducible assumption) | (with_reducible refine Below.drew ?_) | (with_reducible refine belowDrewN ?_ _) | (with_reducible refine Below.alloc ?_ ?_ _) | (with_reducible refine Below.setCell ?_ ?_ _) | (with_reducible refine belowStep (by assumption) ?_ ?_) | (with_reducible exact Below.size (by assumption)) | go_size))⟩
          case measure => simp [intOf]; omega
    · obtain rfl : k = ds.length := by omega
      have hki : ¬ ((ds.length : Nat) : Int) < (ds.length : Int) := by omega
      have ho := Ho.out
      rw [List.take_length] at ho
      obtain ⟨a1, a2⟩ := ho.cell_ (by rw [wl_len]) (wl_at ds.reverse (Nat.le_refl S))
      have i1 : S < S + 1 := by omega
      have i3 : (S : Int) < (((S + 1 : Nat)) : Int) := by omega
      clear ho
      go_wp2
      go_ret
      exact ⟨rfl, by (repeat' (first | (with_reducible exact Below.refl _ _) | (with_reducible assumption) | (with_reducible refine Below.drew ?_) | (with_reducible refine belowDrewN ?_ _) | (with_reducible refine Below.alloc ?_ ?_ _) | (with_reducible refine Below.setCell ?_ ?_ _) | (with_reducible refine belowStep (by assumption) ?_ ?_) | (with_reducible exact Below.size (by assumption)) | go_size))⟩
/-- what the counts tell -/
def csV (n s : Int) : Value := if numB n = true ∧ askB s = true ∧ ways (dsc n.toNat n.toNat) s.toNat ≤ 1000000000 then .tuple #[.int .i64 (ways (dsc n.toNat n.toNat) s.toNat : Nat), .bool true] else .tuple #[.int .i64 0, .bool false]
theorem csV_n {n s : Int} (h : numB n = false) : csV n s = .tuple #[.int .i64 0, .bool false] := by unfold csV; rw [if_neg (fun e => by rw [h] at e; cases e.1)]
theorem csV_s {n s : Int} (h : askB s = false) : csV n s = .tuple #[.int .i64 0, .bool false] := by unfold csV; rw [if_neg (fun e => by rw [h] at e; cases e.2.1)]
theorem csV_big {N S : Nat} (h : ¬ ways (dsc N N) S ≤ 1000000000) : csV (N : Int) (S : Int) = .tuple #[.int .i64 0, .bool false] := by unfold csV; rw [if_neg (fun e => h (by simpa using e.2.2))]
theorem csV_ok {N S : Nat} (hn : numB (N : Int) = true) (hs : askB (S : Int) = true) (h : ways (dsc N N) S ≤ 1000000000) : csV (N : Int) (S : Int) = .tuple #[.int .i64 ((ways (dsc N N) S : Nat) : Int), .bool true] := by
  unfold csV
  rw [if_pos ⟨hn, hs, by simpa using h⟩]
  rfl
theorem askB_nat {s : Int} (h : askB s = true) : ∃ S : Nat, s = (S : Int) ∧ S ≤ 100000 := by
  obtain ⟨h1, h2⟩ := (askB_iff s).1 h
  exact ⟨s.toNat, by omega, by omega⟩
set_option maxHeartbeats 4000000 in
theorem spec_countSums_any (n s : Int) (w : World) : Calls Try.prog 11 #[.int .i64 n, .int .i64 s] w (Ret (csV n s) w) := by
  have HN := Lib.hid fun (w : World) => prNumber_any n w
  have HT := Lib.hid fun (w : World) => prTotal_any s w
  cases hn : numB n with
  | false =>
    have E := Lib.hid (csV_n (s := s) hn)
    rw [hn] at HN
    clear hn
    go_enter Try.func11, Try.ntmps11
    go_wp2_with fail
    refine (HN.out _).mono ?_; rintro e w1 ⟨rfl, k1, rfl⟩
    go_wp2
    go_ret2
    rw [E.out]
    exact ⟨rfl, by (repeat' (first | (with_reducible exact Below.refl _ _) | (with_reducible assumption) | (with_reducible refine Below.drew ?_) | (with_reducible refine belowDrewN ?_ _) | (with_reducible refine Below.alloc ?_ ?_ _) | (with_reducible refine Below.setCell ?_ ?_ _) | (with_reducible refine belowStep (by assumption) ?_ ?_) | (with_reducible exact Below.size (by assumption)) | go_size))⟩
  | true =>
    cases hs : askB s with
    | false =>
      have E := Lib.hid (csV_s (n := n) hs)
      rw [hn] at HN
      rw [hs] at HT
      clear hn hs
      go_enter Try.func11, Try.ntmps11
      go_wp2_with fail
      refine (HN.out _).mono ?_; rintro e w1 ⟨rfl, k1, rfl⟩
      go_wp2_with fail
      refine (HT.out _).mono ?_; rintro e w2 ⟨rfl, k2, rfl⟩
      go_wp2
      go_ret2
      rw [E.out]
      exact ⟨rfl, by (repeat' (first | (with_reducible exact Below.refl _ _) | (with_reducible assumption) | (with_reducible refine Below.drew ?_) | (with_reducible refine belowDrewN ?_ _) | (with_reducible refine Below.alloc ?_ ?_ _) | (with_reducible refine Below.setCell ?_ ?_ _) | (with_reducible refine belowStep (by assumption) ?_ ?_) | (with_reducible exact Below.size (by assumption)) | go_size))⟩
    | true =>
      obtain ⟨N, rfl, h1, h2⟩ := numB_nat hn
      obtain ⟨S, rfl, hS⟩ := askB_nat hs
      have EV := Lib.hid fun (h : ways (dsc N N) S ≤ 1000000000) => csV_ok hn hs h
      have EB := Lib.hid fun (h : ¬ ways (dsc N N) S ≤ 1000000000) => csV_big h
      have HW : Hid (∀ w A c, Reads w A (ints (asc N N)) → Calls Try.prog 55 #[.slice A (ints (asc N N)).length c, .int .i64 (S : Int)] w (Ret (.int .i64 ((capN (ways (dsc N N) S) : Nat) : Int)) w)) := Lib.hid fun w A c h => by
        have := prWays_any (asc N N) S w A c h (fun d hd => by have := (dsc_mem N N d).1 (asc_mem.1 hd); omega) (by have := asc_len N N; omega) hS
        rwa [show (asc N N).reverse = dsc N N from by unfold asc; exact List.reverse_reverse _, ← ints_len] at this
      rw [hn] at HN
      rw [hs] at HT
      clear hn hs
      generalize ways (dsc N N) S = W at *
      by_cases hW : W ≤ 1000000000
      · have ec : capN W = W := by unfold capN; omega
        have E := Lib.hid (EV.out hW)
        rw [ec] at HW
        clear ec EV EB
        have hW' : ¬ (1000000000 : Int) < (W : Int) := by omega
        go_enter Try.func11, Try.ntmps11
        go_wp2_with fail
        refine (HN.out _).mono ?_; rintro e w1 ⟨rfl, k1, rfl⟩
        go_wp2_with fail
        refine (HT.out _).mono ?_; rintro e w2 ⟨rfl, k2, rfl⟩
        go_wp2_with fail
        refine (prDivisors_any N _ h2).mono ?_; rintro e w3 ⟨v3, rfl, ho3, hb3⟩; obtain ⟨A3, c3, rfl, hr3⟩ := ho3.form
        have hz3 := hb3.size
        (try simp only [World.size_alloc, World.size_setCell, World.size_drew, World.heap_drewN] at hz3)
        go_wp2_with fail
        refine (HW.out _ _ _ hr3).mono ?_; rintro e w4 ⟨rfl, hb4⟩; have hz4 := hb4.size; (try simp only [World.size_alloc, World.size_setCell, World.size_drew, World.heap_drewN] at hz4)
        go_wp2
        go_ret2
        rw [E.out]
        exact ⟨rfl, by (repeat' (first | (with_reducible exact Below.refl _ _) | (with_reducible assumption) | (with_reducible refine Below.drew ?_) | (with_reducible refine belowDrewN ?_ _) | (with_reducible refine Below.alloc ?_ ?_ _) | (with_reducible refine Below.setCell ?_ ?_ _) | (with_reducible refine belowStep (by assumption) ?_ ?_) | (with_reducible exact Below.size (by assumption)) | go_size))⟩
      · have ec : capN W = 1000000001 := by unfold capN; omega
        have E := Lib.hid (EB.out hW)
        rw [ec] at HW
        clear ec EV EB
        go_enter Try.func11, Try.ntmps11
        go_wp2_with fail
        refine (HN.out _).mono ?_; rintro e w1 ⟨rfl, k1, rfl⟩
        go_wp2_with fail
        refine (HT.out _).mono ?_; rintro e w2 ⟨rfl, k2, rfl⟩
        go_wp2_with fail
        refine (prDivisors_any N _ h2).mono ?_; rintro e w3 ⟨v3, rfl, ho3, hb3⟩; obtain ⟨A3, c3, rfl, hr3⟩ := ho3.form
        have hz3 := hb3.size
        (try simp only [World.size_alloc, World.size_setCell, World.size_drew, World.heap_drewN] at hz3)
        go_wp2_with fail
        refine (HW.out _ _ _ hr3).mono ?_; rintro e w4 ⟨rfl, hb4⟩; have hz4 := hb4.size; (try simp only [World.size_alloc, World.size_setCell, World.size_drew, World.heap_drewN] at hz4)
        go_wp2
        go_ret2
        rw [E.out]
        exact ⟨rfl, by (repeat' (first | (with_reducible exact Below.refl _ _) | (with_reducible assumption) | (with_reducible refine Below.drew ?_) | (with_reducible refine belowDrewN ?_ _) | (with_reducible refine Below.alloc ?_ ?_ _) | (with_reducible refine Below.setCell ?_ ?_ _) | (with_reducible refine belowStep (by assumption) ?_ ?_) | (with_reducible exact Below.size (by assumption)) | go_size))⟩
end Go.Proofs.Ytiapljimgnhgoac
