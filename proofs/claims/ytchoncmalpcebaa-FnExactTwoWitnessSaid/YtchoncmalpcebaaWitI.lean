
/-
  Contracts of TwoWitness, in the program and in the model, and of the program's walk over all witnesses.
-/
import Derived.Test.YtchoncmalpcebaaTwoC
import Derived.Test.YtchoncmalpcebaaOps
import Derived.RangeFuncFrom
import Derived.RangeFuncBound
import Derived.RangeFuncCalls
import Derived.RangeFuncLeaves
import Derived.Shelf.Abstract
import Derived.Shelf.RegionOpen
import Derived.OwnWalkIn
import Derived.TacticsInMore
import Derived.LoopNIn
import Derived.LoopIn
namespace Go.Proofs.Ytchoncmalpcebaa
open Go.RowKit
open Go.Shelf
attribute [local go_sem] Oper.semAt_some
theorem wtV_no {n q : Int} (h : wtO n q = none) : wtV (wtO n q) = .tuple #[.int .i64 0, .bool false] := by rw [h]; rfl
theorem wtV_some {n q d : Int} (h : wtO n q = some d) : wtV (wtO n q) = .tuple #[.int .i64 d, .bool true] := by rw [h]; rfl
set_option maxHeartbeats 2000000 in
theorem spec_twoWitness_any (n q : Int) (w : World) : Calls Try.prog 18 #[.agg #[.int .i64 n, .int .i64 q]] w (Ret (wtV (wtO n q)) w) := by
  have HI := Lib.hid fun (w : World) => feTwo_any n q w
  cases hg : twoB n q 20000 with
  | false =>
    have E := Lib.hid (wtV_no (wtO_no hg))
    rw [hg] at HI
    clear hg
    go_enter Try.func18, Try.ntmps18
    go_wp2_with fail
    refine (HI.out _).mono ?_; rintro e w1 ⟨rfl, hb1⟩; obtain ⟨hc1, hf1⟩ := bcellB hb1; have hz1 := hb1.size; (try simp only [World.size_alloc, World.size_setCell, World.size_drew, World.heap_drewN] at hc1 hf1 hz1); (try have hy1_r_0 : wr.heap.size < w1.heap.size := by omega); (try have hn1_r_0 : wr.heap.size ≠ w1.heap.size := by omega); (try have hm1_r_0 : w1.heap.size ≠ wr.heap.size := by omega); (try have hy1_r_1 : wr.heap.size + 1 < w1.heap.size := by omega); (try have hn1_r_1 : wr.heap.size + 1 ≠ w1.heap.size := by omega); (try have hm1_r_1 : w1.heap.size ≠ wr.heap.size + 1 := by omega); (try have hy1_r_2 : wr.heap.size + 1 + 1 < w1.heap.size := by omega); (try have hp1_r_1 : wr.heap.size < w1.heap.size + 1 := by omega); (try have hp1_r_2 : wr.heap.size < w1.heap.size + 1 + 1 := by omega); (try have hy1_0_0 : w.heap.size < w1.heap.size := by omega); (try have hn1_0_0 : w.heap.size ≠ w1.heap.size := by omega); (try have hm1_0_0 : w1.heap.size ≠ w.heap.size := by omega); (try have hy1_0_1 : w.heap.size + 1 < w1.heap.size := by omega); (try have hn1_0_1 : w.heap.size + 1 ≠ w1.heap.size := by omega); (try have hm1_0_1 : w1.heap.size ≠ w.heap.size + 1 := by omega); (try have hy1_0_2 : w.heap.size + 1 + 1 < w1.heap.size := by omega); (try have hp1_0_1 : w.heap.size < w1.heap.size + 1 := by omega); (try have hp1_0_2 : w.heap.size < w1.heap.size + 1 + 1 := by omega); (try have hg1_g1 : g1 < w1.heap.size := by omega); (try have hi1_g1 : g1 ≠ w1.heap.size := by omega); (try have hj1_g1 : w1.heap.size ≠ g1 := by omega); (try have hk1_g1 : g1 < w1.heap.size + 1 := by omega); (try have hg1_g2 : g2 < w1.heap.size := by omega); (try have hi1_g2 : g2 ≠ w1.heap.size := by omega); (try have hj1_g2 : w1.heap.size ≠ g2 := by omega); (try have hk1_g2 : g2 < w1.heap.size + 1 := by omega)
    go_wp2
    go_ret2
    rw [E.out]
    exact ⟨rfl, by (repeat' (first | (with_reducible exact Below.refl _ _) | (with_reducible assumption) | (with_reducible refine Below.drew ?_) | (with_reducible refine belowDrewN ?_ _) | (with_reducible refine Below.alloc ?_ ?_ _) | (with_reducible refine Below.setCell ?_ ?_ _) | (with_reducible refine belowStep (by assumption) ?_ ?_) | (with_reducible exact Below.size (by assumption)) | go_size))⟩
  | true =>
    obtain ⟨n1, n2, q1, q2, q3, _⟩ := twoB_bounds hg
    have HG := Lib.hid hg
    have HW := Lib.hid fun (w : World) (d : Int) => feWitness_any n q d w n1 q1 q2
    have T0 := Lib.hid (TwoAt.new w n q 27)
    rw [hg] at HI
    clear hg
    go_enter Try.func18, Try.ntmps18
    go_wp2_with fail
    refine (HI.out _).mono ?_; rintro e w1 ⟨rfl, hb1⟩; obtain ⟨hc1, hf1⟩ := bcellB hb1; have hz1 := hb1.size; (try simp only [World.size_alloc, World.size_setCell, World.size_drew, World.heap_drewN] at hc1 hf1 hz1); (try have hy1_r_0 : wr.heap.size < w1.heap.size := by omega); (try have hn1_r_0 : wr.heap.size ≠ w1.heap.size := by omega); (try have hm1_r_0 : w1.heap.size ≠ wr.heap.size := by omega); (try have hy1_r_1 : wr.heap.size + 1 < w1.heap.size := by omega); (try have hn1_r_1 : wr.heap.size + 1 ≠ w1.heap.size := by omega); (try have hm1_r_1 : w1.heap.size ≠ wr.heap.size + 1 := by omega); (try have hy1_r_2 : wr.heap.size + 1 + 1 < w1.heap.size := by omega); (try have hp1_r_1 : wr.heap.size < w1.heap.size + 1 := by omega); (try have hp1_r_2 : wr.heap.size < w1.heap.size + 1 + 1 := by omega); (try have hy1_0_0 : w.heap.size < w1.heap.size := by omega); (try have hn1_0_0 : w.heap.size ≠ w1.heap.size := by omega); (try have hm1_0_0 : w1.heap.size ≠ w.heap.size := by omega); (try have hy1_0_1 : w.heap.size + 1 < w1.heap.size := by omega); (try have hn1_0_1 : w.heap.size + 1 ≠ w1.heap.size := by omega); (try have hm1_0_1 : w1.heap.size ≠ w.heap.size + 1 := by omega); (try have hy1_0_2 : w.heap.size + 1 + 1 < w1.heap.size := by omega); (try have hp1_0_1 : w.heap.size < w1.heap.size + 1 := by omega); (try have hp1_0_2 : w.heap.size < w1.heap.size + 1 + 1 := by omega); (try have hg1_g1 : g1 < w1.heap.size := by omega); (try have hi1_g1 : g1 ≠ w1.heap.size := by omega); (try have hj1_g1 : w1.heap.size ≠ g1 := by omega); (try have hk1_g1 : g1 < w1.heap.size + 1 := by omega); (try have hg1_g2 : g2 < w1.heap.size := by omega); (try have hi1_g2 : g2 ≠ w1.heap.size := by omega); (try have hj1_g2 : w1.heap.size ≠ g2 := by omega); (try have hk1_g2 : g2 < w1.heap.size + 1 := by omega)
    have T1 := Lib.hid (T0.out.below hb1)
    clear T0
    go_wp2
    go_loopw [4] (fun v4 wr => ∃ k : Nat, v4 = .int .i64 (k : Int) ∧ 1 ≤ k ∧ (k : Int) ≤ q ∧ witL n q k = [] ∧ Below w1.heap.size w1 wr) (fun v4 _ => q.toNat - (intOf v4).toNat)
    case atStart => exact ⟨1, rfl, Nat.le_refl _, by omega, by rw [witL_no (witB_low (by decide))]; rfl, by (repeat' (first | (with_reducible exact Below.refl _ _) | (with_reducible assumption) | (with_reducible refine Below.drew ?_) | (with_reducible refine belowDrewN ?_ _) | (with_reducible refine Below.alloc ?_ ?_ _) | (with_reducible refine Below.setCell ?_ ?_ _) | (with_reducible refine belowStep (by assumption) ?_ ?_) | (with_reducible exact Below.size (by assumption)) | go_size))⟩
    case round =>
      obtain ⟨k, rfl, hk1, hkq, he, hbr⟩ := hrel
      have HE := Lib.hid he
      have hzr := hbr.size
      obtain ⟨t1, t2, t3, t4, t5⟩ := T1.out.below hbr
      clear he
      by_cases hlt : (k : Int) < q
      · cases hw : witB n q (k : Int) with
        | true =>
          have HWk := Lib.hid fun (w : World) => HW.out w (k : Int)
          have E := Lib.hid (wtV_some (wtO_some HG.out (witL_head HE.out hw)))
          rw [hw] at HWk
          clear hw
          go_wp2_with fail
          refine (HWk.out _).mono ?_; rintro e w3 ⟨rfl, hb3⟩
          have hz3 := hb3.size
          go_wp2
          go_ret2
          rw [E.out]
          exact ⟨rfl, by (repeat' (first | (with_reducible exact Below.refl _ _) | (with_reducible assumption) | (with_reducible refine Below.drew ?_) | (with_reducible refine belowDrewN ?_ _) | (with_reducible refine Below.alloc ?_ ?_ _) | (with_reducible refine Below.setCell ?_ ?_ _) | (with_reducible refine belowStep (by assumption) ?_ ?_) | (with_reducible exact Below.size (by assumption)) | go_size))⟩
        | false =>
          have HWk := Lib.hid fun (w : World) => HW.out w (k : Int)
          have E := Lib.hid ((witL_no hw).trans HE.out)
          rw [hw] at HWk
          clear hw
          go_wp2_with fail
          refine (HWk.out _).mono ?_; rintro e w3 ⟨rfl, hb3⟩
          have hz3 := hb3.size
          go_wp2
          go_roundw
          case rel => exact ⟨k + 1, by go_num, by omega, by omega, E.out, by (repeat' (first | (with_reducible exact Below.refl _ _) | (with_reducible assumption) | (with_reducible refine Below.drew ?_) | (with_reducible refine belowDrewN ?_ _) | (with_reducible refine Below.alloc ?_ ?_ _) | (with_reducible refine Below.setCell ?_ ?_ _) | (with_reducible refine belowStep (by assumption) ?_ ?_) | (with_reducible exact Below.size (by assumption)) | go_size))⟩
          case measure => simp [intOf]; omega
      · have E := Lib.hid (wtV_no (wtO_none (by unfold wits; rw [← witL_end (by omega) (show q ≤ (k : Int) by omega)]; exact HE.out)))
        go_wp2
        go_ret2
        rw [E.out]
        exact ⟨rfl, by (repeat' (first | (with_reducible exact Below.refl _ _) | (with_reducible assumption) | (with_reducible refine Below.drew ?_) | (with_reducible refine belowDrewN ?_ _) | (with_reducible refine Below.alloc ?_ ?_ _) | (with_reducible refine Below.setCell ?_ ?_ _) | (with_reducible refine belowStep (by assumption) ?_ ?_) | (with_reducible exact Below.size (by assumption)) | go_size))⟩
theorem witnessesOf_any (n q : Int) (w : World) : Calls Try.prog 43 #[.agg #[.int .i64 n, .int .i64 q]] w (fun e w' => e = .returned (.func (.func 60) #[] #[.pointer (some ⟨w.heap.size, 0, none⟩)]) ∧ w' = w.alloc (.cells #[.int .i64 (n), .int .i64 (q)] 27)) := by
  go_enter Try.func43, Try.ntmps43
  go_wp2
  go_ret
  exact ⟨rfl, rfl⟩
/-- what a walk over a list of numbers leaves -/
def WitPost (J Jx : List Int → World → Prop) (xs : List Int) (e : Ending) (W' : World) : Prop := (∃ v, e = .returned v) ∧ ((∃ ys, ys = xs ∧ J ys W') ∨ (∃ pre, pre <+: xs ∧ Jx pre W'))
theorem cellNew (W : World) (v : Value) (t : TypeId) : (W.alloc (.cells #[v] t)).cell? ⟨W.heap.size, 0, none⟩ = some v ∧ (W.alloc (.cells #[v] t)).frozen? ⟨W.heap.size, 0, none⟩ = false := ⟨by simp, by simp [go_sem]⟩
theorem setTwo {W : World} {b1 b2 : Nat} (h : b1 ≠ b2) {u1 u2 : Value} (v1 v2 : Value) (h1 : W.cell? ⟨b1, 0, none⟩ = some u1) (h2 : W.cell? ⟨b2, 0, none⟩ = some u2) :
    ((W.setCell ⟨b1, 0, none⟩ v1).setCell ⟨b2, 0, none⟩ v2).cell? ⟨b1, 0, none⟩ = some v1 ∧ ((W.setCell ⟨b1, 0, none⟩ v1).setCell ⟨b2, 0, none⟩ v2).cell? ⟨b2, 0, none⟩ = some v2 := by
  refine ⟨?_, ?_⟩
  · rw [World.cell?_setCell_far _ _ _ _ (fun e => h e.symm)]
    exact World.cell?_setCell_same' _ _ _ (by rw [h1]; rfl)
  · exact World.cell?_setCell_same' _ _ _ (by rw [World.cell?_setCell_far _ _ _ _ h, h2]; rfl)
theorem cellMore {W : World} {a : Addr} {v : Value} (o : Obj) (h : W.cell? a = some v) : (W.alloc o).cell? a = some v := cell_kept h (World.grownBy_alloc W o none) (fun r e => by cases e)
theorem frozenMore {W : World} {a : Addr} {v : Value} (o : Obj) (h : W.cell? a = some v) (hf : W.frozen? a = false) : (W.alloc o).frozen? a = false := (frozen_kept h (World.grownBy_alloc W o none) (fun r e => by cases e)).trans hf
theorem grown_of_below {W W' : World} (h : Below W.heap.size W W') : W.grownBy W' none := ⟨h.os, h.tape, h.output, h.size, fun k hk _ => h.block k hk⟩
set_option maxRecDepth 100000 in
set_option maxHeartbeats 4000000 in
/-- the walk over the witnesses, for every loop body that keeps what lay below a block -/
theorem wits1 (m l B n₀ : Nat) (n q : Int) (n1 : 1 ≤ n) (n2 : n ≤ 1000000000) (q1 : 1 ≤ q) (q2 : q ≤ 1000000000) (hB : B < n₀) (J Jx : List Int → World → Prop)
    (hJ : ∀ s W W', J s W → Below W.heap.size W W' → J s W')
    (hY : ∀ pre x W, J pre W → pre.length < q.toNat → YieldAt Fence.wide (m - 1) Try.prog l #[.int .i64 x] W fun e W' =>
      (e = .returned (.bool true) ∧ J (pre ++ [x]) W' ∧ Below n₀ W W') ∨ (e = .returned (.bool false) ∧ Jx (pre ++ [x]) W'))
    (W : World) (hW : n₀ ≤ W.heap.size) (hT : TwoAt W B n q) (h0 : J [] W) :
    CallsIn Fence.wide m Try.prog 60 #[.func (.yield l) #[] #[], .pointer (some ⟨B, 0, none⟩)] W (WitPost J Jx (wits n q)) := by
  have HW := Lib.hid fun (w : World) (d : Int) => isWitness_any n q d w n1 q1 q2
  have HT := Lib.hid hT
  have hdp : Fence.wide.depth.isSome = true → 1 ≤ m := fun h => by cases h
  have r0 := Int.emod_nonneg q (by omega : n ≠ 0)
  have r1 := Int.emod_lt_of_pos q (by omega : 0 < n)
  obtain ⟨d0, hd0⟩ : ∃ d0 : Nat, (d0 : Int) = n - q % n := ⟨(n - q % n).toNat, by omega⟩
  obtain ⟨hf1, hf2⟩ := witL_first (q := q) n1 hd0
  have HF1 := Lib.hid hf1
  have HF2 := Lib.hid hf2
  have o1 : q.tmod n = q % n := Int.tmod_eq_emod_of_nonneg (by omega)
  have o2 : IntKind.i64.wrap (n - q % n) = n - q % n := IntWalk.i64_in _ (by omega)
  have hnne : n ≠ 0 := by omega
  obtain ⟨t1, t2, t3, t4, t5⟩ := hT
  clear hf1 hf2
  refine callsIn_of_wp Try.func60 rfl trivial ?_ rfl
  simp only [Try.ntmps60, List.size_toArray, List.length_cons, List.length_nil, Nat.reduceAdd, Nat.reduceSub, Array.replicate_succ, Array.replicate_zero, List.push_toArray, List.append_toArray, List.nil_append, List.cons_append]
  gi_wp2
  gi_quiet (fail)
  gi_wp2
  have HB0 : Below W.heap.size W (W.drewN nq) := belowDrewN (Below.refl _ _) nq
  gi_loopw [3] (fun v3 wr => ∃ d : Nat, v3 = .int .i64 (d : Int) ∧ (q + (d : Int)) % n = 0 ∧ J (witL n q d) wr ∧ Below n₀ W wr) (fun v3 _ => q.toNat - (intOf v3).toNat)
  case atStart => exact ⟨d0, by rw [hd0], HF2.out, by rw [HF1.out]; exact hJ _ _ _ h0 HB0, HB0.mono hW⟩
  case round =>
    clear HB0 hd0 HF1 HF2 o1 o2
    obtain ⟨d, rfl, hd, hJs, hbr⟩ := hrel
    have u1 : wr.cell? ⟨B, 0, none⟩ = some (.int .i64 n) := (hbr.cell (p := ⟨B, 0, none⟩) hB).trans t1
    have u2 : wr.cell? ⟨B, 1, none⟩ = some (.int .i64 q) := (hbr.cell (p := ⟨B, 1, none⟩) hB).trans t2
    have hzr : n₀ ≤ wr.heap.size := Nat.le_trans hW hbr.size
    have HD := Lib.hid hd
    clear hd
    by_cases hlt : (d : Int) < q
    · obtain ⟨e, he⟩ : ∃ e : Nat, (e : Int) = (d : Int) + n := ⟨((d : Int) + n).toNat, by omega⟩
      have HE : Hid ((q + (e : Int)) % n = 0) := Lib.hid (by rw [he, ← Int.add_assoc, Int.add_emod_right]; exact HD.out)
      have HL := Lib.hid (witL_row (q := q) n1 HD.out he)
      have HN := Lib.hid he
      have q3 : (d : Int) + n ≤ 2000000000 := by omega
      have hln : (witL n q d).length < q.toNat := by have := witL_len n q d; omega
      have HWd := Lib.hid fun (w : World) => HW.out w (d : Int)
      clear he
      cases hw : witB n q (d : Int) with
      | true =>
        have HL2 := Lib.hid (HL.out.trans (if_pos hw))
        have HP : Hid (witL n q d ++ [(d : Int)] <+: wits n q) := Lib.hid (by
          have := witL_mono n q (show d + 1 ≤ q.toNat by omega)
          rw [witL_yes hw] at this
          exact this)
        rw [hw] at HWd
        clear hw HL
        gi_wp2_with ((refine ⟨trivial, hdp, ?_⟩; refine (callsIn_wide.2 (HWd.out _)).mono ?_; rintro e w3 ⟨rfl, hb3⟩; obtain ⟨fn, tmps, assign, body, hy, hR⟩ := hY _ (d : Int) w3 (hJ _ _ _ hJs hb3) hln))
        refine ⟨hdp, hR.mono ?_⟩
        rintro e W4 (⟨rfl, hJ4, hk4⟩ | ⟨rfl, hJx4⟩)
        · have u3 : W4.cell? ⟨B, 0, none⟩ = some (.int .i64 n) := (hk4.cell (p := ⟨B, 0, none⟩) hB).trans ((hb3.cell (p := ⟨B, 0, none⟩) (Nat.lt_of_lt_of_le hB hzr)).trans u1)
          gi_wp2
          go_roundw
          case rel => exact ⟨e, by rw [HN.out], HE.out, by rw [HL2.out]; exact hJ4, (hbr.trans (hb3.mono hzr)).trans hk4⟩
          case measure => simp [intOf]; omega
        · gi_wp2
          refine bodyPost_ret (results_none rfl _ _ _) rfl ?_
          exact ⟨⟨_, rfl⟩, .inr ⟨witL n q d ++ [(d : Int)], HP.out, hJx4⟩⟩
      | false =>
        have HL2 := Lib.hid (HL.out.trans (if_neg (by rw [hw]; decide)))
        rw [hw] at HWd
        clear hw HL
        gi_wp2_with ((refine ⟨trivial, hdp, ?_⟩; refine (callsIn_wide.2 (HWd.out _)).mono ?_; rintro e w3 ⟨rfl, hb3⟩))
        refine ⟨fun _ h => (by cases h), ?_⟩
        have u3 : w3.cell? ⟨B, 0, none⟩ = some (.int .i64 n) := (hb3.cell (p := ⟨B, 0, none⟩) (Nat.lt_of_lt_of_le hB hzr)).trans u1
        gi_wp2
        go_roundw
        case rel => exact ⟨e, by rw [HN.out], HE.out, by rw [HL2.out]; exact hJ _ _ _ hJs hb3, hbr.trans (hb3.mono hzr)⟩
        case measure => simp [intOf]; omega
    · have E : Hid (witL n q d = wits n q) := Lib.hid (witL_end (by omega) (by omega))
      gi_wp2
      go_end0
      exact ⟨⟨_, rfl⟩, .inl ⟨_, rfl, by rw [← E.out]; exact hJs⟩⟩
/-- what the walk is to a loop over it -/
theorem wits_stops (m B n₀ : Nat) (n q : Int) (n1 : 1 ≤ n) (n2 : n ≤ 1000000000) (q1 : 1 ≤ q) (q2 : q ≤ 1000000000) (hB : B < n₀) (w : World) (hn₀ : n₀ ≤ w.heap.size) (hT : TwoAt w B n q) :
    SeqStopsK Fence.wide m Try.prog 60 #[.pointer (some ⟨B, 0, none⟩)] (fun x : Int => #[Value.int .i64 x]) (Below n₀) (fun ys => ys = wits n q) (fun pre => pre <+: wits n q) q.toNat w := fun l J Jx W hW hJ _ hY h0 =>
  wits1 m l B n₀ n q n1 n2 q1 q2 hB J Jx (fun s W1 W2 hs hb => hJ s W1 W2 none hs (grown_of_below hb) (fun r e => by cases e)) hY W (Nat.le_trans hn₀ hW.size) (hT.below hW) h0
set_option maxRecDepth 100000 in
set_option maxHeartbeats 4000000 in
theorem twoWitness_any (n q : Int) (w : World) (rn : -9223372036854775808 ≤ n ∧ n ≤ 9223372036854775807) (rq : -9223372036854775808 ≤ q ∧ q ≤ 9223372036854775807) : Calls Try.prog 19 #[.agg #[.int .i64 n, .int .i64 q]] w (Ret (wtV (wtO n q)) w) := by
  have HI := Lib.hid fun (w : World) => isPositive_any n q 20000 w rn rq
  have hdp : ∀ m : Nat, Fence.wide.depth.isSome = true → 1 ≤ m := fun m h => by cases h
  refine (callsIn_wide (n := 6)).1 ?_
  refine callsIn_of_wp_marks Try.func19 rfl trivial ?_ rfl
  simp only [Try.ntmps19, List.size_toArray, List.length_cons, List.length_nil, Nat.reduceAdd, Nat.reduceSub, Array.replicate_succ, Array.replicate_zero, List.push_toArray, List.append_toArray, List.nil_append, List.cons_append]
  cases hg : twoB n q 20000 with
  | false =>
    have E := Lib.hid (wtV_no (wtO_no hg))
    rw [hg] at HI
    clear hg
    gi_wp2_with ((refine ⟨trivial, ?_⟩; refine (callsIn_wide.2 (HI.out _)).mono ?_; rintro e w1 ⟨rfl, hb1⟩; obtain ⟨hc1, hf1⟩ := bcellB hb1; have hz1 := hb1.size; (try simp only [World.size_alloc, World.size_setCell, World.size_drew, World.heap_drewN] at hc1 hf1 hz1); (try have hy1_r_0 : wr.heap.size < w1.heap.size := by omega); (try have hn1_r_0 : wr.heap.size ≠ w1.heap.size := by omega); (try have hm1_r_0 : w1.heap.size ≠ wr.heap.size := by omega); (try have hy1_r_1 : wr.heap.size + 1 < w1.heap.size := by omega); (try have hn1_r_1 : wr.heap.size + 1 ≠ w1.heap.size := by omega); (try have hm1_r_1 : w1.heap.size ≠ wr.heap.size + 1 := by omega); (try have hy1_r_2 : wr.heap.size + 1 + 1 < w1.heap.size := by omega); (try have hp1_r_1 : wr.heap.size < w1.heap.size + 1 := by omega); (try have hp1_r_2 : wr.heap.size < w1.heap.size + 1 + 1 := by omega); (try have hy1_0_0 : w.heap.size < w1.heap.size := by omega); (try have hn1_0_0 : w.heap.size ≠ w1.heap.size := by omega); (try have hm1_0_0 : w1.heap.size ≠ w.heap.size := by omega); (try have hy1_0_1 : w.heap.size + 1 < w1.heap.size := by omega); (try have hn1_0_1 : w.heap.size + 1 ≠ w1.heap.size := by omega); (try have hm1_0_1 : w1.heap.size ≠ w.heap.size + 1 := by omega); (try have hy1_0_2 : w.heap.size + 1 + 1 < w1.heap.size := by omega); (try have hp1_0_1 : w.heap.size < w1.heap.size + 1 := by omega); (try have hp1_0_2 : w.heap.size < w1.heap.size + 1 + 1 := by omega); (try have hg1_g1 : g1 < w1.heap.size := by omega); (try have hi1_g1 : g1 ≠ w1.heap.size := by omega); (try have hj1_g1 : w1.heap.size ≠ g1 := by omega); (try have hk1_g1 : g1 < w1.heap.size + 1 := by omega); (try have hg1_g2 : g2 < w1.heap.size := by omega); (try have hi1_g2 : g2 ≠ w1.heap.size := by omega); (try have hj1_g2 : w1.heap.size ≠ g2 := by omega); (try have hk1_g2 : g2 < w1.heap.size + 1 := by omega)))
    refine ⟨.tuple #[.int .i64 0, .bool false], by simp [results, Try.f19, go_sem, hc1], by rw [E.out], by (repeat' (first | (with_reducible exact Below.refl _ _) | (with_reducible assumption) | (with_reducible refine Below.drew ?_) | (with_reducible refine belowDrewN ?_ _) | (with_reducible refine Below.alloc ?_ ?_ _) | (with_reducible refine Below.setCell ?_ ?_ _) | (with_reducible refine belowStep (by assumption) ?_ ?_) | (with_reducible exact Below.size (by assumption)) | go_size))⟩
  | true =>
    obtain ⟨n1, n2, q1, q2, q3, _⟩ := twoB_bounds hg
    have HG := Lib.hid hg
    have T0 := Lib.hid (TwoAt.new w n q 27)
    rw [hg] at HI
    clear hg
    gi_wp2_with (first | (refine ⟨trivial, ?_⟩; refine (callsIn_wide.2 (HI.out _)).mono ?_; rintro e w1 ⟨rfl, hb1⟩; obtain ⟨hc1, hf1⟩ := bcellB hb1; have hz1 := hb1.size; (try simp only [World.size_alloc, World.size_setCell, World.size_drew, World.heap_drewN] at hc1 hf1 hz1); (try have hy1_r_0 : wr.heap.size < w1.heap.size := by omega); (try have hn1_r_0 : wr.heap.size ≠ w1.heap.size := by omega); (try have hm1_r_0 : w1.heap.size ≠ wr.heap.size := by omega); (try have hy1_r_1 : wr.heap.size + 1 < w1.heap.size := by omega); (try have hn1_r_1 : wr.heap.size + 1 ≠ w1.heap.size := by omega); (try have hm1_r_1 : w1.heap.size ≠ wr.heap.size + 1 := by omega); (try have hy1_r_2 : wr.heap.size + 1 + 1 < w1.heap.size := by omega); (try have hp1_r_1 : wr.heap.size < w1.heap.size + 1 := by omega); (try have hp1_r_2 : wr.heap.size < w1.heap.size + 1 + 1 := by omega); (try have hy1_0_0 : w.heap.size < w1.heap.size := by omega); (try have hn1_0_0 : w.heap.size ≠ w1.heap.size := by omega); (try have hm1_0_0 : w1.heap.size ≠ w.heap.size := by omega); (try have hy1_0_1 : w.heap.size + 1 < w1.heap.size := by omega); (try have hn1_0_1 : w.heap.size + 1 ≠ w1.heap.size := by omega); (try have hm1_0_1 : w1.heap.size ≠ w.heap.size + 1 := by omega); (try have hy1_0_2 : w.heap.size + 1 + 1 < w1.heap.size := by omega); (try have hp1_0_1 : w.heap.size < w1.heap.size + 1 := by omega); (try have hp1_0_2 : w.heap.size < w1.heap.size + 1 + 1 := by omega); (try have hg1_g1 : g1 < w1.heap.size := by omega); (try have hi1_g1 : g1 ≠ w1.heap.size := by omega); (try have hj1_g1 : w1.heap.size ≠ g1 := by omega); (try have hk1_g1 : g1 < w1.heap.size + 1 := by omega); (try have hg1_g2 : g2 < w1.heap.size := by omega); (try have hi1_g2 : g2 ≠ w1.heap.size := by omega); (try have hj1_g2 : w1.heap.size ≠ g2 := by omega); (try have hk1_g2 : g2 < w1.heap.size + 1 := by omega)) | (refine ⟨trivial, ?_⟩; refine (callsIn_wide.2 (witnessesOf_any _ _ _)).mono ?_; rintro e w2 ⟨rfl, hw2⟩; subst hw2))
    have hz1 := hb1.size
    simp only [World.size_alloc] at hz1
    have B1 : Below w1.heap.size w1 (w1.alloc (.cells #[.int .i64 (n), .int .i64 (q)] 27)) := (Below.refl _ _).alloc (Nat.le_refl _) _
    have hk3 : w.heap.size + 1 ≠ w.heap.size + 1 + 1 := by omega
    have hk1 : w.heap.size + 1 < w1.heap.size := by omega
    have hk2 : w.heap.size + 1 + 1 < w1.heap.size := by omega
    have N1 := cellNew (w.alloc (.cells #[.int .i64 (n), .int .i64 (q)] 27)) (.int .i64 0) 3
    have N2 := cellNew ((w.alloc (.cells #[.int .i64 (n), .int .i64 (q)] 27)).alloc (.cells #[.int .i64 0] 3)) (.bool false) 4
    simp only [World.size_alloc] at N1 N2
    have A1 := cellMore (.cells #[.bool false] 4) N1.1
    have A2 := N2.1
    have A3 := frozenMore (.cells #[.bool false] 4) N1.1 N1.2
    have A4 := N2.2
    have C1 := (B1.cell (p := ⟨w.heap.size + 1, 0, none⟩) hk1).trans ((hc1 (w.heap.size + 1) 0 (by omega)).trans A1)
    have C2 := (B1.cell (p := ⟨w.heap.size + 1 + 1, 0, none⟩) hk2).trans ((hc1 (w.heap.size + 1 + 1) 0 (by omega)).trans A2)
    have F1 := (B1.frozen (p := ⟨w.heap.size + 1, 0, none⟩) hk1).trans ((hf1 (w.heap.size + 1) 0 (by omega)).trans A3)
    have F2 := (B1.frozen (p := ⟨w.heap.size + 1 + 1, 0, none⟩) hk2).trans ((hf1 (w.heap.size + 1 + 1) 0 (by omega)).trans A4)
    have HB : Below w.heap.size w (w1.alloc (.cells #[.int .i64 (n), .int .i64 (q)] 27)) := by (repeat' (first | (with_reducible exact Below.refl _ _) | (with_reducible assumption) | (with_reducible refine Below.drew ?_) | (with_reducible refine belowDrewN ?_ _) | (with_reducible refine Below.alloc ?_ ?_ _) | (with_reducible refine Below.setCell ?_ ?_ _) | (with_reducible refine belowStep (by assumption) ?_ ?_) | (with_reducible exact Below.size (by assumption)) | go_size))
    refine wpIn_rangeFunc_ownF rfl (by omega) (gf := 60) (lb := #[.pointer (some ⟨w1.heap.size, 0, none⟩)]) rfl trivial (enters_of Try.func60 (by kernel_rfl) rfl)
      (wits_stops 5 w1.heap.size (w1.heap.size + 1) n q n1 n2 q1 q2 (Nat.lt_succ_self _) _ (by simp) (TwoAt.new w1 n q 27)) belowK_t (belowK_b (by simp)) (Below.refl _ _) (fun _ => rfl)
      (fun pre W => (pre = [] ∧ W.cell? ⟨w.heap.size + 1, 0, none⟩ = some (.int .i64 0) ∧ W.cell? ⟨w.heap.size + 1 + 1, 0, none⟩ = some (.bool false) ∧ W.frozen? ⟨w.heap.size + 1, 0, none⟩ = false ∧ W.frozen? ⟨w.heap.size + 1 + 1, 0, none⟩ = false) ∧ Below w.heap.size w W)
      (fun c pre W => (c = .ret ∧ ∃ x : Int, pre = [x] ∧ W.cell? ⟨w.heap.size + 1, 0, none⟩ = some (.int .i64 x) ∧ W.cell? ⟨w.heap.size + 1 + 1, 0, none⟩ = some (.bool true)) ∧ Below w.heap.size w W)
      (OwnFrom.and (Own.from (fun s A B row hs hg hr => ⟨hs.1, cell_kept hs.2.1 hg hr, cell_kept hs.2.2.1 hg hr, (frozen_kept hs.2.1 hg hr).trans hs.2.2.2.1, (frozen_kept hs.2.2.1 hg hr).trans hs.2.2.2.2⟩) _) (ownFrom_below (Nat.le_refl _) (by simp; omega)))
      (fun c => OwnFrom.and (Own.from (fun s A B row hs hg hr => ⟨hs.1, let ⟨x, h1, h2, h3⟩ := hs.2; ⟨x, h1, cell_kept h2 hg hr, cell_kept h3 hg hr⟩⟩) _) (ownFrom_below (Nat.le_refl _) (by simp; omega)))
      ⟨⟨rfl, C1, C2, F1, F2⟩, HB⟩
      (fun x => { tmps := #[.agg #[.int .i64 n, .int .i64 q], .pointer (some ⟨w.heap.size, 0, none⟩), .pointer (some ⟨w.heap.size + 1, 0, none⟩), .pointer (some ⟨w.heap.size + 1 + 1, 0, none⟩), .int .i64 x, .agg #[.int .i64 n, .int .i64 q], .bool true, .bool false, .agg #[.int .i64 n, .int .i64 q], .func (.func 60) #[] #[.pointer (some ⟨w1.heap.size, 0, none⟩)], .int .i64 x, undef], defers := [] }) ?assign ?body ?done ?stop
    case assign =>
      intro l x W K hK
      gi_wp2
      exact hK
    case body =>
      rintro l pre x W ⟨⟨rfl, hc1, hc2, hf1, hf2⟩, hB⟩ _
      gi_wp2
      refine ⟨(KeepsOthers.setCell _ _ _).trans (KeepsOthers.setCell _ _ _), ⟨rfl, x, rfl, (setTwo hk3 _ _ hc1 hc2).1, (setTwo hk3 _ _ hc1 hc2).2⟩, (hB.setCell (p := ⟨w.heap.size + 1, 0, none⟩) (by simp) _).setCell (p := ⟨w.heap.size + 1 + 1, 0, none⟩) (by simp; omega) _⟩
    case done =>
      rintro D ys W hD hys ⟨⟨rfl, hc1, hc2, hf1, hf2⟩, hB⟩ hK
      have E := Lib.hid (wtV_no (wtO_none hys.symm))
      gi_wp2
      obtain ⟨s1, s2⟩ := setTwo hk3 (.int .i64 0) (.bool false) hc1 hc2
      have hK' := ((KeepsOthers.setCell W ⟨w.heap.size + 1, 0, none⟩ (.int .i64 0)).trans (KeepsOthers.setCell _ ⟨w.heap.size + 1 + 1, 0, none⟩ (.bool false))).same D _ hK rfl
      refine ⟨by simp, .inl ⟨_, _, rfl, run_takeDeferred hK', ?_⟩⟩
      have hc3 := cell_kept s1 (grownBy_putObj' _ D (.deferred none)) (fun r e => by cases e; exact ⟨_, hK', rfl⟩)
      have hc4 := cell_kept s2 (grownBy_putObj' _ D (.deferred none)) (fun r e => by cases e; exact ⟨_, hK', rfl⟩)
      exact ⟨.tuple #[.int .i64 0, .bool false], by simp [results, Try.f19, go_sem, hc3, hc4], by rw [E.out], ((hB.setCell (p := ⟨w.heap.size + 1, 0, none⟩) (by simp) _).setCell (p := ⟨w.heap.size + 1 + 1, 0, none⟩) (by simp; omega) _).trans (belowK_b (w := w) (Nat.le_refl _) _ D _ _ (by simp at hD; omega) hK' rfl rfl)⟩
    case stop =>
      rintro D c pre W hD hpre ⟨⟨rfl, x, rfl, hc1, hc2⟩, hB⟩ hK
      have E := Lib.hid (wtV_some (wtO_some HG.out hpre))
      gi_wp2
      refine ⟨by simp, .inl ⟨_, _, rfl, run_takeDeferred hK, ?_⟩⟩
      have hc3 := cell_kept hc1 (grownBy_putObj' _ D (.deferred none)) (fun r e => by cases e; exact ⟨_, hK, rfl⟩)
      have hc4 := cell_kept hc2 (grownBy_putObj' _ D (.deferred none)) (fun r e => by cases e; exact ⟨_, hK, rfl⟩)
      exact ⟨.tuple #[.int .i64 x, .bool true], by simp [results, Try.f19, go_sem, hc3, hc4], by rw [E.out], hB.trans (belowK_b (w := w) (Nat.le_refl _) W D _ _ (by simp at hD; omega) hK rfl rfl)⟩
end Go.Proofs.Ytchoncmalpcebaa
