import Derived.Test.YtbjblkfibinenadGreatDoorPk32
import Derived.Test.YtbjblkfibinenadGreatDoorPk33

/-
  Contracts of the program's comparison of methods.
-/
namespace Go.Proofs.YtbjblkfibinenadGreatDoor
open Go.RowKit
open Go.Maps Go.WideMaps
/-- the numbers that stand in the list after the first k methods -/
def szF (n d : Int) (k : Nat) : List Int := szL n d k ++ List.replicate (6 - k) 0
theorem szF_len {n d : Int} {k : Nat} (h : k ≤ 6) : (szF n d k).length = 6 := by unfold szF; rw [List.length_append, szL_len, List.length_replicate]; omega
theorem szF_at {n d : Int} {k : Nat} (h : k < 6) : (szF n d k)[k]? = some 0 := by
  unfold szF
  rw [List.getElem?_append_right (by rw [szL_len]; omega), szL_len, Nat.sub_self, List.getElem?_replicate, if_pos (by omega)]
theorem szF_next {n d : Int} {k : Nat} (h : k < 6) : (szF n d k).set k ((msL k n d).length : Int) = szF n d (k + 1) := by
  unfold szF
  rw [List.set_append_right _ _ (by rw [szL_len]; omega), szL_len, Nat.sub_self, show 6 - k = (6 - (k + 1)) + 1 from by omega, List.replicate_succ, List.set_cons_zero, szL, List.append_assoc, List.singleton_append]
theorem szF_none {n d : Int} {k : Nat} (h : k < 6) (h0 : (msL k n d).length = 0) : szF n d (k + 1) = szF n d k := by
  unfold szF
  rw [szL, h0, show 6 - k = (6 - (k + 1)) + 1 from by omega, List.replicate_succ, List.append_assoc]
  rfl
theorem szF_all (n d : Int) : szF n d 6 = szL n d 6 := by unfold szF; simp
theorem szO_len (n d : Int) : ((szO n d).getD []).length ≤ 24 := by
  unfold szO
  split
  · have := szL_len n d 6; rw [Option.getD_some]; omega
  · simp
theorem beO_len (n d : Int) : ((beO n d).getD []).length ≤ 24 := by
  unfold beO
  split
  · split
    · exact beL_len n d 6
    · simp
  · simp
theorem mbO_yes {k : Nat} {n d : Int} (h : proB n d = true) : mbO k n d = msO k n d := by unfold mbO; rw [if_pos h]
theorem mbO_no {k : Nat} {n d : Int} (h : proB n d = false) : mbO k n d = none := by unfold mbO; rw [h]; rfl
set_option maxRecDepth 100000 in
theorem idx_any (k : Nat) (hk : k < 6) : ∀ w : World, Sem.run Tryz.prog (Instr.index 39 (.agg #[.string (nmS 0), .string (nmS 1), .string (nmS 2), .string (nmS 3), .string (nmS 4), .string (nmS 5)]) (.int .i64 (k : Int))) w = .ok (.string (nmS k)) w := by
  rcases (by omega : k = 0 ∨ k = 1 ∨ k = 2 ∨ k = 3 ∨ k = 4 ∨ k = 5) with rfl | rfl | rfl | rfl | rfl | rfl <;> exact fun w => by kernel_rfl
set_option maxRecDepth 100000 in
set_option maxHeartbeats 8000000 in
theorem methodSizes_any (n d : Int) (w : World) (rn : -9223372036854775808 ≤ n ∧ n ≤ 9223372036854775807) (rd : -9223372036854775808 ≤ d ∧ d ≤ 9223372036854775807) (hE : EnvM w) : Calls Tryz.prog 8 #[.agg #[.int .i64 n, .int .i64 d]] w (RetLB ((szO n d).getD []) (szO n d).isSome w) := by
  have HP := Lib.hid fun (w : World) => isProper_any n d w rn rd
  have HE := Lib.hid hE
  have TG := Lib.hid (TwoAt.new w (n) (d) 27)
  clear hE
  cases hp : proB n d with
  | false =>
    have E := Lib.hid (szO_no hp)
    rw [hp] at HP
    clear hp
    go_enter Tryz.func8, Tryz.ntmps8
    obtain ⟨oG1, oG2, oG3, oG4, oG5⟩ := TG.out
    go_wp2_with fail
    refine (HP.out _).mono ?_; rintro e w1 ⟨rfl, hb1⟩; obtain ⟨hc1, hf1⟩ := bcellB hb1; have hz1 := hb1.size; (try simp only [World.size_alloc] at hc1 hf1 hz1); (try have hy1_r_0 : wr.heap.size < w1.heap.size := by omega); (try have hn1_r_0 : wr.heap.size ≠ w1.heap.size := by omega); (try have hm1_r_0 : w1.heap.size ≠ wr.heap.size := by omega); (try have hy1_r_1 : wr.heap.size + 1 < w1.heap.size := by omega); (try have hn1_r_1 : wr.heap.size + 1 ≠ w1.heap.size := by omega); (try have hm1_r_1 : w1.heap.size ≠ wr.heap.size + 1 := by omega); (try have hy1_r_2 : wr.heap.size + 1 + 1 < w1.heap.size := by omega); (try have hp1_r_1 : wr.heap.size < w1.heap.size + 1 := by omega); (try have hp1_r_2 : wr.heap.size < w1.heap.size + 1 + 1 := by omega); (try have hy1_0_0 : w.heap.size < w1.heap.size := by omega); (try have hn1_0_0 : w.heap.size ≠ w1.heap.size := by omega); (try have hm1_0_0 : w1.heap.size ≠ w.heap.size := by omega); (try have hy1_0_1 : w.heap.size + 1 < w1.heap.size := by omega); (try have hn1_0_1 : w.heap.size + 1 ≠ w1.heap.size := by omega); (try have hm1_0_1 : w1.heap.size ≠ w.heap.size + 1 := by omega); (try have hy1_0_2 : w.heap.size + 1 + 1 < w1.heap.size := by omega); (try have hp1_0_1 : w.heap.size < w1.heap.size + 1 := by omega); (try have hp1_0_2 : w.heap.size < w1.heap.size + 1 + 1 := by omega); (try have hg1_g1 : g1 < w1.heap.size := by omega); (try have hi1_g1 : g1 ≠ w1.heap.size := by omega); (try have hj1_g1 : w1.heap.size ≠ g1 := by omega); (try have hk1_g1 : g1 < w1.heap.size + 1 := by omega); (try have hg1_g2 : g2 < w1.heap.size := by omega); (try have hi1_g2 : g2 ≠ w1.heap.size := by omega); (try have hj1_g2 : w1.heap.size ≠ g2 := by omega); (try have hk1_g2 : g2 < w1.heap.size + 1 := by omega)
    go_wp2
    go_ret2
    rw [E.out]
    exact ⟨_, rfl, OwnI.empty _ _, by (repeat' (first | (with_reducible exact Below.refl _ _) | (with_reducible assumption) | (with_reducible refine Below.drew ?_) | (with_reducible refine belowDrewN ?_ _) | (with_reducible refine Below.alloc ?_ ?_ _) | (with_reducible refine Below.setCell ?_ ?_ _) | (with_reducible refine belowStep (by assumption) ?_ ?_) | (with_reducible exact Below.size (by assumption)) | go_size))⟩
  | true =>
    have E := Lib.hid (szO_yes hp)
    have HB : Hid (∀ (k : Nat) (hk : k < 6) (w : World), Calls Tryz.prog 25 #[.string (nmS k), .agg #[.int .i64 n, .int .i64 d]] w (RetLB (msL k n d) (decide (0 < (msL k n d).length)) w)) := Lib.hid fun k hk w => by
      have := by_any k hk n d w rn rd
      rw [mbO_yes hp, msL_told hp] at this
      exact this
    rw [hp] at HP
    obtain ⟨i0, hi, hzi0, hzi1, hzi2⟩ := info_parts intInfo
    clear hp
    go_enter Tryz.func8, Tryz.ntmps8
    obtain ⟨oG1, oG2, oG3, oG4, oG5⟩ := TG.out
    go_wp2_with fail
    refine (HP.out _).mono ?_; rintro e w1 ⟨rfl, hb1⟩; have hz1 := hb1.size; (try simp only [World.size_alloc] at hz1)
    clear oG1 oG2 oG3 oG4 oG5
    have TG := Lib.hid (TG.out.below hb1)
    have HB1 : Below w.heap.size w w1 := by (repeat' (first | (with_reducible exact Below.refl _ _) | (with_reducible assumption) | (with_reducible refine Below.drew ?_) | (with_reducible refine belowDrewN ?_ _) | (with_reducible refine Below.alloc ?_ ?_ _) | (with_reducible refine Below.setCell ?_ ?_ _) | (with_reducible refine belowStep (by assumption) ?_ ?_) | (with_reducible exact Below.size (by assumption)) | go_size))
    have HE1 := Lib.hid (HE.out.below HB1)
    clear HE HP hb1
    have hg0 := HE1.out.2
    go_wp2_with (go_loud (at_make; refine wpList_make_full _ rfl _ _ 24 rfl w.heap.size 3 i0 (.int .i64 0) 1 Tryz.underlying24 hi hzi0 hzi1 .i64 .i64 _ _ 6 rfl rfl rfl rfl (by rw [hzi2]; omega) (by unfold maxLen; omega) HB1.size ?_; intro w2 hown2 hgrow2; have hb2 : Below w1.heap.size w1 w2 := (Below.refl _ _).grown hgrow2 (Nat.le_refl _) (fun k hk => by cases hk); have HE2 := Lib.hid (HE1.out.below hb2); have q0 := HE2.out.1 0 (by omega); have q1 := HE2.out.1 1 (by omega); have q2 := HE2.out.1 2 (by omega); have q3 := HE2.out.1 3 (by omega); have q4 := HE2.out.1 4 (by omega); have q5 := HE2.out.1 5 (by omega)))
    clear q0 q1 q2 q3 q4 q5
    have HT2 := Lib.hid (TG.out.below hb2)
    have hz2' := hb2.size
    have HB2 : Below w.heap.size w w2 := by (repeat' (first | (with_reducible exact Below.refl _ _) | (with_reducible assumption) | (with_reducible refine Below.drew ?_) | (with_reducible refine belowDrewN ?_ _) | (with_reducible refine Below.alloc ?_ ?_ _) | (with_reducible refine Below.setCell ?_ ?_ _) | (with_reducible refine belowStep (by assumption) ?_ ?_) | (with_reducible exact Below.size (by assumption)) | go_size))
    have Hown : Hid (OwnI w2 w.heap.size (.slice (some ⟨w1.heap.size, 0, none⟩) 6 6) (szF n d 0)) := Lib.hid (by
      unfold OwnI
      rw [szF_len (by omega)]
      rw [show (Value.int IntKind.i64 0).cells = #[Value.int IntKind.i64 0] from rfl, Nat.mul_one, toList_madeCells_one] at hown2
      exact hown2)
    clear hown2 hgrow2 TG
    go_loopw [14] (fun v14 wr => ∃ k : Nat, k ≤ 6 ∧ v14 = .int .i64 (k : Int) ∧ OwnI wr w.heap.size (.slice (some ⟨w1.heap.size, 0, none⟩) 6 6) (szF n d k) ∧ Below w.heap.size w wr ∧ Below w1.heap.size w2 wr) (fun v14 _ => 6 - (intOf v14).toNat)
    case atStart => exact ⟨0, by omega, rfl, Hown.out, HB2, Below.refl _ _⟩
    case round =>
      clear Hown HB2 hb2 HE2
      obtain ⟨k, hk, rfl, ho, hbr, hbr2⟩ := hrel
      have hsz := (ho.block w1.heap.size rfl).2
      have Ho := Lib.hid ho
      clear ho
      by_cases hlt : k < 6
      · have hlt' : (k : Int) < 6 := by omega
        have hidx := idx_any k hlt
        have HBk := Lib.hid fun (w : World) => HB.out k hlt w
        have Hset := Lib.hid (szF_next (n := n) (d := d) hlt)
        have HNo := Lib.hid fun h0 => szF_none (n := n) (d := d) hlt h0
        obtain ⟨hC, hF⟩ := Ho.out.cell_ (szF_len hk).symm (szF_at hlt)
        obtain ⟨t1, t2, _, _, _⟩ := HT2.out
        have o1 : wr.cell? ⟨w.heap.size, 0, none⟩ = some (.int .i64 n) := (hbr2.cell (p := ⟨w.heap.size, 0, none⟩) (show w.heap.size < w1.heap.size by omega)).trans t1
        have o2 : wr.cell? ⟨w.heap.size, 1, none⟩ = some (.int .i64 d) := (hbr2.cell (p := ⟨w.heap.size, 1, none⟩) (show w.heap.size < w1.heap.size by omega)).trans t2
        have hml := msL_len k n d
        clear t1 t2
        by_cases h0 : 0 < (msL k n d).length
        · have HB0 : Hid (∀ w : World, Calls Tryz.prog 25 #[.string (nmS k), .agg #[.int .i64 n, .int .i64 d]] w (RetLB (msL k n d) true w)) := Lib.hid fun w => by
            have := HBk.out w
            rwa [decide_eq_true h0] at this
          have HC := Lib.hid hC
          have HF := Lib.hid hF
          clear hC hF HBk HNo
          generalize msL k n d = ls at *
          go_wp2_with fail
          refine (HB0.out _).mono ?_; rintro e w4 ⟨v4, rfl, ho4, hb4⟩
          obtain ⟨A4, c4, rfl, _⟩ := ho4.form
          have hz4 := hb4.size
          have hC4 := (hb4.cell (p := ⟨w1.heap.size, k, none⟩) hsz).trans HC.out
          have hF4 := (hb4.frozen (p := ⟨w1.heap.size, k, none⟩) hsz).trans HF.out
          have Ho4 := Lib.hid (Ho.out.below hb4)
          clear ho4
          go_wp2
          go_roundw
          case rel => exact ⟨k + 1, by omega, by go_num, by rw [← Hset.out]; exact Ho4.out.set_ (szF_len hk).symm k _, (hbr.trans (hb4.mono (by omega))).setCell (p := ⟨w1.heap.size, k, none⟩) (by show w.heap.size ≤ w1.heap.size; omega) _, (hbr2.trans (hb4.mono (by omega))).setCell (p := ⟨w1.heap.size, k, none⟩) (Nat.le_refl _) _⟩
          case measure => simp [intOf]; omega
        · have HB0 : Hid (∀ w : World, Calls Tryz.prog 25 #[.string (nmS k), .agg #[.int .i64 n, .int .i64 d]] w (RetLB (msL k n d) false w)) := Lib.hid fun w => by
            have := HBk.out w
            rwa [decide_eq_false h0] at this
          have HN2 := Lib.hid (HNo.out (by omega))
          clear hC hF HBk HNo Hset
          generalize msL k n d = ls at *
          go_wp2_with fail
          refine (HB0.out _).mono ?_; rintro e w4 ⟨v4, rfl, ho4, hb4⟩
          have hz4 := hb4.size
          have Ho4 := Lib.hid (Ho.out.below hb4)
          clear ho4
          go_wp2
          go_roundw
          case rel => exact ⟨k + 1, by omega, by go_num, by rw [HN2.out]; exact Ho4.out, hbr.trans (hb4.mono (by omega)), hbr2.trans (hb4.mono (by omega))⟩
          case measure => simp [intOf]; omega
      · obtain rfl : k = 6 := by omega
        have HR : Hid (OwnI wr w.heap.size (.slice (some ⟨w1.heap.size, 0, none⟩) 6 6) (szL n d 6)) := Lib.hid (by rw [← szF_all]; exact Ho.out)
        go_wp2
        go_ret2
        rw [E.out]
        exact ⟨_, rfl, HR.out, hbr⟩
set_option maxRecDepth 100000 in
set_option maxHeartbeats 8000000 in
theorem bestMethod_any (n d : Int) (w : World) (rn : -9223372036854775808 ≤ n ∧ n ≤ 9223372036854775807) (rd : -9223372036854775808 ≤ d ∧ d ≤ 9223372036854775807) (hE : EnvM w) : Calls Tryz.prog 13 #[.agg #[.int .i64 n, .int .i64 d]] w (RetLB ((beO n d).getD []) (beO n d).isSome w) := by
  have HE := Lib.hid hE
  have TG := Lib.hid (TwoAt.new w (n) (d) 27)
  have HE1 := Lib.hid (HE.out.below ((Below.refl _ _).alloc (Nat.le_refl _) (.cells #[.int .i64 (n), .int .i64 (d)] 27)))
  have q0 := HE1.out.1 0 (by omega)
  have q1 := HE1.out.1 1 (by omega)
  have q2 := HE1.out.1 2 (by omega)
  have q3 := HE1.out.1 3 (by omega)
  have q4 := HE1.out.1 4 (by omega)
  have q5 := HE1.out.1 5 (by omega)
  have hg0 := HE1.out.2
  clear hE HE
  cases hp : proB n d with
  | false =>
    have E := Lib.hid (beO_no hp)
    have HB : Hid (∀ (k : Nat) (hk : k < 6) (w : World), Calls Tryz.prog 25 #[.string (nmS k), .agg #[.int .i64 n, .int .i64 d]] w (RetLB [] false w)) := Lib.hid fun k hk w => by
      have := by_any k hk n d w rn rd
      rw [mbO_no hp] at this
      exact this
    clear hp
    go_enter Tryz.func13, Tryz.ntmps13
    go_wp2
    clear q0 q1 q2 q3 q4 q5
    go_loopw [4, 5, 11] (fun v4 v5 v11 wr => ∃ k : Nat, k ≤ 6 ∧ v11 = .int .i64 (k : Int) ∧ v4 = .slice none 0 0 ∧ v5 = .bool false ∧ Below (w.heap.size + 1) (w.alloc (.cells #[.int .i64 (n), .int .i64 (d)] 27)) wr) (fun _ _ v11 _ => 6 - (intOf v11).toNat)
    case atStart => exact ⟨0, by omega, rfl, rfl, rfl, Below.refl _ _⟩
    case round =>
      obtain ⟨k, hk, rfl, rfl, rfl, hbr⟩ := hrel
      have hzr := hbr.size
      simp only [World.size_alloc] at hzr
      obtain ⟨o1, o2, o3, o4, o5⟩ := TG.out.below (show Below (w.alloc (.cells #[.int .i64 (n), .int .i64 (d)] 27)).heap.size (w.alloc (.cells #[.int .i64 (n), .int .i64 (d)] 27)) wr by rw [World.size_alloc]; exact hbr)
      by_cases hlt : k < 6
      · have hlt' : (k : Int) < 6 := by omega
        have hidx := idx_any k hlt
        have HBk := Lib.hid fun (w : World) => HB.out k hlt w
        go_wp2_with fail
        refine (HBk.out _).mono ?_; rintro e w4 ⟨v4, rfl, ho4, hb4⟩
        go_wp2
        go_roundw
        case rel => exact ⟨k + 1, by omega, by go_num, rfl, rfl, hbr.trans (hb4.mono (by omega))⟩
        case measure => simp [intOf]; omega
      · obtain rfl : k = 6 := by omega
        go_wp2
        go_ret2
        rw [E.out]
        exact ⟨_, rfl, OwnI.empty _ _, (Below.alloc (Below.refl w.heap.size w) (Nat.le_refl _) _).trans (hbr.mono (by omega))⟩
  | true =>
    have EP := Lib.hid hp
    have HB : Hid (∀ (k : Nat) (hk : k < 6) (w : World), Calls Tryz.prog 25 #[.string (nmS k), .agg #[.int .i64 n, .int .i64 d]] w (RetLB (msL k n d) (decide (0 < (msL k n d).length)) w)) := Lib.hid fun k hk w => by
      have := by_any k hk n d w rn rd
      rw [mbO_yes hp, msL_told hp] at this
      exact this
    clear hp
    go_enter Tryz.func13, Tryz.ntmps13
    go_wp2
    clear q0 q1 q2 q3 q4 q5
    go_loopw [4, 5, 11] (fun v4 v5 v11 wr => ∃ (k : Nat) (A : Option Addr) (c : Nat), k ≤ 6 ∧ v11 = .int .i64 (k : Int) ∧ v4 = .slice A (beL n d k).length c ∧ v5 = .bool (decide (0 < (beL n d k).length)) ∧ OwnI wr w.heap.size (.slice A (beL n d k).length c) (beL n d k) ∧ Below (w.heap.size + 1) (w.alloc (.cells #[.int .i64 (n), .int .i64 (d)] 27)) wr) (fun _ _ v11 _ => 6 - (intOf v11).toNat)
    case atStart => exact ⟨0, none, 0, by omega, rfl, rfl, rfl, OwnI.empty _ _, Below.refl _ _⟩
    case round =>
      obtain ⟨k, A, c, hk, rfl, rfl, rfl, ho, hbr⟩ := hrel
      have hzr := hbr.size
      simp only [World.size_alloc] at hzr
      have Ho := Lib.hid ho
      clear ho
      obtain ⟨o1, o2, o3, o4, o5⟩ := TG.out.below (show Below (w.alloc (.cells #[.int .i64 (n), .int .i64 (d)] 27)).heap.size (w.alloc (.cells #[.int .i64 (n), .int .i64 (d)] 27)) wr by rw [World.size_alloc]; exact hbr)
      by_cases hlt : k < 6
      · have hlt' : (k : Int) < 6 := by omega
        have hidx := idx_any k hlt
        have HBk := Lib.hid fun (w : World) => HB.out k hlt w
        have hml := msL_len k n d
        have hbl := beL_len n d k
        have ET : Hid (0 < (msL k n d).length → ((beL n d k).length = 0 ∨ (msL k n d).length < (beL n d k).length) → beL n d (k + 1) = msL k n d) := Lib.hid fun h1 h2 => beL_take h1 h2
        have EK : Hid (¬ (0 < (msL k n d).length ∧ ((beL n d k).length = 0 ∨ (msL k n d).length < (beL n d k).length)) → beL n d (k + 1) = beL n d k) := Lib.hid fun h => beL_keep h
        generalize hbs' : beL n d (k + 1) = bs' at ET EK
        have HBS := Lib.hid hbs'
        clear hbs'
        generalize beL n d k = bs at *
        generalize msL k n d = ls at *
        by_cases h1 : 0 < ls.length
        · have HB0 : Hid (∀ w : World, Calls Tryz.prog 25 #[.string (nmS k), .agg #[.int .i64 n, .int .i64 d]] w (RetLB ls true w)) := Lib.hid fun w => by
            have := HBk.out w
            rwa [decide_eq_true h1] at this
          have HL1 := Lib.hid (decide_eq_true h1)
          by_cases h2 : bs.length = 0
          · have E2 := Lib.hid (ET.out h1 (.inl h2))
            have hd2 : decide (0 < bs.length) = false := decide_eq_false (by omega)
            rw [hd2]
            clear ET EK h2 hd2 HBk
            go_wp2_with fail
            refine (HB0.out _).mono ?_; rintro e w4 ⟨v4, rfl, ho4, hb4⟩
            obtain ⟨A4, c4, rfl, _⟩ := ho4.form
            have Ho4 := Lib.hid ho4
            clear ho4
            go_wp2
            go_roundw
            case rel => exact ⟨k + 1, A4, c4, by omega, by go_num, by rw [HBS.out, E2.out], by rw [HBS.out, E2.out, HL1.out], by rw [HBS.out, E2.out]; exact Ho4.out.mono (by omega), hbr.trans (hb4.mono (by omega))⟩
            case measure => simp [intOf]; omega
          · have hd2 : decide (0 < bs.length) = true := decide_eq_true (by omega)
            have HD2 := Lib.hid hd2
            rw [hd2]
            clear hd2
            by_cases h3 : ls.length < bs.length
            · have E2 := Lib.hid (ET.out h1 (.inr h3))
              clear ET EK h2 HBk
              go_wp2_with fail
              refine (HB0.out _).mono ?_; rintro e w4 ⟨v4, rfl, ho4, hb4⟩
              obtain ⟨A4, c4, rfl, _⟩ := ho4.form
              have Ho4 := Lib.hid ho4
              clear ho4
              go_wp2
              go_roundw
              case rel => exact ⟨k + 1, A4, c4, by omega, by go_num, by rw [HBS.out, E2.out], by rw [HBS.out, E2.out, HL1.out], by rw [HBS.out, E2.out]; exact Ho4.out.mono (by omega), hbr.trans (hb4.mono (by omega))⟩
              case measure => simp [intOf]; omega
            · have E2 := Lib.hid (EK.out (fun h => by rcases h.2 with h | h <;> omega))
              clear ET EK h2 HBk
              go_wp2_with fail
              refine (HB0.out _).mono ?_; rintro e w4 ⟨v4, rfl, ho4, hb4⟩
              obtain ⟨A4, c4, rfl, _⟩ := ho4.form
              clear ho4
              go_wp2
              go_roundw
              case rel => exact ⟨k + 1, A, c, by omega, by go_num, by rw [HBS.out, E2.out], by rw [HBS.out, E2.out, HD2.out], by rw [HBS.out, E2.out]; exact Ho.out.below hb4, hbr.trans (hb4.mono (by omega))⟩
              case measure => simp [intOf]; omega
        · have HB0 : Hid (∀ w : World, Calls Tryz.prog 25 #[.string (nmS k), .agg #[.int .i64 n, .int .i64 d]] w (RetLB ls false w)) := Lib.hid fun w => by
            have := HBk.out w
            rwa [decide_eq_false h1] at this
          have E2 := Lib.hid (EK.out (fun h => h1 h.1))
          obtain ⟨bb, hbb⟩ : ∃ bb, decide (0 < bs.length) = bb := ⟨_, rfl⟩
          have HBB := Lib.hid hbb
          rw [hbb]
          clear ET EK HBk hbb
          go_wp2_with fail
          refine (HB0.out _).mono ?_; rintro e w4 ⟨v4, rfl, ho4, hb4⟩
          clear ho4
          go_wp2
          go_roundw
          case rel => exact ⟨k + 1, A, c, by omega, by go_num, by rw [HBS.out, E2.out], by rw [HBS.out, E2.out, HBB.out], by rw [HBS.out, E2.out]; exact Ho.out.below hb4, hbr.trans (hb4.mono (by omega))⟩
          case measure => simp [intOf]; omega
      · obtain rfl : k = 6 := by omega
        have HbA : Below w.heap.size w wr := (Below.alloc (Below.refl w.heap.size w) (Nat.le_refl _) _).trans (hbr.mono (by omega))
        by_cases h1 : 0 < (beL n d 6).length
        · have E := Lib.hid (beO_some EP.out h1)
          rw [decide_eq_true h1]
          go_wp2
          go_ret2
          rw [E.out]
          exact ⟨_, rfl, Ho.out, HbA⟩
        · have E := Lib.hid (beO_none h1)
          have H2 := Lib.hid (List.eq_nil_of_length_eq_zero (show (beL n d 6).length = 0 by omega))
          rw [decide_eq_false h1]
          go_wp2
          go_ret2
          rw [E.out]
          exact ⟨_, rfl, by have := Ho.out; rw [H2.out] at this ⊢; exact this, HbA⟩
end Go.Proofs.YtbjblkfibinenadGreatDoor
