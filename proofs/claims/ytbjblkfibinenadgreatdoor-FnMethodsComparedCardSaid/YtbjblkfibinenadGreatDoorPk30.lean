import Derived.Test.YtbjblkfibinenadGreatDoorPk29

/-
  The contract of the model's rounds that replace numbers which stand twice, two at once.
-/
namespace Go.Proofs.YtbjblkfibinenadGreatDoor
open Go.RowKit
theorem cut2 {xs : List Int} {i : Nat} (h : i + 2 ≤ xs.length) : (xs.take i ++ xs.drop (i + 1)).take i ++ (xs.take i ++ xs.drop (i + 1)).drop (i + 1) = xs.take i ++ xs.drop (i + 2) := by
  have hl : (xs.take i).length = i := by rw [List.length_take]; omega
  rw [List.take_left' hl, List.drop_append, hl, List.drop_eq_nil_of_le (by omega), List.nil_append, List.drop_drop]
  congr 2
  omega
set_option maxHeartbeats 8000000 in
theorem meRounds_pair (w : World) (n d : Int) (hn : 0 ≤ n) (hn24 : n ≤ 24) (hd1 : 1 ≤ d) (hd : d ≤ 1000000000) : Calls Tryz.prog 67 #[.agg #[.int .i64 n, .int .i64 d], .bool true] w (RetRB ((exO (rounds repP 300 (repL n d))).getD []) (exO (rounds repP 300 (repL n d))).isSome w) := by
  obtain ⟨RR, hRR⟩ : ∃ RR, RR = rounds repP 300 (repL n d) := ⟨_, rfl⟩
  rw [← hRR]
  have HRR := Lib.hid hRR
  clear hRR
  go_enter Tryz.func67, Tryz.ntmps67
  have TI := Lib.hid (TwoAt.new w (n) (d) 27)
  obtain ⟨oI1, oI2, oI3, oI4, oI5⟩ := TI.out
  go_wp2
  clear oI1 oI2 oI3 oI4 oI5
  go_loopw [6, 7] (fun v6 v7 wr => ∃ k : Nat, (k : Int) ≤ n ∧ v7 = .int .i64 (k : Int) ∧ OwnI wr (w.heap.size + 1) v6 (List.replicate k d) ∧ Below (w.heap.size + 1) (w.alloc (.cells #[.int .i64 (n), .int .i64 (d)] 27)) wr) (fun _ v7 _ => n.toNat - (intOf v7).toNat)
  case atStart => exact ⟨0, by omega, rfl, OwnI.empty _ _, by (repeat' (first | (with_reducible exact Below.refl _ _) | (with_reducible assumption) | (with_reducible refine Below.drew ?_) | (with_reducible refine belowDrewN ?_ _) | (with_reducible refine Below.alloc ?_ ?_ _) | (with_reducible refine Below.setCell ?_ ?_ _) | (with_reducible refine belowStep (by assumption) ?_ ?_) | (with_reducible exact Below.size (by assumption)) | go_size))⟩
  case round =>
    obtain ⟨k, hk, rfl, ho, hbr⟩ := hrel
    have hzr := hbr.size
    (try simp only [World.size_alloc] at hzr)
    have TI := Lib.hid (TI.out.below (w' := wr) (by simpa using hbr))
    by_cases hlt : (k : Int) < n
    · have hl : (List.replicate k d).length = k := List.length_replicate
      have HL := Lib.hid (rep_next d k)
      obtain ⟨A1, c1, rfl, hr1⟩ := ho.form
      have Ho := Lib.hid ho
      clear ho hr1
      generalize List.replicate k d = xs at *
      obtain ⟨oI1, oI2, oI3, oI4, oI5⟩ := TI.out
      go_wp2_with (at_builtin; refine wpList_app _ (o := ⟨some 24, _, _, _, _, _⟩) (ys := [d]) rfl _ _ rfl rfl (OwnI.below Ho.out (by (repeat' (first | (with_reducible exact Below.refl _ _) | (with_reducible assumption) | (with_reducible refine Below.drew ?_) | (with_reducible refine belowDrewN ?_ _) | (with_reducible refine Below.alloc ?_ ?_ _) | (with_reducible refine Below.setCell ?_ ?_ _) | (with_reducible refine belowStep (by assumption) ?_ ?_) | (with_reducible exact Below.size (by assumption)) | go_size)))) (1) (1) (by first | (simp; done) | (simp; omega)) rfl (Reads.one _ d) (by (try simp only [List.length_nil, List.length_cons]); omega) (by first | exact Nat.le_refl _ | ((try simp only [World.size_alloc]); omega)) ?_; intro v3 w3 ho3 hb3 hg3 ht3; clear hg3 ht3; have hz3 := hb3.size; (try simp only [World.size_alloc] at hz3))
      go_roundw
      case rel => exact ⟨k + 1, by omega, by go_num, by rw [HL.out]; simpa using ho3, by (repeat' (first | (with_reducible exact Below.refl _ _) | (with_reducible assumption) | (with_reducible refine Below.drew ?_) | (with_reducible refine belowDrewN ?_ _) | (with_reducible refine Below.alloc ?_ ?_ _) | (with_reducible refine Below.setCell ?_ ?_ _) | (with_reducible refine belowStep (by assumption) ?_ ?_) | (with_reducible exact Below.size (by assumption)) | go_size))⟩
      case measure => simp [intOf]; omega
    · obtain rfl : n = (k : Int) := by omega
      have HR0 : Hid (RR = rounds repP 300 (List.replicate k d)) := Lib.hid (by rw [HRR.out]; unfold repL; simp)
      clear HRR
      obtain ⟨oI1, oI2, oI3, oI4, oI5⟩ := TI.out
      go_wp2
      clear oI1 oI2 oI3 oI4 oI5
      go_loopw [6, 8] (fun v6 v8 wq => ∃ (j : Nat) (xs : List Int), j ≤ 300 ∧ v8 = .int .i64 (j : Int) ∧ OwnI wq (w.heap.size + 1) v6 xs ∧ xs.Pairwise (· ≤ ·) ∧ (∀ x ∈ xs, 1 ≤ x ∧ x ≤ 1000000000) ∧ xs.length ≤ 24 + j ∧ RR = rounds repP (300 - j) xs ∧ Below (w.heap.size + 1) (w.alloc (.cells #[.int .i64 (k), .int .i64 (d)] 27)) wq) (fun _ v8 _ => 300 - (intOf v8).toNat)
      case atStart => exact ⟨0, List.replicate k d, by omega, rfl, ho, List.pairwise_replicate.2 (Or.inr (Int.le_refl _)), fun x hx => by rw [List.eq_of_mem_replicate hx]; omega, by simp; omega, HR0.out, hbr⟩
      case round =>
        clear ho hbr hzr HR0 TI
        obtain ⟨j, xs, hj, rfl, ho, hsort, hin, hlen, hR, hbq⟩ := hrel
        obtain ⟨A, c, rfl, hr⟩ := ho.form
        have hcp := ho.cap_
        have hxl : xs.length ≤ 1048576 := by omega
        have Hxs := Lib.hid hr
        have X64 := Lib.hid (In64.of_mem fun x hx => by have := hin x hx; omega : In64 xs)
        have hzr := hbq.size
        (try simp only [World.size_alloc] at hzr)
        cases ht : tw xs with
        | none =>
          have E := Lib.hid (twI_none ht)
          have HE : Hid (RR = some xs) := Lib.hid (by rw [hR]; exact rounds_done ht)
          have HS : Hid (srt xs = xs) := Lib.hid (srt_of (List.Perm.refl _) hsort)
          clear ho hr hsort hin hR
          go_wp2_with fail
          refine (meTwice_any _ _ _ xs (Hxs.out.below (by (repeat' (first | (with_reducible exact Below.refl _ _) | (with_reducible assumption) | (with_reducible refine Below.drew ?_) | (with_reducible refine belowDrewN ?_ _) | (with_reducible refine Below.alloc ?_ ?_ _) | (with_reducible refine Below.setCell ?_ ?_ _) | (with_reducible refine belowStep (by assumption) ?_ ?_) | (with_reducible exact Below.size (by assumption)) | go_size)))) hxl).mono ?_; rintro e w30 ⟨rfl, k30, rfl⟩
          rw [E.out]
          cases hb : expB xs with
          | true =>
            have HX : Hid (exO RR = some xs) := Lib.hid (by rw [HE.out, exO_yes (by rw [HS.out]; exact hb), HS.out])
            go_wp2_with fail
            refine (unList_yes _ _ _ xs (Hxs.out.below (by (repeat' (first | (with_reducible exact Below.refl _ _) | (with_reducible assumption) | (with_reducible refine Below.drew ?_) | (with_reducible refine belowDrewN ?_ _) | (with_reducible refine Below.alloc ?_ ?_ _) | (with_reducible refine Below.setCell ?_ ?_ _) | (with_reducible refine belowStep (by assumption) ?_ ?_) | (with_reducible exact Below.size (by assumption)) | go_size)))) hxl hb).mono ?_; rintro e w31 ⟨rfl, hb31⟩; have hz31 := hb31.size; (try simp only [World.heap_drewN] at hz31)
            go_wp2
            go_ret2
            rw [HX.out]
            exact ⟨_, _, rfl, Hxs.out.below (by (repeat' (first | (with_reducible exact Below.refl _ _) | (with_reducible assumption) | (with_reducible refine Below.drew ?_) | (with_reducible refine belowDrewN ?_ _) | (with_reducible refine Below.alloc ?_ ?_ _) | (with_reducible refine Below.setCell ?_ ?_ _) | (with_reducible refine belowStep (by assumption) ?_ ?_) | (with_reducible exact Below.size (by assumption)) | go_size))), by (repeat' (first | (with_reducible exact Below.refl _ _) | (with_reducible assumption) | (with_reducible refine Below.drew ?_) | (with_reducible refine belowDrewN ?_ _) | (with_reducible refine Below.alloc ?_ ?_ _) | (with_reducible refine Below.setCell ?_ ?_ _) | (with_reducible refine belowStep (by assumption) ?_ ?_) | (with_reducible exact Below.size (by assumption)) | go_size))⟩
          | false =>
            have HX : Hid (exO RR = none) := Lib.hid (by rw [HE.out, exO_no (by rw [HS.out]; exact hb)])
            go_wp2_with fail
            refine (unList_no _ _ _ xs (Hxs.out.below (by (repeat' (first | (with_reducible exact Below.refl _ _) | (with_reducible assumption) | (with_reducible refine Below.drew ?_) | (with_reducible refine belowDrewN ?_ _) | (with_reducible refine Below.alloc ?_ ?_ _) | (with_reducible refine Below.setCell ?_ ?_ _) | (with_reducible refine belowStep (by assumption) ?_ ?_) | (with_reducible exact Below.size (by assumption)) | go_size)))) hxl hb).mono ?_; rintro e w31 ⟨rfl, hb31⟩; have hz31 := hb31.size; (try simp only [World.heap_drewN] at hz31)
            go_wp2
            go_ret2
            rw [HX.out]
            exact ⟨none, 0, rfl, Reads.nil, by (repeat' (first | (with_reducible exact Below.refl _ _) | (with_reducible assumption) | (with_reducible refine Below.drew ?_) | (with_reducible refine belowDrewN ?_ _) | (with_reducible refine Below.alloc ?_ ?_ _) | (with_reducible refine Below.setCell ?_ ?_ _) | (with_reducible refine belowStep (by assumption) ?_ ?_) | (with_reducible exact Below.size (by assumption)) | go_size))⟩
        | some i =>
          have E := Lib.hid (twI_some ht)
          obtain ⟨x, hx, hx2⟩ := tw_at ht
          have hil : i + 1 < xs.length := (List.getElem?_eq_some_iff.1 hx2).1
          have hx1 := hin x (List.mem_of_getElem? hx)
          by_cases hj3 : j = 300
          · subst hj3
            have HX : Hid (exO RR = none) := Lib.hid (by rw [hR, rounds_out ht]; rfl)
            clear ho hr hsort hin hR
            go_wp2_with fail
            refine (meTwice_any _ _ _ xs (Hxs.out.below (by (repeat' (first | (with_reducible exact Below.refl _ _) | (with_reducible assumption) | (with_reducible refine Below.drew ?_) | (with_reducible refine belowDrewN ?_ _) | (with_reducible refine Below.alloc ?_ ?_ _) | (with_reducible refine Below.setCell ?_ ?_ _) | (with_reducible refine belowStep (by assumption) ?_ ?_) | (with_reducible exact Below.size (by assumption)) | go_size)))) hxl).mono ?_; rintro e w30 ⟨rfl, k30, rfl⟩
            rw [E.out]
            go_wp2
            go_ret2
            rw [HX.out]
            exact ⟨none, 0, rfl, Reads.nil, by (repeat' (first | (with_reducible exact Below.refl _ _) | (with_reducible assumption) | (with_reducible refine Below.drew ?_) | (with_reducible refine belowDrewN ?_ _) | (with_reducible refine Below.alloc ?_ ?_ _) | (with_reducible refine Below.setCell ?_ ?_ _) | (with_reducible refine belowStep (by assumption) ?_ ?_) | (with_reducible exact Below.size (by assumption)) | go_size))⟩
          · obtain ⟨b0, o0, x0, rfl, hb0, hx0, hcell0⟩ := Hxs.out.at_ (show i < xs.length by omega)
            obtain rfl : x0 = x := by rw [hx] at hx0; injection hx0 with h; exact h.symm
            have hsr : (xs.take i ++ xs.drop (i + 2)).Pairwise (· ≤ ·) := cut_sorted hsort i (i + 2) (by omega)
            obtain ⟨zs, hzs⟩ : ∃ zs, zs = roundL repP xs i := ⟨_, rfl⟩
            obtain ⟨rs, hrs⟩ : ∃ rs, rs = xs.take i ++ xs.drop (i + 2) := ⟨_, rfl⟩
            rw [← hrs] at hsr
            have HE0 := Lib.hid fun (he : x0 % 2 = 0) => (by rw [hzs, putS_srt hsr, hrs]; unfold roundL repP; rw [hx, Option.getD_some, if_pos he] : zs = putS rs (x0 / 2))
            have HO0 := Lib.hid fun (he : ¬ x0 % 2 = 0) => (by rw [hzs, putS_two hsr, hrs]; unfold roundL repP; rw [hx, Option.getD_some, if_neg he] : zs = putS (putS rs ((x0 + 1) / 2)) (x0 * (x0 + 1) / 2))
            have hzsort : zs.Pairwise (· ≤ ·) := by rw [hzs]; exact round_sorted _ _ _
            have HI := Lib.hid fun (h : small zs = true) => by
              have h1 := round_in repP_in (fun y hy => (hin y hy).1) ht (by rw [← hzs]; exact h)
              rw [← hzs] at h1
              exact h1
            have HY := Lib.hid fun (h : small zs = true) => by
              have h1 := rounds_on (g := repP) (k := 300 - (j + 1)) ht (by rw [← hzs]; exact h)
              rw [show 300 - (j + 1) + 1 = 300 - j by omega, ← hzs] at h1
              exact hR.trans h1
            have HN := Lib.hid fun (h : small zs = false) => by
              have h1 := rounds_big (g := repP) (k := 300 - (j + 1)) ht (by rw [← hzs]; exact h)
              rw [show 300 - (j + 1) + 1 = 300 - j by omega] at h1
              exact hR.trans h1
            obtain ⟨r1, hr1⟩ : ∃ r1, r1 = xs.take i ++ xs.drop (i + 1) := ⟨_, rfl⟩
            have Hr1 := Lib.hid hr1
            have Hcut : Hid (rs = r1.take i ++ r1.drop (i + 1)) := Lib.hid (by rw [hrs, hr1]; exact (cut2 (by omega)).symm)
            have la1 : r1.length + 1 ≤ xs.length := by rw [hr1, List.length_append, List.length_take, List.length_drop]; omega
            have la2 : xs.length ≤ r1.length + 1 := by rw [hr1, List.length_append, List.length_take, List.length_drop]; omega
            have lb1 : rs.length + 2 ≤ xs.length := by rw [hrs, List.length_append, List.length_take, List.length_drop]; omega
            have lb2 : xs.length ≤ rs.length + 2 := by rw [hrs, List.length_append, List.length_take, List.length_drop]; omega
            have HSo := Lib.hid hzsort
            have p1 : x0 * (x0 + 1) ≤ 1000000000 * 1000000001 := Int.mul_le_mul hx1.2 (by omega) (by omega) (by omega)
            have p0 : 0 ≤ x0 * (x0 + 1) := Int.mul_nonneg (by omega) (by omega)
            have m1 : IntKind.i64.wrap (x0 + 1) = x0 + 1 := IntWalk.i64_in _ (by omega)
            have m2 : IntKind.i64.wrap (x0 * (x0 + 1)) = x0 * (x0 + 1) := IntWalk.i64_in _ (by omega)
            have m3 : IntKind.i64.wrap ((x0 + 1).tdiv 2) = (x0 + 1) / 2 := by rw [Int.tdiv_eq_ediv_of_nonneg (by omega)]; exact IntWalk.i64_in _ (by omega)
            have m4 : IntKind.i64.wrap ((x0 * (x0 + 1)).tdiv 2) = x0 * (x0 + 1) / 2 := by rw [Int.tdiv_eq_ediv_of_nonneg p0]; exact IntWalk.i64_in _ (by omega)
            have m5 : IntKind.i64.wrap (x0.tdiv 2) = x0 / 2 := by rw [Int.tdiv_eq_ediv_of_nonneg (by omega)]; exact IntWalk.i64_in _ (by omega)
            have m6 : x0.tmod 2 = x0 % 2 := Int.tmod_eq_emod_of_nonneg (by omega)
            clear ho hr hx hx2 hx0 hsort hin hR hsr hzs hzsort hrs hr1 ht
            have s1 : IntKind.i64.wrap ((i : Int) + 1) = (i : Int) + 1 := IntWalk.i64_in _ (by omega)
            have s2 : (0 : Int) ≤ (i : Int) + 1 := by omega
            have s3 : ((i : Int) + 1).toNat = i + 1 := by omega
            have q1 : (i : Int) ≤ (c : Int) := by omega
            have q2 : (i : Int) + 1 ≤ (xs.length : Int) := by omega
            have q3 : (xs.length : Int) ≤ (c : Int) := by omega
            have q4 : (i : Int) ≤ (i : Int) + 1 := by omega
            have q5 : ¬ c = i + 1 := by omega
            go_wp2_with fail
            refine (meTwice_any _ _ _ xs (Hxs.out.below (by (repeat' (first | (with_reducible exact Below.refl _ _) | (with_reducible assumption) | (with_reducible refine Below.drew ?_) | (with_reducible refine belowDrewN ?_ _) | (with_reducible refine Below.alloc ?_ ?_ _) | (with_reducible refine Below.setCell ?_ ?_ _) | (with_reducible refine belowStep (by assumption) ?_ ?_) | (with_reducible exact Below.size (by assumption)) | go_size)))) hxl).mono ?_; rintro e w30 ⟨rfl, k30, rfl⟩
            rw [E.out]
            go_wp2_with fail
            refine (meTwice_any _ _ _ xs (Hxs.out.below (by (repeat' (first | (with_reducible exact Below.refl _ _) | (with_reducible assumption) | (with_reducible refine Below.drew ?_) | (with_reducible refine belowDrewN ?_ _) | (with_reducible refine Below.alloc ?_ ?_ _) | (with_reducible refine Below.setCell ?_ ?_ _) | (with_reducible refine belowStep (by assumption) ?_ ?_) | (with_reducible exact Below.size (by assumption)) | go_size)))) hxl).mono ?_; rintro e w31 ⟨rfl, k31, rfl⟩
            rw [E.out]
            go_wp2
            go_region_law (first
              | (go_simp; go_at_call 84; refine (l1Own_n _ _ _ _ (xs.take i) (by rw [List.length_take]; omega) ((Hxs.out.below (by (repeat' (first | (with_reducible exact Below.refl _ _) | (with_reducible assumption) | (with_reducible refine Below.drew ?_) | (with_reducible refine belowDrewN ?_ _) | (with_reducible refine Below.alloc ?_ ?_ _) | (with_reducible refine Below.setCell ?_ ?_ _) | (with_reducible refine belowStep (by assumption) ?_ ?_) | (with_reducible exact Below.size (by assumption)) | go_size)))).cutTo i) (by omega)).mono ?_; rintro e w1 ⟨v1, rfl, ho1, hb1⟩; have hz1 := hb1.size; (try simp only [World.heap_drewN] at hz1); go_wp2_with fail)
              | (refine step_app _ (o := ⟨some 46, _, _, _, _, _⟩) (ys := xs.drop (i + 1)) rfl _ _ rfl rfl (ho1) ((xs.length - (i + 1))) ((c - (i + 1))) (by first | (simp; done) | (simp; omega)) rfl (Reads.cutS (Hxs.out.below (by (repeat' (first | (with_reducible exact Below.refl _ _) | (with_reducible assumption) | (with_reducible refine Below.drew ?_) | (with_reducible refine belowDrewN ?_ _) | (with_reducible refine Below.alloc ?_ ?_ _) | (with_reducible refine Below.setCell ?_ ?_ _) | (with_reducible refine belowStep (by assumption) ?_ ?_) | (with_reducible exact Below.size (by assumption)) | go_size))))) (by (try simp only [List.length_take, List.length_drop]); omega) (by first | exact Nat.le_refl _ | ((try simp only [World.heap_drewN]); omega)) ?_; intro v3 w3 ho3 hb3 hg3 ht3; clear hg3 ht3; have hz3 := hb3.size; (try simp only [World.size_alloc, World.size_setCell, World.size_drew, World.heap_drewN] at hz3)))
            all_goals
              have hr0 : OwnI w3 (w.heap.size + 1) v3 r1 := by rw [Hr1.out]; exact ho3.mono (by (first | (go_size; done) | ((try simp only [World.size_alloc, World.size_setCell, World.size_drew, World.heap_drewN]); omega)))
              obtain ⟨A3, c3, rfl, hr3⟩ := hr0.form
              have hc3 := hr0.cap_
              obtain ⟨b3, o3, y3, rfl, ay3, by3, cy3⟩ := hr3.at_ (k := i) (by omega)
              clear ay3 by3 cy3
              have Hr3 := Lib.hid hr3
              have hbw3 : Below (w.heap.size + 1) (w.alloc (.cells #[.int .i64 (k), .int .i64 (d)] 27)) w3 := by (repeat' (first | (with_reducible exact Below.refl _ _) | (with_reducible assumption) | (with_reducible refine Below.drew ?_) | (with_reducible refine belowDrewN ?_ _) | (with_reducible refine Below.alloc ?_ ?_ _) | (with_reducible refine Below.setCell ?_ ?_ _) | (with_reducible refine belowStep (by assumption) ?_ ?_) | (with_reducible exact Below.size (by assumption)) | go_size))
              clear hr0 hr3 ho1 ho3 hb1 hb3 q1 q2 q3 q5
              have t1 : (i : Int) ≤ (c3 : Int) := by omega
              have t2 : (i : Int) + 1 ≤ (r1.length : Int) := by omega
              have t3 : (r1.length : Int) ≤ (c3 : Int) := by omega
              by_cases t5 : c3 = i + 1
              · subst t5
                have e1 : r1.length = i + 1 := by omega
                rw [e1]
                clear e1
                go_wp2
                go_region_law (first
                  | (go_simp; go_at_call 84; refine (l1Own_n _ _ _ _ (r1.take i) (by rw [List.length_take]; omega) ((Hr3.out.below (by (repeat' (first | (with_reducible exact Below.refl _ _) | (with_reducible assumption) | (with_reducible refine Below.drew ?_) | (with_reducible refine belowDrewN ?_ _) | (with_reducible refine Below.alloc ?_ ?_ _) | (with_reducible refine Below.setCell ?_ ?_ _) | (with_reducible refine belowStep (by assumption) ?_ ?_) | (with_reducible exact Below.size (by assumption)) | go_size)))).cutTo i) (by omega)).mono ?_; rintro e w11 ⟨v11, rfl, ho11, hb11⟩; have hz11 := hb11.size; (try simp only [World.size_drew] at hz11); go_wp2_with fail)
                  | (refine step_app _ (o := ⟨some 62, _, _, _, _, _⟩) (ys := []) rfl _ _ rfl rfl (ho11) (0) (0) (by first | (simp; done) | (simp; omega)) rfl (Reads.nil) (by (try simp only [List.length_take, List.length_nil]); omega) (by first | exact Nat.le_refl _ | ((try simp only [World.size_drew]); omega)) ?_; intro v13 w13 ho13 hb13 hg13 ht13; clear hg13 ht13; have hz13 := hb13.size; (try simp only [World.size_alloc, World.size_setCell, World.size_drew, World.heap_drewN] at hz13)))
                all_goals
                  have hr0 : OwnI w13 (w.heap.size + 1) v13 rs := by rw [Hcut.out, List.drop_eq_nil_of_le (by omega)]; simpa using ho13.mono (by (first | (go_size; done) | ((try simp only [World.size_alloc, World.size_setCell, World.size_drew, World.heap_drewN]); omega)))
                  obtain ⟨A13, c13, rfl, hr13⟩ := hr0.form
                  have hc13 := hr0.cap_
                  have Hr13 := Lib.hid hr13
                  have hbw13 : Below (w.heap.size + 1) (w.alloc (.cells #[.int .i64 (k), .int .i64 (d)] 27)) w13 := by (repeat' (first | (with_reducible exact Below.refl _ _) | (with_reducible assumption) | (with_reducible refine Below.drew ?_) | (with_reducible refine belowDrewN ?_ _) | (with_reducible refine Below.alloc ?_ ?_ _) | (with_reducible refine Below.setCell ?_ ?_ _) | (with_reducible refine belowStep (by assumption) ?_ ?_) | (with_reducible exact Below.size (by assumption)) | go_size))
                  clear hr0 hr13 ho11 ho13 hb11 hb13 t1 t2 t3
                  by_cases he : x0 % 2 = 0
                  · have HZ := Lib.hid (HE0.out he)
                    have he1 : (x0 % 2 == 0) = true := by simp [he]
                    go_wp2_with fail
                    refine (mePut_any _ (x0 / 2) _ _ rs Hr13.out (by omega) hc13).mono ?_; rintro e w5 ⟨v5, rfl, ho5, hb5⟩; have hz5 := hb5.size; (try simp only [World.size_alloc, World.size_setCell, World.size_drew, World.heap_drewN] at hz5)
                    rw [← HZ.out] at ho5
                    have lz : Hid (zs.length = rs.length + 1) := Lib.hid (by rw [HZ.out, putS_len])
                    have hzl1 : zs.length ≤ rs.length + 1 := by have := lz.out; omega
                    have hzl2 : rs.length + 1 ≤ zs.length := by have := lz.out; omega
                    clear HE0 HO0 he
                    obtain ⟨A5, c5, rfl, hr5⟩ := ho5.form
                    obtain ⟨m, hm⟩ : ∃ m, m = rs.length := ⟨_, rfl⟩
                    obtain ⟨b5, o5, z, rfl, hb5', hz, hcell5⟩ := hr5.at_ (k := m) (by omega)
                    have hw1 : IntKind.i64.wrap (((zs.length : Nat) : Int) - 1) = ((m : Nat) : Int) := by rw [show ((zs.length : Nat) : Int) - 1 = ((m : Nat) : Int) by omega]; exact IntWalk.i64_in _ (by omega)
                    have hkz : m < zs.length := by omega
                    have hkz2 : (m : Int) < (zs.length : Int) := by omega
                    have Ho5 := Lib.hid (ho5.mono (show w.heap.size + 1 ≤ w13.heap.size by (first | (go_size; done) | ((try simp only [World.size_alloc, World.size_setCell, World.size_drew, World.heap_drewN]); omega))))
                    have hsl := small_last HSo.out (k := m) (by omega) hz
                    clear ho5 hr5 hz hm
                    by_cases hzz : z ≤ 1000000000
                    · have hsm : small zs = true := by rw [hsl]; simp [hzz]
                      have hzi := Lib.hid (HI.out hsm)
                      have hzr2 := Lib.hid (HY.out hsm)
                      clear HI HY HN HZ Hr1 Hcut
                      have hzd : decide (1000000000 < z) = false := decide_eq_false (by omega)
                      clear hsl hsm
                      set_option maxRecDepth 8000 in go_wp2
                      go_roundw
                      case rel => exact ⟨j + 1, zs, by omega, by go_num, Ho5.out, HSo.out, hzi.out, by omega, hzr2.out, by (repeat' (first | (with_reducible exact Below.refl _ _) | (with_reducible assumption) | (with_reducible refine Below.drew ?_) | (with_reducible refine belowDrewN ?_ _) | (with_reducible refine Below.alloc ?_ ?_ _) | (with_reducible refine Below.setCell ?_ ?_ _) | (with_reducible refine belowStep (by assumption) ?_ ?_) | (with_reducible exact Below.size (by assumption)) | go_size))⟩
                      case measure =>
                        have q7 : (j : Int) < 300 := by omega
                        exact (Nat.sub_lt_sub_left (show ((j : Int)).toNat < 300 by rw [Int.toNat_natCast]; omega) (show ((j : Int)).toNat < ((j : Int) + 1).toNat by omega))
                    · have hsm : small zs = false := by rw [hsl]; simp [hzz]
                      have HX : Hid (exO RR = none) := Lib.hid (by rw [HN.out hsm]; rfl)
                      have hzd : decide (1000000000 < z) = true := decide_eq_true (by omega)
                      clear hsl hsm
                      go_wp2
                      go_ret2
                      rw [HX.out]
                      exact ⟨none, 0, rfl, Reads.nil, by (repeat' (first | (with_reducible exact Below.refl _ _) | (with_reducible assumption) | (with_reducible refine Below.drew ?_) | (with_reducible refine belowDrewN ?_ _) | (with_reducible refine Below.alloc ?_ ?_ _) | (with_reducible refine Below.setCell ?_ ?_ _) | (with_reducible refine belowStep (by assumption) ?_ ?_) | (with_reducible exact Below.size (by assumption)) | go_size))⟩
                  · have HZ := Lib.hid (HO0.out he)
                    have he1 : (x0 % 2 == 0) = false := by simp [he]
                    have HM4 := Lib.hid fun (w : World) (A : Option Addr) (c : Nat) (ps : List Int) (h : ps = putS rs ((x0 + 1) / 2)) (hr : Reads w A ps) (hc : ps.length ≤ c) => mePut_any w (x0 * (x0 + 1) / 2) A c ps hr (by rw [h, putS_len]; omega) hc
                    go_wp2_with fail
                    refine (mePut_any _ ((x0 + 1) / 2) _ _ rs Hr13.out (by omega) hc13).mono ?_; rintro e w4 ⟨v4, rfl, ho4, hb4⟩; have hz4 := hb4.size; (try simp only [World.size_alloc, World.size_setCell, World.size_drew, World.heap_drewN] at hz4)
                    obtain ⟨A4, c4, rfl, hr4⟩ := ho4.form
                    have hc4 := ho4.cap_
                    clear ho4
                    obtain ⟨ps, hps⟩ : ∃ ps, ps = putS rs ((x0 + 1) / 2) := ⟨_, rfl⟩
                    have M := Lib.hid (HM4.out w4 A4 c4 ps hps (by rw [hps]; exact hr4) (by rw [hps]; exact hc4))
                    have hl4o : Hid ((putS rs ((x0 + 1) / 2)).length = ps.length) := Lib.hid (by rw [hps])
                    have HP := Lib.hid hps
                    have hpl : Hid (ps.length = rs.length + 1) := Lib.hid (by rw [hps, putS_len])
                    clear hps HM4 hc4
                    go_wp2_with fail
                    refine (castC (b := #[.slice A4 ps.length c4, .int .i64 (x0 * (x0 + 1) / 2)]) (by first | rfl | rw [hl4o.out]) (w2 := w4) rfl M.out).mono ?_
                    rintro e w5 ⟨v5, rfl, ho5, hb5⟩
                    have hz5 := hb5.size
                    rw [HP.out, ← HZ.out] at ho5
                    have lz : Hid (zs.length = rs.length + 2) := Lib.hid (by rw [HZ.out, putS_len, putS_len])
                    have hzl1 : zs.length ≤ rs.length + 2 := by have := lz.out; omega
                    have hzl2 : rs.length + 2 ≤ zs.length := by have := lz.out; omega
                    clear HE0 HO0 he
                    obtain ⟨A5, c5, rfl, hr5⟩ := ho5.form
                    obtain ⟨m, hm⟩ : ∃ m, m = rs.length + 1 := ⟨_, rfl⟩
                    obtain ⟨b5, o5, z, rfl, hb5', hz, hcell5⟩ := hr5.at_ (k := m) (by omega)
                    have hw1 : IntKind.i64.wrap (((zs.length : Nat) : Int) - 1) = ((m : Nat) : Int) := by rw [show ((zs.length : Nat) : Int) - 1 = ((m : Nat) : Int) by omega]; exact IntWalk.i64_in _ (by omega)
                    have hkz : m < zs.length := by omega
                    have hkz2 : (m : Int) < (zs.length : Int) := by omega
                    have Ho5 := Lib.hid (ho5.mono (show w.heap.size + 1 ≤ w4.heap.size by (first | (go_size; done) | ((try simp only [World.size_alloc, World.size_setCell, World.size_drew, World.heap_drewN]); omega))))
                    have hsl := small_last HSo.out (k := m) (by omega) hz
                    clear ho5 hr5 hz hm
                    by_cases hzz : z ≤ 1000000000
                    · have hsm : small zs = true := by rw [hsl]; simp [hzz]
                      have hzi := Lib.hid (HI.out hsm)
                      have hzr2 := Lib.hid (HY.out hsm)
                      clear HI HY HN HZ Hr1 Hcut
                      have hzd : decide (1000000000 < z) = false := decide_eq_false (by omega)
                      clear hsl hsm
                      set_option maxRecDepth 8000 in go_wp2
                      go_roundw
                      case rel => exact ⟨j + 1, zs, by omega, by go_num, Ho5.out, HSo.out, hzi.out, by omega, hzr2.out, by (repeat' (first | (with_reducible exact Below.refl _ _) | (with_reducible assumption) | (with_reducible refine Below.drew ?_) | (with_reducible refine belowDrewN ?_ _) | (with_reducible refine Below.alloc ?_ ?_ _) | (with_reducible refine Below.setCell ?_ ?_ _) | (with_reducible refine belowStep (by assumption) ?_ ?_) | (with_reducible exact Below.size (by assumption)) | go_size))⟩
                      case measure =>
                        have q7 : (j : Int) < 300 := by omega
                        exact (Nat.sub_lt_sub_left (show ((j : Int)).toNat < 300 by rw [Int.toNat_natCast]; omega) (show ((j : Int)).toNat < ((j : Int) + 1).toNat by omega))
                    · have hsm : small zs = false := by rw [hsl]; simp [hzz]
                      have HX : Hid (exO RR = none) := Lib.hid (by rw [HN.out hsm]; rfl)
                      have hzd : decide (1000000000 < z) = true := decide_eq_true (by omega)
                      clear hsl hsm
                      go_wp2
                      go_ret2
                      rw [HX.out]
                      exact ⟨none, 0, rfl, Reads.nil, by (repeat' (first | (with_reducible exact Below.refl _ _) | (with_reducible assumption) | (with_reducible refine Below.drew ?_) | (with_reducible refine belowDrewN ?_ _) | (with_reducible refine Below.alloc ?_ ?_ _) | (with_reducible refine Below.setCell ?_ ?_ _) | (with_reducible refine belowStep (by assumption) ?_ ?_) | (with_reducible exact Below.size (by assumption)) | go_size))⟩
              · go_wp2
                go_region_law (first
                  | (go_simp; go_at_call 84; refine (l1Own_n _ _ _ _ (r1.take i) (by rw [List.length_take]; omega) ((Hr3.out.below (by (repeat' (first | (with_reducible exact Below.refl _ _) | (with_reducible assumption) | (with_reducible refine Below.drew ?_) | (with_reducible refine belowDrewN ?_ _) | (with_reducible refine Below.alloc ?_ ?_ _) | (with_reducible refine Below.setCell ?_ ?_ _) | (with_reducible refine belowStep (by assumption) ?_ ?_) | (with_reducible exact Below.size (by assumption)) | go_size)))).cutTo i) (by omega)).mono ?_; rintro e w11 ⟨v11, rfl, ho11, hb11⟩; have hz11 := hb11.size; (try simp only [World.size_drew] at hz11); go_wp2_with fail)
                  | (refine step_app _ (o := ⟨some 62, _, _, _, _, _⟩) (ys := r1.drop (i + 1)) rfl _ _ rfl rfl (ho11) ((r1.length - (i + 1))) ((c3 - (i + 1))) (by first | (simp; done) | (simp; omega)) rfl (Reads.cutS (Hr3.out.below (by (repeat' (first | (with_reducible exact Below.refl _ _) | (with_reducible assumption) | (with_reducible refine Below.drew ?_) | (with_reducible refine belowDrewN ?_ _) | (with_reducible refine Below.alloc ?_ ?_ _) | (with_reducible refine Below.setCell ?_ ?_ _) | (with_reducible refine belowStep (by assumption) ?_ ?_) | (with_reducible exact Below.size (by assumption)) | go_size))))) (by (try simp only [List.length_take, List.length_drop]); omega) (by first | exact Nat.le_refl _ | ((try simp only [World.size_drew]); omega)) ?_; intro v13 w13 ho13 hb13 hg13 ht13; clear hg13 ht13; have hz13 := hb13.size; (try simp only [World.size_alloc, World.size_setCell, World.size_drew, World.heap_drewN] at hz13)))
                all_goals
                  have hr0 : OwnI w13 (w.heap.size + 1) v13 rs := by rw [Hcut.out]; exact ho13.mono (by (first | (go_size; done) | ((try simp only [World.size_alloc, World.size_setCell, World.size_drew, World.heap_drewN]); omega)))
                  obtain ⟨A13, c13, rfl, hr13⟩ := hr0.form
                  have hc13 := hr0.cap_
                  have Hr13 := Lib.hid hr13
                  have hbw13 : Below (w.heap.size + 1) (w.alloc (.cells #[.int .i64 (k), .int .i64 (d)] 27)) w13 := by (repeat' (first | (with_reducible exact Below.refl _ _) | (with_reducible assumption) | (with_reducible refine Below.drew ?_) | (with_reducible refine belowDrewN ?_ _) | (with_reducible refine Below.alloc ?_ ?_ _) | (with_reducible refine Below.setCell ?_ ?_ _) | (with_reducible refine belowStep (by assumption) ?_ ?_) | (with_reducible exact Below.size (by assumption)) | go_size))
                  clear hr0 hr13 ho11 ho13 hb11 hb13 t1 t2 t3
                  by_cases he : x0 % 2 = 0
                  · have HZ := Lib.hid (HE0.out he)
                    have he1 : (x0 % 2 == 0) = true := by simp [he]
                    go_wp2_with fail
                    refine (mePut_any _ (x0 / 2) _ _ rs Hr13.out (by omega) hc13).mono ?_; rintro e w5 ⟨v5, rfl, ho5, hb5⟩; have hz5 := hb5.size; (try simp only [World.size_alloc, World.size_setCell, World.size_drew, World.heap_drewN] at hz5)
                    rw [← HZ.out] at ho5
                    have lz : Hid (zs.length = rs.length + 1) := Lib.hid (by rw [HZ.out, putS_len])
                    have hzl1 : zs.length ≤ rs.length + 1 := by have := lz.out; omega
                    have hzl2 : rs.length + 1 ≤ zs.length := by have := lz.out; omega
                    clear HE0 HO0 he
                    obtain ⟨A5, c5, rfl, hr5⟩ := ho5.form
                    obtain ⟨m, hm⟩ : ∃ m, m = rs.length := ⟨_, rfl⟩
                    obtain ⟨b5, o5, z, rfl, hb5', hz, hcell5⟩ := hr5.at_ (k := m) (by omega)
                    have hw1 : IntKind.i64.wrap (((zs.length : Nat) : Int) - 1) = ((m : Nat) : Int) := by rw [show ((zs.length : Nat) : Int) - 1 = ((m : Nat) : Int) by omega]; exact IntWalk.i64_in _ (by omega)
                    have hkz : m < zs.length := by omega
                    have hkz2 : (m : Int) < (zs.length : Int) := by omega
                    have Ho5 := Lib.hid (ho5.mono (show w.heap.size + 1 ≤ w13.heap.size by (first | (go_size; done) | ((try simp only [World.size_alloc, World.size_setCell, World.size_drew, World.heap_drewN]); omega))))
                    have hsl := small_last HSo.out (k := m) (by omega) hz
                    clear ho5 hr5 hz hm
                    by_cases hzz : z ≤ 1000000000
                    · have hsm : small zs = true := by rw [hsl]; simp [hzz]
                      have hzi := Lib.hid (HI.out hsm)
                      have hzr2 := Lib.hid (HY.out hsm)
                      clear HI HY HN HZ Hr1 Hcut
                      have hzd : decide (1000000000 < z) = false := decide_eq_false (by omega)
                      clear hsl hsm
                      set_option maxRecDepth 8000 in go_wp2
                      go_roundw
                      case rel => exact ⟨j + 1, zs, by omega, by go_num, Ho5.out, HSo.out, hzi.out, by omega, hzr2.out, by (repeat' (first | (with_reducible exact Below.refl _ _) | (with_reducible assumption) | (with_reducible refine Below.drew ?_) | (with_reducible refine belowDrewN ?_ _) | (with_reducible refine Below.alloc ?_ ?_ _) | (with_reducible refine Below.setCell ?_ ?_ _) | (with_reducible refine belowStep (by assumption) ?_ ?_) | (with_reducible exact Below.size (by assumption)) | go_size))⟩
                      case measure =>
                        have q7 : (j : Int) < 300 := by omega
                        exact (Nat.sub_lt_sub_left (show ((j : Int)).toNat < 300 by rw [Int.toNat_natCast]; omega) (show ((j : Int)).toNat < ((j : Int) + 1).toNat by omega))
                    · have hsm : small zs = false := by rw [hsl]; simp [hzz]
                      have HX : Hid (exO RR = none) := Lib.hid (by rw [HN.out hsm]; rfl)
                      have hzd : decide (1000000000 < z) = true := decide_eq_true (by omega)
                      clear hsl hsm
                      go_wp2
                      go_ret2
                      rw [HX.out]
                      exact ⟨none, 0, rfl, Reads.nil, by (repeat' (first | (with_reducible exact Below.refl _ _) | (with_reducible assumption) | (with_reducible refine Below.drew ?_) | (with_reducible refine belowDrewN ?_ _) | (with_reducible refine Below.alloc ?_ ?_ _) | (with_reducible refine Below.setCell ?_ ?_ _) | (with_reducible refine belowStep (by assumption) ?_ ?_) | (with_reducible exact Below.size (by assumption)) | go_size))⟩
                  · have HZ := Lib.hid (HO0.out he)
                    have he1 : (x0 % 2 == 0) = false := by simp [he]
                    have HM4 := Lib.hid fun (w : World) (A : Option Addr) (c : Nat) (ps : List Int) (h : ps = putS rs ((x0 + 1) / 2)) (hr : Reads w A ps) (hc : ps.length ≤ c) => mePut_any w (x0 * (x0 + 1) / 2) A c ps hr (by rw [h, putS_len]; omega) hc
                    go_wp2_with fail
                    refine (mePut_any _ ((x0 + 1) / 2) _ _ rs Hr13.out (by omega) hc13).mono ?_; rintro e w4 ⟨v4, rfl, ho4, hb4⟩; have hz4 := hb4.size; (try simp only [World.size_alloc, World.size_setCell, World.size_drew, World.heap_drewN] at hz4)
                    obtain ⟨A4, c4, rfl, hr4⟩ := ho4.form
                    have hc4 := ho4.cap_
                    clear ho4
                    obtain ⟨ps, hps⟩ : ∃ ps, ps = putS rs ((x0 + 1) / 2) := ⟨_, rfl⟩
                    have M := Lib.hid (HM4.out w4 A4 c4 ps hps (by rw [hps]; exact hr4) (by rw [hps]; exact hc4))
                    have hl4o : Hid ((putS rs ((x0 + 1) / 2)).length = ps.length) := Lib.hid (by rw [hps])
                    have HP := Lib.hid hps
                    have hpl : Hid (ps.length = rs.length + 1) := Lib.hid (by rw [hps, putS_len])
                    clear hps HM4 hc4
                    go_wp2_with fail
                    refine (castC (b := #[.slice A4 ps.length c4, .int .i64 (x0 * (x0 + 1) / 2)]) (by first | rfl | rw [hl4o.out]) (w2 := w4) rfl M.out).mono ?_
                    rintro e w5 ⟨v5, rfl, ho5, hb5⟩
                    have hz5 := hb5.size
                    rw [HP.out, ← HZ.out] at ho5
                    have lz : Hid (zs.length = rs.length + 2) := Lib.hid (by rw [HZ.out, putS_len, putS_len])
                    have hzl1 : zs.length ≤ rs.length + 2 := by have := lz.out; omega
                    have hzl2 : rs.length + 2 ≤ zs.length := by have := lz.out; omega
                    clear HE0 HO0 he
                    obtain ⟨A5, c5, rfl, hr5⟩ := ho5.form
                    obtain ⟨m, hm⟩ : ∃ m, m = rs.length + 1 := ⟨_, rfl⟩
                    obtain ⟨b5, o5, z, rfl, hb5', hz, hcell5⟩ := hr5.at_ (k := m) (by omega)
                    have hw1 : IntKind.i64.wrap (((zs.length : Nat) : Int) - 1) = ((m : Nat) : Int) := by rw [show ((zs.length : Nat) : Int) - 1 = ((m : Nat) : Int) by omega]; exact IntWalk.i64_in _ (by omega)
                    have hkz : m < zs.length := by omega
                    have hkz2 : (m : Int) < (zs.length : Int) := by omega
                    have Ho5 := Lib.hid (ho5.mono (show w.heap.size + 1 ≤ w4.heap.size by (first | (go_size; done) | ((try simp only [World.size_alloc, World.size_setCell, World.size_drew, World.heap_drewN]); omega))))
                    have hsl := small_last HSo.out (k := m) (by omega) hz
                    clear ho5 hr5 hz hm
                    by_cases hzz : z ≤ 1000000000
                    · have hsm : small zs = true := by rw [hsl]; simp [hzz]
                      have hzi := Lib.hid (HI.out hsm)
                      have hzr2 := Lib.hid (HY.out hsm)
                      clear HI HY HN HZ Hr1 Hcut
                      have hzd : decide (1000000000 < z) = false := decide_eq_false (by omega)
                      clear hsl hsm
                      set_option maxRecDepth 8000 in go_wp2
                      go_roundw
                      case rel => exact ⟨j + 1, zs, by omega, by go_num, Ho5.out, HSo.out, hzi.out, by omega, hzr2.out, by (repeat' (first | (with_reducible exact Below.refl _ _) | (with_reducible assumption) | (with_reducible refine Below.drew ?_) | (with_reducible refine belowDrewN ?_ _) | (with_reducible refine Below.alloc ?_ ?_ _) | (with_reducible refine Below.setCell ?_ ?_ _) | (with_reducible refine belowStep (by assumption) ?_ ?_) | (with_reducible exact Below.size (by assumption)) | go_size))⟩
                      case measure =>
                        have q7 : (j : Int) < 300 := by omega
                        exact (Nat.sub_lt_sub_left (show ((j : Int)).toNat < 300 by rw [Int.toNat_natCast]; omega) (show ((j : Int)).toNat < ((j : Int) + 1).toNat by omega))
                    · have hsm : small zs = false := by rw [hsl]; simp [hzz]
                      have HX : Hid (exO RR = none) := Lib.hid (by rw [HN.out hsm]; rfl)
                      have hzd : decide (1000000000 < z) = true := decide_eq_true (by omega)
                      clear hsl hsm
                      go_wp2
                      go_ret2
                      rw [HX.out]
                      exact ⟨none, 0, rfl, Reads.nil, by (repeat' (first | (with_reducible exact Below.refl _ _) | (with_reducible assumption) | (with_reducible refine Below.drew ?_) | (with_reducible refine belowDrewN ?_ _) | (with_reducible refine Below.alloc ?_ ?_ _) | (with_reducible refine Below.setCell ?_ ?_ _) | (with_reducible refine belowStep (by assumption) ?_ ?_) | (with_reducible exact Below.size (by assumption)) | go_size))⟩
end Go.Proofs.YtbjblkfibinenadGreatDoor
