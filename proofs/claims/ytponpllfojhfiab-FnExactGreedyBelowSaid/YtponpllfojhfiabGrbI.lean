
/-
  The contract of the program's greedy numbers below a fraction.
-/
import Derived.Test.YtponpllfojhfiabGrbC
namespace Go.Proofs.Ytponpllfojhfiab
open Go.RowKit
theorem TwoAt.newAt {W W' : World} {g : Nat} {n d : Int} {T : TypeId} (hg : g = W.heap.size) (h : Below (W.alloc (.cells #[.int .i64 n, .int .i64 d] T)).heap.size (W.alloc (.cells #[.int .i64 n, .int .i64 d] T)) W') : TwoAt W' g n d := by
  subst hg
  exact (TwoAt.new W n d T).below h
set_option maxRecDepth 100000 in
set_option maxHeartbeats 4000000 in
theorem greedyBelow_any (n0 d0 k : Int) (w : World) (rn0 : -9223372036854775808 ≤ n0 ∧ n0 ≤ 9223372036854775807) (rd0 : -9223372036854775808 ≤ d0 ∧ d0 ≤ 9223372036854775807) (rk : -9223372036854775808 ≤ k ∧ k ≤ 9223372036854775807) : Calls Try.prog 21 #[.agg #[.int .i64 n0, .int .i64 d0], .int .i64 k] w (RetLB ((gbO n0 d0 k).getD []) (gbO n0 d0 k).isSome w) := by
  have HT := Lib.hid fun (w : World) => areForNear_any n0 d0 k w rn0 rd0
  cases hk : nearB n0 d0 k with
  | false =>
    rw [hk] at HT
    have E := Lib.hid (gbO_no hk)
    clear hk
    go_enter Try.func21, Try.ntmps21
    go_wp2_with fail
    refine (HT.out _).mono ?_; rintro e w1 ⟨rfl, hb1⟩; have hz1 := hb1.size; (try simp only [World.size_alloc, World.size_setCell, World.size_drew, World.heap_drewN] at hz1)
    go_wp2
    go_ret2
    rw [E.out]
    exact ⟨_, rfl, OwnI.empty _ _, by (repeat' (first | (with_reducible exact Below.refl _ _) | (with_reducible assumption) | (with_reducible refine Below.drew ?_) | (with_reducible refine belowDrewN ?_ _) | (with_reducible refine Below.alloc ?_ ?_ _) | (with_reducible refine Below.setCell ?_ ?_ _) | (with_reducible refine belowStep (by assumption) ?_ ?_) | (with_reducible exact Below.size (by assumption)) | go_size))⟩
  | true =>
    rw [hk] at HT
    have E := Lib.hid (gbO_yes hk)
    have HS := Lib.hid (near_greedy hk)
    obtain ⟨hg0, _, _, _, _, _, k1, k4⟩ := near_bounds hk
    have HG0 := Lib.hid hg0
    clear hk hg0
    obtain ⟨K, rfl⟩ := Int.eq_ofNat_of_zero_le (show 0 ≤ k by omega)
    rw [Int.toNat_natCast] at E HS
    have T0 := Lib.hid (TwoAt.new w n0 d0 27)
    go_enter Try.func21, Try.ntmps21
    go_wp2_with fail
    refine (HT.out _).mono ?_; rintro e w1 ⟨rfl, hb1⟩; have hz1 := hb1.size; (try simp only [World.size_alloc, World.size_setCell, World.size_drew, World.heap_drewN] at hz1)
    have T0 := Lib.hid (T0.out.below hb1)
    obtain ⟨q1, q2, q3, q4, q5⟩ := T0.out
    go_upto_region 3 with fail
    go_cut [6, 7] (fun s6 s7 wx => ∃ (g : Nat) (A6 : Option Addr) (c6 : Nat), s6 = .slice A6 0 c6 ∧ s7 = .pointer (some ⟨g, 0, none⟩) ∧ OwnI wx w.heap.size s6 [] ∧ s6.ownBlock ≠ some g ∧ TwoAt wx g n0 d0 ∧ w.heap.size ≤ g ∧ Below w.heap.size w wx)
    case first =>
      go_region
      all_goals go_wp2_with fail
      all_goals go_meet
      all_goals refine ⟨_, _, _, rfl, rfl, ?_, ?_, ?_, by (first | (go_size; done) | ((try simp only [World.size_alloc, World.size_setCell, World.size_drew, World.heap_drewN]); omega)), by (repeat' (first | (with_reducible exact Below.refl _ _) | (with_reducible assumption) | (with_reducible refine Below.drew ?_) | (with_reducible refine belowDrewN ?_ _) | (with_reducible refine Below.alloc ?_ ?_ _) | (with_reducible refine Below.setCell ?_ ?_ _) | (with_reducible refine belowStep (by assumption) ?_ ?_) | (with_reducible exact Below.size (by assumption)) | go_size))⟩
      all_goals first
        | (simp [Value.ownBlock]; done)
        | exact litI w1 _ _ _ (by (first | (go_size; done) | ((try simp only [World.size_alloc, World.size_setCell, World.size_drew, World.heap_drewN]); omega))) (by (first | (go_size; done) | ((try simp only [World.size_alloc, World.size_setCell, World.size_drew, World.heap_drewN]); omega))) (by (repeat' (first | (with_reducible exact Below.refl _ _) | (with_reducible assumption) | (with_reducible refine Below.drew ?_) | (with_reducible refine belowDrewN ?_ _) | (with_reducible refine Below.alloc ?_ ?_ _) | (with_reducible refine Below.setCell ?_ ?_ _) | (with_reducible refine belowStep (by assumption) ?_ ?_) | (with_reducible exact Below.size (by assumption)) | go_size)))
        | exact litI (w1.alloc (.cells #[.int .i64 n0, .int .i64 d0] 27)) _ _ _ (by (first | (go_size; done) | ((try simp only [World.size_alloc, World.size_setCell, World.size_drew, World.heap_drewN]); omega))) (by (first | (go_size; done) | ((try simp only [World.size_alloc, World.size_setCell, World.size_drew, World.heap_drewN]); omega))) (by (repeat' (first | (with_reducible exact Below.refl _ _) | (with_reducible assumption) | (with_reducible refine Below.drew ?_) | (with_reducible refine belowDrewN ?_ _) | (with_reducible refine Below.alloc ?_ ?_ _) | (with_reducible refine Below.setCell ?_ ?_ _) | (with_reducible refine belowStep (by assumption) ?_ ?_) | (with_reducible exact Below.size (by assumption)) | go_size)))
        | exact TwoAt.newAt (W := w1) (T := 27) (by (first | (go_size; done) | ((try simp only [World.size_alloc, World.size_setCell, World.size_drew, World.heap_drewN]); omega))) (by (repeat' (first | (with_reducible exact Below.refl _ _) | (with_reducible assumption) | (with_reducible refine Below.drew ?_) | (with_reducible refine belowDrewN ?_ _) | (with_reducible refine Below.alloc ?_ ?_ _) | (with_reducible refine Below.setCell ?_ ?_ _) | (with_reducible refine belowStep (by assumption) ?_ ?_) | (with_reducible exact Below.size (by assumption)) | go_size)))
        | exact TwoAt.newAt (W := w1.alloc (.cells #[] 3)) (T := 27) (by (first | (go_size; done) | ((try simp only [World.size_alloc, World.size_setCell, World.size_drew, World.heap_drewN]); omega))) (by (repeat' (first | (with_reducible exact Below.refl _ _) | (with_reducible assumption) | (with_reducible refine Below.drew ?_) | (with_reducible refine belowDrewN ?_ _) | (with_reducible refine Below.alloc ?_ ?_ _) | (with_reducible refine Below.setCell ?_ ?_ _) | (with_reducible refine belowStep (by assumption) ?_ ?_) | (with_reducible exact Below.size (by assumption)) | go_size)))
    case rest =>
      obtain ⟨w2, rfl⟩ : ∃ w2 : World, w2 = wc := ⟨_, rfl⟩
      obtain ⟨g1, A6, c6, rfl, rfl, ho, hne, hq, hgg, hb2⟩ := hcut
      have Ho2 := Lib.hid ho
      have Hne2 := Lib.hid hne
      have Hq2 := Lib.hid hq
      clear q1 q2 q3 q4 q5 T0 ho hne hq
      have hzw := hb2.size
      go_wp2
      go_loopw [6, 18] (fun v6 v18 wr => ∃ (j i : Nat) (n d : Int) (ys : List Int), v18 = .int .i64 (i : Int) ∧ j + i = K ∧ ys.length = i ∧ goodB n d = true ∧ gbL K n0 d0 = (gbL j n d).map (ys ++ ·) ∧ OwnI wr w.heap.size v6 ys ∧ v6.ownBlock ≠ some g1 ∧ TwoAt wr g1 n d ∧ Below w.heap.size w wr) (fun _ v18 _ => K - (intOf v18).toNat)
      case atStart =>
        refine ⟨K, 0, n0, d0, [], rfl, by simp, rfl, HG0.out, ?_, ?_, ?_, ?_, by (repeat' (first | (with_reducible exact Below.refl _ _) | (with_reducible assumption) | (with_reducible refine Below.drew ?_) | (with_reducible refine belowDrewN ?_ _) | (with_reducible refine Below.alloc ?_ ?_ _) | (with_reducible refine Below.setCell ?_ ?_ _) | (with_reducible refine belowStep (by assumption) ?_ ?_) | (with_reducible exact Below.size (by assumption)) | go_size))⟩
        · cases h : gbL K n0 d0 <;> simp
        · exact Ho2.out.below (by (repeat' (first | (with_reducible exact Below.refl _ _) | (with_reducible assumption) | (with_reducible refine Below.drew ?_) | (with_reducible refine belowDrewN ?_ _) | (with_reducible refine Below.alloc ?_ ?_ _) | (with_reducible refine Below.setCell ?_ ?_ _) | (with_reducible refine belowStep (by assumption) ?_ ?_) | (with_reducible exact Below.size (by assumption)) | go_size)))
        · exact Hne2.out
        · exact Hq2.out.below (by (repeat' (first | (with_reducible exact Below.refl _ _) | (with_reducible assumption) | (with_reducible refine Below.drew ?_) | (with_reducible refine belowDrewN ?_ _) | (with_reducible refine Below.alloc ?_ ?_ _) | (with_reducible refine Below.setCell ?_ ?_ _) | (with_reducible refine belowStep (by assumption) ?_ ?_) | (with_reducible exact Below.size (by assumption)) | go_size)))
      case round =>
        obtain ⟨j, i, n, d, ys, rfl, hj, hyl, hg, hr, ho, hne, hq, hbr⟩ := hrel
        have hzr := hbr.size
        have Ho := Lib.hid ho
        have Hr := Lib.hid hr
        have Hg := Lib.hid hg
        have Hq := Lib.hid hq
        have Hne := Lib.hid hne
        clear ho hr hg hq hne
        rcases j with _ | j
        · have hys : gbL K n0 d0 = some ys := by rw [Hr.out]; simp [gbL]
          have E := Lib.hid (E.out.trans hys)
          clear hys
          obtain rfl : i = K := by omega
          have hlt : ¬ (i : Int) < (i : Int) := by omega
          go_wp2
          go_ret2
          rw [E.out]
          exact ⟨_, rfl, Ho.out, hbr⟩
        · obtain ⟨h1, h2, h3, h4, h5, h6, h7⟩ := gb_round HS.out Hg.out Hr.out
          obtain ⟨b1, b2, b3, b4⟩ := good_bounds Hg.out
          have hil : (i : Int) < (K : Int) := by omega
          have hyl4 : ys.length ≤ 4 := by omega
          have HLB := Lib.hid fun (w : World) => leastBelow_any n d w h1 b2 b3 b4
          have HTU := Lib.hid fun (w : World) => takeUnit_any n d (d / n + 1) w Hg.out h3 (by omega)
          rw [(tB_parts h5).2.2.2.1, h5] at HTU
          have H6 := Lib.hid h6
          have H7 := Lib.hid h7
          have Hj := Lib.hid hj
          have Hyl := Lib.hid hyl
          generalize d / n + 1 = t at *
          generalize tN n d t = n' at *
          generalize tD n d t = d' at *
          clear h1 h2 h3 h4 h5 h6 h7 hj hyl
          obtain ⟨c3, c4, f3, f4, z2⟩ := Hq.out
          have z3 : g1 < wr.heap.size + 1 := by omega
          go_upto_region 6 with fail
          go_cut [8, 9, 10] (fun s8 s9 s10 wx => ∃ g2 : Nat, s8 = .int .i64 t ∧ s9 = .pointer (some ⟨g2, 0, none⟩) ∧ s10 = .bool true ∧ wr.heap.size ≤ g2 ∧ g2 < wx.heap.size ∧ TwoAt wx g2 n' d' ∧ Below wr.heap.size wr wx)
          case first =>
            go_region_with (first | (go_at_call 51; refine (HLB.out _).mono ?_; rintro e w3 ⟨rfl, hb3⟩; obtain ⟨hc3, hf3⟩ := bcellB hb3; have hz3 := hb3.size; (try simp only [World.size_alloc, World.size_setCell, World.size_drew, World.heap_drewN] at hc3 hf3 hz3); (try have hy3_00 : wr.heap.size < w3.heap.size := by omega); (try have hn3_00 : wr.heap.size ≠ w3.heap.size := by omega); (try have hm3_00 : w3.heap.size ≠ wr.heap.size := by omega); (try have hp3_00 : wr.heap.size < w3.heap.size + 1 := by omega); (try have hy3_01 : wr.heap.size + 1 < w3.heap.size := by omega); (try have hn3_01 : wr.heap.size + 1 ≠ w3.heap.size := by omega); (try have hm3_01 : w3.heap.size ≠ wr.heap.size + 1 := by omega); (try have hp3_01 : wr.heap.size + 1 < w3.heap.size + 1 := by omega); have hu3 : g1 < w3.heap.size := by omega) | (go_at_call 50; refine (HTU.out _).mono ?_; rintro e w4 ⟨rfl, hb4⟩; obtain ⟨hc4, hf4⟩ := bcellB hb4; have hz4 := hb4.size; (try simp only [World.size_alloc, World.size_setCell, World.size_drew, World.heap_drewN] at hc4 hf4 hz4); (try have hy4_00 : wr.heap.size < w4.heap.size := by omega); (try have hn4_00 : wr.heap.size ≠ w4.heap.size := by omega); (try have hm4_00 : w4.heap.size ≠ wr.heap.size := by omega); (try have hp4_00 : wr.heap.size < w4.heap.size + 1 := by omega); (try have hy4_01 : wr.heap.size + 1 < w4.heap.size := by omega); (try have hn4_01 : wr.heap.size + 1 ≠ w4.heap.size := by omega); (try have hm4_01 : w4.heap.size ≠ wr.heap.size + 1 := by omega); (try have hp4_01 : wr.heap.size + 1 < w4.heap.size + 1 := by omega); (try have hy4_10 : w3.heap.size < w4.heap.size := by omega); (try have hn4_10 : w3.heap.size ≠ w4.heap.size := by omega); (try have hm4_10 : w4.heap.size ≠ w3.heap.size := by omega); (try have hp4_10 : w3.heap.size < w4.heap.size + 1 := by omega); (try have hy4_11 : w3.heap.size + 1 < w4.heap.size := by omega); (try have hn4_11 : w3.heap.size + 1 ≠ w4.heap.size := by omega); (try have hm4_11 : w4.heap.size ≠ w3.heap.size + 1 := by omega); (try have hp4_11 : w3.heap.size + 1 < w4.heap.size + 1 := by omega); have hu4 : g1 < w4.heap.size := by omega))
            all_goals go_wp2_with fail
            all_goals go_meet
            all_goals refine ⟨_, rfl, rfl, rfl, by (first | (go_size; done) | ((try simp only [World.size_alloc, World.size_setCell, World.size_drew, World.heap_drewN]); omega)), by (first | (go_size; done) | ((try simp only [World.size_alloc, World.size_setCell, World.size_drew, World.heap_drewN]); omega)), ?_, by (repeat' (first | (with_reducible exact Below.refl _ _) | (with_reducible assumption) | (with_reducible refine Below.drew ?_) | (with_reducible refine belowDrewN ?_ _) | (with_reducible refine Below.alloc ?_ ?_ _) | (with_reducible refine Below.setCell ?_ ?_ _) | (with_reducible refine belowStep (by assumption) ?_ ?_) | (with_reducible exact Below.size (by assumption)) | go_size))⟩
            all_goals first
              | exact TwoAt.newAt (W := w4) (T := 27) (by (first | (go_size; done) | ((try simp only [World.size_alloc, World.size_setCell, World.size_drew, World.heap_drewN]); omega))) (by (repeat' (first | (with_reducible exact Below.refl _ _) | (with_reducible assumption) | (with_reducible refine Below.drew ?_) | (with_reducible refine belowDrewN ?_ _) | (with_reducible refine Below.alloc ?_ ?_ _) | (with_reducible refine Below.setCell ?_ ?_ _) | (with_reducible refine belowStep (by assumption) ?_ ?_) | (with_reducible exact Below.size (by assumption)) | go_size)))
              | (refine ⟨?_, ?_, ?_, ?_, ?_⟩ <;> first | (first | (simp [*, World.cell?_alloc_some, World.cell?_setCell_far]; done) | (simp [go_sem, *]; done)) | (first | (go_size; done) | ((try simp only [World.size_alloc, World.size_setCell, World.size_drew, World.heap_drewN]); omega)))
          case rest =>
            obtain ⟨w5, rfl⟩ : ∃ w5 : World, w5 = wc := ⟨_, rfl⟩
            obtain ⟨g2, rfl, rfl, rfl, hg2, hg2s, hq2, hb5⟩ := hcut
            have hz5 := hb5.size
            have Hq2 := Lib.hid hq2
            have Hq5 := Lib.hid (Hq.out.below hb5)
            have Ho5 := Lib.hid (Ho.out.below hb5)
            have Hb5 := Lib.hid fun k hk => (Ho.out.block k hk).2
            clear hq2 c3 c4 f3 f4 z2
            go_wp2
            obtain ⟨q1, q2, q3, q4, q5⟩ := Hq5.out
            obtain ⟨p1, p2, p3, p4, p5⟩ := Hq2.out
            have hg1w := Hq.out.2.2.2.2
            have hn12 : g1 ≠ g2 := by omega
            have hn21 : g2 ≠ g1 := by omega
            go_region_held3 (fun w' => w'.cell? ⟨g2, 0, none⟩ = some (.int .i64 n') ∧ w'.cell? ⟨g2, 1, none⟩ = some (.int .i64 d')) (first | exact ⟨pp1, pp2⟩ | exact ⟨cellFar hn21 (cellFar hn21 pp1), cellFar hn21 (cellFar hn21 pp2)⟩ | go_keep) (first
              | (refine step_app _ (o := ⟨some 33, _, _, _, _, _⟩) (ys := [t]) rfl _ _ rfl rfl (OwnI.below Ho5.out (by (repeat' (first | (with_reducible exact Below.refl _ _) | (with_reducible assumption) | (with_reducible refine Below.drew ?_) | (with_reducible refine belowDrewN ?_ _) | (with_reducible refine Below.alloc ?_ ?_ _) | (with_reducible refine Below.setCell ?_ ?_ _) | (with_reducible refine belowStep (by assumption) ?_ ?_) | (with_reducible exact Below.size (by assumption)) | go_size)))) 1 1 rfl rfl (Reads.oneAt (by (first | (simp [*, World.cell?_alloc_some, World.cell?_setCell_far]; done) | (simp [go_sem, *]; done))) (by (first | (go_size; done) | ((try simp only [World.size_alloc, World.size_setCell, World.size_drew, World.heap_drewN]); omega)))) (by simp; omega) (by (first | (go_size; done) | ((try simp only [World.size_alloc, World.size_setCell, World.size_drew, World.heap_drewN]); omega))) ?_; intro v6 w6 ho6 hb6 hg6 ht6; have HB6 := Lib.hid (show Below w.heap.size w5 w6 from Below.trans (by (repeat' (first | (with_reducible exact Below.refl _ _) | (with_reducible assumption) | (with_reducible refine Below.drew ?_) | (with_reducible refine belowDrewN ?_ _) | (with_reducible refine Below.alloc ?_ ?_ _) | (with_reducible refine Below.setCell ?_ ?_ _) | (with_reducible refine belowStep (by assumption) ?_ ?_) | (with_reducible exact Below.size (by assumption)) | go_size))) hb6); have Hne6 := Lib.hid (show v6.ownBlock ≠ some g1 from by rcases ht6 with e | e; (rw [e]; exact Hne.out); (rw [e]; intro e2; injection e2 with e2; (try simp only [World.size_alloc, World.size_setCell, World.size_drew, World.heap_drewN] at e2); omega)); clear ht6; have Ho6 := Lib.hid ho6; have hz6 := hb6.size; have HQ6 := Lib.hid (keptAt hg6 Hne.out (TwoAt.below Hq5.out (by (repeat' (first | (with_reducible exact Below.refl _ _) | (with_reducible assumption) | (with_reducible refine Below.drew ?_) | (with_reducible refine belowDrewN ?_ _) | (with_reducible refine Below.alloc ?_ ?_ _) | (with_reducible refine Below.setCell ?_ ?_ _) | (with_reducible refine belowStep (by assumption) ?_ ?_) | (with_reducible exact Below.size (by assumption)) | go_size))))); have HL6 := Lib.hid (keptAt hg6 (fun e => by have := Hb5.out _ e; omega) (TwoAt.below Hq2.out (by (repeat' (first | (with_reducible exact Below.refl _ _) | (with_reducible assumption) | (with_reducible refine Below.drew ?_) | (with_reducible refine belowDrewN ?_ _) | (with_reducible refine Below.alloc ?_ ?_ _) | (with_reducible refine Below.setCell ?_ ?_ _) | (with_reducible refine belowStep (by assumption) ?_ ?_) | (with_reducible exact Below.size (by assumption)) | go_size))))); (try simp only [World.size_alloc, World.size_setCell, World.size_drew, World.heap_drewN] at hz6); obtain ⟨pp1, pp2, pp3, pp4, pp5⟩ := HL6.out; obtain ⟨qr1, qr2, qr3, qr4, qr5⟩ := HQ6.out; clear ho6 hg6 hb6))
            all_goals
              go_wp2
              go_roundw
              case rel =>
                refine ⟨j, i + 1, n', d', ys ++ [t], by go_num, by have := Hj.out; omega, by rw [List.length_append, Hyl.out]; rfl, H6.out, H7.out, ?_, ?_, ?_, ?_⟩
                · exact ((Ho6.out.setO g1 0 _ Hne6.out).setO g1 1 _ Hne6.out).below (by (repeat' (first | (with_reducible exact Below.refl _ _) | (with_reducible assumption) | (with_reducible refine Below.drew ?_) | (with_reducible refine belowDrewN ?_ _) | (with_reducible refine Below.alloc ?_ ?_ _) | (with_reducible refine Below.setCell ?_ ?_ _) | (with_reducible refine belowStep (by assumption) ?_ ?_) | (with_reducible exact Below.size (by assumption)) | go_size)))
                · exact Hne6.out
                · (refine ⟨?_, ?_, ?_, ?_, ?_⟩ <;> first | (first | (simp [*, World.cell?_alloc_some, World.cell?_setCell_far]; done) | (simp [go_sem, *]; done)) | (first | (go_size; done) | ((try simp only [World.size_alloc, World.size_setCell, World.size_drew, World.heap_drewN]); omega)))
                · exact (((Below.trans (Below.trans hbr (hb5.mono hzr)) HB6.out).setCell hgg _).setCell hgg _).mono (Nat.le_refl _)
              case measure => (simp [intOf]) <;> omega
end Go.Proofs.Ytponpllfojhfiab
