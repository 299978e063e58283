
/-
  Contracts of the model's step of the method by inverses.
-/
import Derived.Test.YtbjblkfibinenadGreatGolS
namespace Go.Proofs.YtbjblkfibinenadGreat
open Go.RowKit
set_option maxHeartbeats 2000000 in
theorem meGolomb_any (n d : Int) (w : World) (h : proB n d = true) : Calls Tryz.prog 58 #[.agg #[.int .i64 n, .int .i64 d]] w (Ret (.tuple #[.int .i64 (goT n d), .agg #[.int .i64 (goN n d), .int .i64 (goD n d)]]) w) := by
  obtain ⟨n1, n2, d1, d2, hnd, hg, hgc, hi⟩ := proB_bounds h
  have E : Hid (goT n d = d * invI n d ∧ goN n d = (n * invI n d - 1) / d ∧ goD n d = invI n d) := Lib.hid (goR h)
  by_cases h1 : n = 1
  · subst h1
    have e := gol_one h
    have E2 : Hid (goT 1 d = d ∧ goN 1 d = 0 ∧ goD 1 d = 1) := Lib.hid (by rw [E.out.1, E.out.2.1, E.out.2.2, e]; exact ⟨by omega, by simp, rfl⟩)
    clear e E
    go_enter Tryz.func58, Tryz.ntmps58
    go_wp2
    refine bodyPost_ret (by simp [results, Tryz.results58, go_sem, *]; try rfl) rfl ?_
    all_goals (rw [E2.out.1, E2.out.2.1, E2.out.2.2]; exact ⟨rfl, by (repeat' (first | (with_reducible exact Below.refl _ _) | (with_reducible assumption) | (with_reducible refine Below.drew ?_) | (with_reducible refine belowDrewN ?_ _) | (with_reducible refine Below.alloc ?_ ?_ _) | (with_reducible refine Below.setCell ?_ ?_ _) | (with_reducible refine belowStep (by assumption) ?_ ?_) | (with_reducible exact Below.size (by assumption)) | go_size))⟩)
  · have h1' : (n == 1) = false := by simp [h1]
    have G := gol h
    have s1 := G.s1
    have sd := G.sd
    have HI := Lib.hid fun (w : World) => meInverse_any n d w ⟨n1, n2, d1, d2⟩ hgc
    have p1 := mul_bounds (a := n) (b := invI n d) (by omega) n2 (by omega) (by omega)
    have p2 := mul_bounds (a := d) (b := invI n d) (by omega) d2 (by omega) (by omega)
    have p3 := mul_pos1 n1 s1
    have q0 : 0 ≤ (n * invI n d - 1) / d := G.r0
    have q1 : (n * invI n d - 1) / d < n := G.rn
    have HM : Hid (∀ (w : World) (x : Int), x = (n * invI n d - 1) / d → Calls Tryz.prog 32 #[.int .i64 x, .int .i64 (invI n d)] w (Ret (.agg #[.int .i64 ((n * invI n d - 1) / d), .int .i64 (invI n d)]) w)) := Lib.hid fun w x hx => by
      subst hx
      have := unMake_any ((n * invI n d - 1) / d) (invI n d) w q0 s1 (by omega) (by omega)
      obtain ⟨_, _, _, e1, e2⟩ := red_good G.gd
      rw [e1, e2] at this
      exact this
    have HX : Hid (IntKind.i64.wrap ((IntKind.i64.wrap (IntKind.i64.wrap (n * invI n d) - 1)).tdiv d) = (n * invI n d - 1) / d) := Lib.hid (by
      rw [IntWalk.i64_in (n * invI n d) (by omega), IntWalk.i64_in (n * invI n d - 1) (by omega), Int.tdiv_eq_ediv_of_nonneg (by omega)]
      exact IntWalk.i64_in _ (by omega))
    have HY : Hid (IntKind.i64.wrap (d * invI n d) = d * invI n d) := Lib.hid (IntWalk.i64_in _ (by omega))
    have hne : d ≠ 0 := by omega
    clear G hi hgc h1
    generalize invI n d = s at *
    have T0 := Lib.hid ((TwoAt.new w n d 25).below ((Below.refl _ _).alloc (Nat.le_refl _) (.cells #[.int .i64 0, .int .i64 0] 25)))
    go_enter Tryz.func58, Tryz.ntmps58
    go_wp2_with fail
    refine ((HI.out _).mono fun _ _ h => h.ret).mono ?_; rintro e w1 ⟨rfl, hb1⟩; obtain ⟨hc1, hf1⟩ := bcellB hb1; have hz1 := hb1.size; (try simp only [World.size_alloc] at hc1 hf1 hz1); (try have hy1_r_0 : wr.heap.size < w1.heap.size := by omega); (try have hn1_r_0 : wr.heap.size ≠ w1.heap.size := by omega); (try have hm1_r_0 : w1.heap.size ≠ wr.heap.size := by omega); (try have hy1_r_1 : wr.heap.size + 1 < w1.heap.size := by omega); (try have hn1_r_1 : wr.heap.size + 1 ≠ w1.heap.size := by omega); (try have hm1_r_1 : w1.heap.size ≠ wr.heap.size + 1 := by omega); (try have hy1_r_2 : wr.heap.size + 1 + 1 < w1.heap.size := by omega); (try have hp1_r_1 : wr.heap.size < w1.heap.size + 1 := by omega); (try have hp1_r_2 : wr.heap.size < w1.heap.size + 1 + 1 := by omega); (try have hy1_0_0 : w.heap.size < w1.heap.size := by omega); (try have hn1_0_0 : w.heap.size ≠ w1.heap.size := by omega); (try have hm1_0_0 : w1.heap.size ≠ w.heap.size := by omega); (try have hy1_0_1 : w.heap.size + 1 < w1.heap.size := by omega); (try have hn1_0_1 : w.heap.size + 1 ≠ w1.heap.size := by omega); (try have hm1_0_1 : w1.heap.size ≠ w.heap.size + 1 := by omega); (try have hy1_0_2 : w.heap.size + 1 + 1 < w1.heap.size := by omega); (try have hp1_0_1 : w.heap.size < w1.heap.size + 1 := by omega); (try have hp1_0_2 : w.heap.size < w1.heap.size + 1 + 1 := by omega); (try have hg1_g1 : g1 < w1.heap.size := by omega); (try have hi1_g1 : g1 ≠ w1.heap.size := by omega); (try have hj1_g1 : w1.heap.size ≠ g1 := by omega); (try have hk1_g1 : g1 < w1.heap.size + 1 := by omega); (try have hg1_g2 : g2 < w1.heap.size := by omega); (try have hi1_g2 : g2 ≠ w1.heap.size := by omega); (try have hj1_g2 : w1.heap.size ≠ g2 := by omega); (try have hk1_g2 : g2 < w1.heap.size + 1 := by omega)
    obtain ⟨t1, t2, t3, t4, t5⟩ := T0.out.below hb1
    go_upto_region 4 with fail
    go_region_held3 (fun w' => w'.cell? ⟨w.heap.size, 0, none⟩ = some (.int .i64 n) ∧ w'.cell? ⟨w.heap.size, 1, none⟩ = some (.int .i64 d)) (go_keep) (first | (go_at_call 32; refine (HM.out _ _ HX.out).mono ?_; rintro e w2 ⟨rfl, hb2⟩; obtain ⟨hc2, hf2⟩ := bcellB hb2; have hz2 := hb2.size; (try simp only [World.size_drew] at hc2 hf2 hz2); (try have hy2_00 : w.heap.size < w2.heap.size := by omega); (try have hn2_00 : w.heap.size ≠ w2.heap.size := by omega); (try have hm2_00 : w2.heap.size ≠ w.heap.size := by omega); (try have hp2_00 : w.heap.size < w2.heap.size + 1 := by omega); (try have hy2_01 : w.heap.size + 1 < w2.heap.size := by omega); (try have hn2_01 : w.heap.size + 1 ≠ w2.heap.size := by omega); (try have hm2_01 : w2.heap.size ≠ w.heap.size + 1 := by omega); (try have hp2_01 : w.heap.size + 1 < w2.heap.size + 1 := by omega); (try have hy2_10 : w1.heap.size < w2.heap.size := by omega); (try have hn2_10 : w1.heap.size ≠ w2.heap.size := by omega); (try have hm2_10 : w2.heap.size ≠ w1.heap.size := by omega); (try have hp2_10 : w1.heap.size < w2.heap.size + 1 := by omega); (try have hy2_11 : w1.heap.size + 1 < w2.heap.size := by omega); (try have hn2_11 : w1.heap.size + 1 ≠ w2.heap.size := by omega); (try have hm2_11 : w2.heap.size ≠ w1.heap.size + 1 := by omega); (try have hp2_11 : w1.heap.size + 1 < w2.heap.size + 1 := by omega)))
    all_goals go_wp2_with fail
    all_goals refine bodyPost_ret (by simp [results, Tryz.results58, go_sem, *]; try rfl) rfl ?_
    all_goals (rw [E.out.1, E.out.2.1, E.out.2.2]; (try rw [HY.out]); exact ⟨rfl, by (repeat' (first | (with_reducible exact Below.refl _ _) | (with_reducible assumption) | (with_reducible refine Below.drew ?_) | (with_reducible refine belowDrewN ?_ _) | (with_reducible refine Below.alloc ?_ ?_ _) | (with_reducible refine Below.setCell ?_ ?_ _) | (with_reducible refine belowStep (by assumption) ?_ ?_) | (with_reducible exact Below.size (by assumption)) | go_size))⟩)
end Go.Proofs.YtbjblkfibinenadGreat
