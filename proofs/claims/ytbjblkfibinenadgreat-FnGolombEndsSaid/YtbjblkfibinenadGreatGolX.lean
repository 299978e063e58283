
/-
  The contract of the model's expansion by inverses.
-/
import Derived.Test.YtbjblkfibinenadGreatGolE
namespace Go.Proofs.YtbjblkfibinenadGreat
open Go.RowKit
theorem gxO_pro {n d : Int} (h : proB n d = false) : gxO n d = none := by unfold gxO pexO; rw [h]; rfl
theorem gxO_none {n d : Int} (h : walkR stI 24 0 n d = none) : gxO n d = none := by
  unfold gxO pexO golO
  rw [h]
  cases proB n d <;> rfl
theorem gxO_some {n d : Int} {es : List (Int × Int × Int)} (hp : proB n d = true) (h : walkR stI 24 0 n d = some es) : gxO n d = if expB (putAll [] (takenOf es)) = true then some (putAll [] (takenOf es)) else none := by
  have hf := golO_facts (xs := takenOf es) hp (by unfold golO; rw [h]; rfl)
  rw [putAll_srt hf.2.2.2]
  unfold gxO pexO golO
  rw [hp, h]
  rfl
theorem gxO_len (n d : Int) : ((gxO n d).getD []).length ≤ 24 := by
  unfold gxO pexO
  split
  · cases h : golO n d with
    | none => simp [exO]
    | some xs =>
      cases hx : expB (srt xs) with
      | true => rw [exO_yes hx]; exact expB_len hx
      | false => rw [exO_no hx]; simp
  · simp
set_option maxHeartbeats 4000000 in
theorem spec_golombExp_any (n d : Int) (w : World) : Calls Tryz.prog 11 #[.agg #[.int .i64 n, .int .i64 d]] w (RetRB ((gxO n d).getD []) (gxO n d).isSome w) := by
  cases h : proB n d with
  | false =>
    have E := Lib.hid (gxO_pro h)
    go_enter Tryz.func11, Tryz.ntmps11
    go_wp2_with fail
    refine (meProper_any _ _ _).mono ?_; rintro e w1 ⟨rfl, hb1⟩; obtain ⟨hc1, hf1⟩ := bcellB hb1; have hz1 := hb1.size; (try simp only [World.size_alloc] at hc1 hf1 hz1); (try have hy1_r_0 : wr.heap.size < w1.heap.size := by omega); (try have hn1_r_0 : wr.heap.size ≠ w1.heap.size := by omega); (try have hm1_r_0 : w1.heap.size ≠ wr.heap.size := by omega); (try have hy1_r_1 : wr.heap.size + 1 < w1.heap.size := by omega); (try have hn1_r_1 : wr.heap.size + 1 ≠ w1.heap.size := by omega); (try have hm1_r_1 : w1.heap.size ≠ wr.heap.size + 1 := by omega); (try have hy1_r_2 : wr.heap.size + 1 + 1 < w1.heap.size := by omega); (try have hp1_r_1 : wr.heap.size < w1.heap.size + 1 := by omega); (try have hp1_r_2 : wr.heap.size < w1.heap.size + 1 + 1 := by omega); (try have hy1_0_0 : w.heap.size < w1.heap.size := by omega); (try have hn1_0_0 : w.heap.size ≠ w1.heap.size := by omega); (try have hm1_0_0 : w1.heap.size ≠ w.heap.size := by omega); (try have hy1_0_1 : w.heap.size + 1 < w1.heap.size := by omega); (try have hn1_0_1 : w.heap.size + 1 ≠ w1.heap.size := by omega); (try have hm1_0_1 : w1.heap.size ≠ w.heap.size + 1 := by omega); (try have hy1_0_2 : w.heap.size + 1 + 1 < w1.heap.size := by omega); (try have hp1_0_1 : w.heap.size < w1.heap.size + 1 := by omega); (try have hp1_0_2 : w.heap.size < w1.heap.size + 1 + 1 := by omega); (try have hg1_g1 : g1 < w1.heap.size := by omega); (try have hi1_g1 : g1 ≠ w1.heap.size := by omega); (try have hj1_g1 : w1.heap.size ≠ g1 := by omega); (try have hk1_g1 : g1 < w1.heap.size + 1 := by omega); (try have hg1_g2 : g2 < w1.heap.size := by omega); (try have hi1_g2 : g2 ≠ w1.heap.size := by omega); (try have hj1_g2 : w1.heap.size ≠ g2 := by omega); (try have hk1_g2 : g2 < w1.heap.size + 1 := by omega)
    rw [h]
    go_wp2
    go_ret2
    rw [E.out]
    exact ⟨none, 0, rfl, Reads.nil, by (repeat' (first | (with_reducible exact Below.refl _ _) | (with_reducible assumption) | (with_reducible refine Below.drew ?_) | (with_reducible refine belowDrewN ?_ _) | (with_reducible refine Below.alloc ?_ ?_ _) | (with_reducible refine Below.setCell ?_ ?_ _) | (with_reducible refine belowStep (by assumption) ?_ ?_) | (with_reducible exact Below.size (by assumption)) | go_size))⟩
  | true =>
    have HM := Lib.hid fun (w : World) => meTerms_any 24 (by omega) n d w h
    have HS := Lib.hid fun es (hw : walkR stI 24 0 n d = some es) => gxO_some h hw
    have HL := Lib.hid fun es (hw : walkR stI 24 0 n d = some es) => (show (putAll [] (takenOf es)).length ≤ 24 by
      have h1 := putAll_len (takenOf es) []
      have h2 := walkR_len 24 hw
      rw [takenOf_len] at h1
      simp at h1
      omega)
    go_enter Tryz.func11, Tryz.ntmps11
    go_wp2_with fail
    refine (meProper_any _ _ _).mono ?_; rintro e w1 ⟨rfl, hb1⟩; obtain ⟨hc1, hf1⟩ := bcellB hb1; have hz1 := hb1.size; (try simp only [World.size_alloc] at hc1 hf1 hz1); (try have hy1_r_0 : wr.heap.size < w1.heap.size := by omega); (try have hn1_r_0 : wr.heap.size ≠ w1.heap.size := by omega); (try have hm1_r_0 : w1.heap.size ≠ wr.heap.size := by omega); (try have hy1_r_1 : wr.heap.size + 1 < w1.heap.size := by omega); (try have hn1_r_1 : wr.heap.size + 1 ≠ w1.heap.size := by omega); (try have hm1_r_1 : w1.heap.size ≠ wr.heap.size + 1 := by omega); (try have hy1_r_2 : wr.heap.size + 1 + 1 < w1.heap.size := by omega); (try have hp1_r_1 : wr.heap.size < w1.heap.size + 1 := by omega); (try have hp1_r_2 : wr.heap.size < w1.heap.size + 1 + 1 := by omega); (try have hy1_0_0 : w.heap.size < w1.heap.size := by omega); (try have hn1_0_0 : w.heap.size ≠ w1.heap.size := by omega); (try have hm1_0_0 : w1.heap.size ≠ w.heap.size := by omega); (try have hy1_0_1 : w.heap.size + 1 < w1.heap.size := by omega); (try have hn1_0_1 : w.heap.size + 1 ≠ w1.heap.size := by omega); (try have hm1_0_1 : w1.heap.size ≠ w.heap.size + 1 := by omega); (try have hy1_0_2 : w.heap.size + 1 + 1 < w1.heap.size := by omega); (try have hp1_0_1 : w.heap.size < w1.heap.size + 1 := by omega); (try have hp1_0_2 : w.heap.size < w1.heap.size + 1 + 1 := by omega); (try have hg1_g1 : g1 < w1.heap.size := by omega); (try have hi1_g1 : g1 ≠ w1.heap.size := by omega); (try have hj1_g1 : w1.heap.size ≠ g1 := by omega); (try have hk1_g1 : g1 < w1.heap.size + 1 := by omega); (try have hg1_g2 : g2 < w1.heap.size := by omega); (try have hi1_g2 : g2 ≠ w1.heap.size := by omega); (try have hj1_g2 : w1.heap.size ≠ g2 := by omega); (try have hk1_g2 : g2 < w1.heap.size + 1 := by omega)
    rw [h]
    go_wp2_with fail
    refine (HM.out _).mono ?_
    rintro e w2 ⟨hb2, h2⟩
    have hz2 := hb2.size
    rcases h2 with ⟨es, v1, v2, hw, rfl, ho1, ho2⟩ | ⟨hw, rfl⟩
    · have E := Lib.hid (HS.out es hw)
      have hl := HL.out es hw
      obtain ⟨A1, c1, rfl, hr1⟩ := ho1.form
      generalize putAll [] (takenOf es) = xs at *
      have Hr1 := Lib.hid hr1
      clear ho1 ho2 hw hr1
      cases hx : expB xs with
      | true =>
        rw [hx] at E
        go_wp2_with fail
        refine (unList_yes _ A1 c1 xs Hr1.out (by omega) hx).mono ?_; rintro e w3 ⟨rfl, hb3⟩
        have hz3 := hb3.size
        go_wp2
        go_ret2
        rw [E.out]
        exact ⟨_, _, rfl, Hr1.out.below hb3, by (repeat' (first | (with_reducible exact Below.refl _ _) | (with_reducible assumption) | (with_reducible refine Below.drew ?_) | (with_reducible refine belowDrewN ?_ _) | (with_reducible refine Below.alloc ?_ ?_ _) | (with_reducible refine Below.setCell ?_ ?_ _) | (with_reducible refine belowStep (by assumption) ?_ ?_) | (with_reducible exact Below.size (by assumption)) | go_size))⟩
      | false =>
        rw [hx] at E
        go_wp2_with fail
        refine (unList_no _ A1 c1 xs Hr1.out (by omega) hx).mono ?_; rintro e w3 ⟨rfl, hb3⟩
        have hz3 := hb3.size
        go_wp2
        go_ret2
        rw [E.out]
        exact ⟨none, 0, rfl, Reads.nil, by (repeat' (first | (with_reducible exact Below.refl _ _) | (with_reducible assumption) | (with_reducible refine Below.drew ?_) | (with_reducible refine belowDrewN ?_ _) | (with_reducible refine Below.alloc ?_ ?_ _) | (with_reducible refine Below.setCell ?_ ?_ _) | (with_reducible refine belowStep (by assumption) ?_ ?_) | (with_reducible exact Below.size (by assumption)) | go_size))⟩
    · have E := Lib.hid (gxO_none hw)
      go_wp2
      go_ret2
      rw [E.out]
      exact ⟨none, 0, rfl, Reads.nil, by (repeat' (first | (with_reducible exact Below.refl _ _) | (with_reducible assumption) | (with_reducible refine Below.drew ?_) | (with_reducible refine belowDrewN ?_ _) | (with_reducible refine Below.alloc ?_ ?_ _) | (with_reducible refine Below.setCell ?_ ?_ _) | (with_reducible refine belowStep (by assumption) ?_ ?_) | (with_reducible exact Below.size (by assumption)) | go_size))⟩
end Go.Proofs.YtbjblkfibinenadGreat
