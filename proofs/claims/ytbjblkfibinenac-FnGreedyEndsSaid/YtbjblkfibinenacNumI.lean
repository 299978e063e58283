
/-
  The contract of the program's numerators of greedy steps.
-/
import Derived.Test.YtbjblkfibinenacNumO
import Derived.Test.YtbjblkfibinenacFracS
namespace Go.Proofs.Ytbjblkfibinenac
open Go.RowKit
theorem OwnF.at_ {w : World} {base : Nat} {A : Option Addr} {n c : Nat} {fs : List (Int × Int)} (h : OwnF w base (.slice A n c) fs) {k : Nat} {p : Int × Int} (hk : fs[k]? = some p) :
    ∃ b, A = some ⟨b, 0, none⟩ ∧ b < w.heap.size ∧ w.cell? ⟨b, k * 2, none⟩ = some (.int .i64 p.1) ∧ w.cell? ⟨b, k * 2 + 1, none⟩ = some (.int .i64 p.2) := by
  have hlt : k < fs.length := (List.getElem?_eq_some_iff.1 hk).1
  have hl := fcells_len fs
  rcases h.2 with ⟨hv, h0⟩ | ⟨g, cap, cur, hv, hb, hg, r⟩
  · rw [h0] at hlt; omega
  · injection hv with e1 e2 e3
    subst e1 e2 e3
    refine ⟨g, rfl, (h.block g rfl).2, ?_, ?_⟩
    · rw [World.ownsRow.cellAt (h : w.ownsRow _ _ _ _ _ _) (k * 2) (by omega)]; exact (fcells_at hk).1
    · rw [World.ownsRow.cellAt (h : w.ownsRow _ _ _ _ _ _) (k * 2 + 1) (by omega)]; exact (fcells_at hk).2
set_option maxRecDepth 100000 in
set_option maxHeartbeats 4000000 in
theorem numerators_any (n d : Int) (w : World) (rn : -9223372036854775808 ≤ n ∧ n ≤ 9223372036854775807) (rd : -9223372036854775808 ≤ d ∧ d ≤ 9223372036854775807) : Calls Try.prog 31 #[.agg #[.int .i64 n, .int .i64 d]] w (RetLB ((nmO n d).getD []) (nmO n d).isSome w) := by
  cases h : belowB n d with
  | false =>
    have E : Hid (nmO n d = none) := Lib.hid (by unfold nmO; rw [h]; rfl)
    go_enter Try.func31, Try.ntmps31
    go_wp2_with (go_at_call 65; refine (isBelowOne_any _ _ _ rn rd).mono ?_; rintro e w1 ⟨rfl, hb1⟩; obtain ⟨hc1, hf1⟩ := bcellB hb1; have hz1 := hb1.size; (try simp only [World.size_alloc] at hc1 hf1 hz1); (try have hy1_r_0 : wr.heap.size < w1.heap.size := by omega); (try have hn1_r_0 : wr.heap.size ≠ w1.heap.size := by omega); (try have hm1_r_0 : w1.heap.size ≠ wr.heap.size := by omega); (try have hy1_r_1 : wr.heap.size + 1 < w1.heap.size := by omega); (try have hn1_r_1 : wr.heap.size + 1 ≠ w1.heap.size := by omega); (try have hm1_r_1 : w1.heap.size ≠ wr.heap.size + 1 := by omega); (try have hy1_r_2 : wr.heap.size + 1 + 1 < w1.heap.size := by omega); (try have hp1_r_1 : wr.heap.size < w1.heap.size + 1 := by omega); (try have hp1_r_2 : wr.heap.size < w1.heap.size + 1 + 1 := by omega); (try have hy1_0_0 : w.heap.size < w1.heap.size := by omega); (try have hn1_0_0 : w.heap.size ≠ w1.heap.size := by omega); (try have hm1_0_0 : w1.heap.size ≠ w.heap.size := by omega); (try have hy1_0_1 : w.heap.size + 1 < w1.heap.size := by omega); (try have hn1_0_1 : w.heap.size + 1 ≠ w1.heap.size := by omega); (try have hm1_0_1 : w1.heap.size ≠ w.heap.size + 1 := by omega); (try have hy1_0_2 : w.heap.size + 1 + 1 < w1.heap.size := by omega); (try have hp1_0_1 : w.heap.size < w1.heap.size + 1 := by omega); (try have hp1_0_2 : w.heap.size < w1.heap.size + 1 + 1 := by omega); (try have hg1_g1 : g1 < w1.heap.size := by omega); (try have hi1_g1 : g1 ≠ w1.heap.size := by omega); (try have hj1_g1 : w1.heap.size ≠ g1 := by omega); (try have hk1_g1 : g1 < w1.heap.size + 1 := by omega); (try have hg1_g2 : g2 < w1.heap.size := by omega); (try have hi1_g2 : g2 ≠ w1.heap.size := by omega); (try have hj1_g2 : w1.heap.size ≠ g2 := by omega); (try have hk1_g2 : g2 < w1.heap.size + 1 := by omega))
    go_ret2
    rw [E.out]
    exact ⟨_, rfl, OwnI.empty _ _, by (repeat' (first | (with_reducible exact Below.refl _ _) | (with_reducible assumption) | (with_reducible refine Below.drew ?_) | (with_reducible refine belowDrewN ?_ _) | (with_reducible refine Below.alloc ?_ ?_ _) | (with_reducible refine Below.setCell ?_ ?_ _) | (with_reducible refine belowStep (by assumption) ?_ ?_) | (with_reducible exact Below.size (by assumption)) | go_size))⟩
  | true =>
    obtain ⟨hg, hlt⟩ := belowB_yes h
    have EN : Hid (walkR (stG pick0) 24 0 n d = none → nmO n d = none) := Lib.hid (fun hw => by unfold nmO; rw [if_pos h, hw]; rfl)
    have ES : Hid (∀ es, walkR (stG pick0) 24 0 n d = some es → nmO n d = some (((n, d) :: es.map (·.2)).map (·.1))) := Lib.hid (fun es hw => by unfold nmO; rw [if_pos h, hw]; simp [numsOf])
    have HW := Lib.hid fun (w : World) => walk_any 33 #[] (stG pick0) (fun _ _ => True) none 0 n d w (by simp) (fun _ _ _ _ _ => trivial) (fun _ _ => rfl) (fun l n d w1 hg hn _ _ _ => greedyStep_R l n d w1 hg hn) hg (by omega) (by omega) trivial
    obtain ⟨i0, hi, hz0, hz1', hz2'⟩ := info_parts intInfo
    go_enter Try.func31, Try.ntmps31
    go_wp2_with (go_at_call 65; refine (isBelowOne_any _ _ _ rn rd).mono ?_; rintro e w1 ⟨rfl, hb1⟩; obtain ⟨hc1, hf1⟩ := bcellB hb1; have hz1 := hb1.size; (try simp only [World.size_alloc] at hc1 hf1 hz1); (try have hy1_r_0 : wr.heap.size < w1.heap.size := by omega); (try have hn1_r_0 : wr.heap.size ≠ w1.heap.size := by omega); (try have hm1_r_0 : w1.heap.size ≠ wr.heap.size := by omega); (try have hy1_r_1 : wr.heap.size + 1 < w1.heap.size := by omega); (try have hn1_r_1 : wr.heap.size + 1 ≠ w1.heap.size := by omega); (try have hm1_r_1 : w1.heap.size ≠ wr.heap.size + 1 := by omega); (try have hy1_r_2 : wr.heap.size + 1 + 1 < w1.heap.size := by omega); (try have hp1_r_1 : wr.heap.size < w1.heap.size + 1 := by omega); (try have hp1_r_2 : wr.heap.size < w1.heap.size + 1 + 1 := by omega); (try have hy1_0_0 : w.heap.size < w1.heap.size := by omega); (try have hn1_0_0 : w.heap.size ≠ w1.heap.size := by omega); (try have hm1_0_0 : w1.heap.size ≠ w.heap.size := by omega); (try have hy1_0_1 : w.heap.size + 1 < w1.heap.size := by omega); (try have hn1_0_1 : w.heap.size + 1 ≠ w1.heap.size := by omega); (try have hm1_0_1 : w1.heap.size ≠ w.heap.size + 1 := by omega); (try have hy1_0_2 : w.heap.size + 1 + 1 < w1.heap.size := by omega); (try have hp1_0_1 : w.heap.size < w1.heap.size + 1 := by omega); (try have hp1_0_2 : w.heap.size < w1.heap.size + 1 + 1 := by omega); (try have hg1_g1 : g1 < w1.heap.size := by omega); (try have hi1_g1 : g1 ≠ w1.heap.size := by omega); (try have hj1_g1 : w1.heap.size ≠ g1 := by omega); (try have hk1_g1 : g1 < w1.heap.size + 1 := by omega); (try have hg1_g2 : g2 < w1.heap.size := by omega); (try have hi1_g2 : g2 ≠ w1.heap.size := by omega); (try have hj1_g2 : w1.heap.size ≠ g2 := by omega); (try have hk1_g2 : g2 < w1.heap.size + 1 := by omega))
    refine (HW.out _).mono ?_
    rintro e w2 ⟨hg2, h2⟩
    have hb2 : Below w1.heap.size w1 w2 := (Below.refl _ _).grown hg2 (Nat.le_refl _) (by simp)
    have hz2 := hb2.size
    have hb2' : Below w.heap.size w w2 := by (repeat' (first | (with_reducible exact Below.refl _ _) | (with_reducible assumption) | (with_reducible refine Below.drew ?_) | (with_reducible refine belowDrewN ?_ _) | (with_reducible refine Below.alloc ?_ ?_ _) | (with_reducible refine Below.setCell ?_ ?_ _) | (with_reducible refine belowStep (by assumption) ?_ ?_) | (with_reducible exact Below.size (by assumption)) | go_size))
    clear hg2
    rcases h2 with ⟨es, v1, v2, hw, hl, rfl, ho1, ho2⟩ | ⟨hw, rfl⟩
    · have E := Lib.hid (ES.out es hw)
      have hfl : ((n, d) :: es.map (·.2)).length ≤ 25 := by simp; omega
      obtain ⟨A2, c2, e2⟩ := ho2.form
      subst e2
      generalize (n, d) :: es.map (·.2) = fs at *
      have Ho2 := Lib.hid ho2
      have hyl : Hid ((fs.map (·.1)).length = fs.length) := Lib.hid (by simp)
      clear ho1 ho2 hw
      go_wp2_with (at_make; refine wpList_make_full _ rfl _ _ 24 rfl w2.heap.size 3 i0 (.int .i64 0) 1 Try.underlying24 hi hz0 hz1' .i64 .i64 _ _ fs.length rfl rfl rfl rfl (by rw [hz2']; omega) (by unfold maxLen; omega) (Nat.le_refl _) ?_; intro w3 hown3 hgrow3)
      have hown : OwnI w3 w2.heap.size (.slice (some ⟨w2.heap.size, 0, none⟩) fs.length fs.length) (filled (fs.map (·.1)) 0) := by
        unfold OwnI
        rw [filled_len _ _ (Nat.zero_le _), filled_none, List.map_replicate, hyl.out]
        rw [show (Value.int IntKind.i64 0).cells = #[Value.int IntKind.i64 0] from rfl, Nat.mul_one, toList_madeCells_one] at hown3
        exact hown3
      have hb3 : Below w2.heap.size w2 w3 := (Below.refl _ _).grown hgrow3 (Nat.le_refl _) (by simp)
      clear hown3 hgrow3
      go_loopw [26] (fun v26 wr => ∃ k : Nat, k ≤ fs.length ∧ v26 = .int .i64 k ∧ OwnI wr w2.heap.size (.slice (some ⟨w2.heap.size, 0, none⟩) fs.length fs.length) (filled (fs.map (·.1)) k) ∧ Below w2.heap.size w2 wr) (fun v26 _ => fs.length - (intOf v26).toNat)
      case atStart => exact ⟨0, Nat.zero_le _, rfl, hown, hb3⟩
      case round =>
        obtain ⟨k, hk, rfl, ho, hbr⟩ := hrel
        have hzr := hbr.size
        by_cases hlt : k < fs.length
        · obtain ⟨b, rfl, hb, hcA, hcB⟩ := (Ho2.out.below hbr).at_ (List.getElem?_eq_getElem hlt)
          obtain ⟨⟨x, y⟩, hp⟩ : ∃ p, fs[k] = p := ⟨_, rfl⟩
          rw [hp] at hcA hcB
          have Hx : Hid ((fs.map (·.1))[k]? = some x) := Lib.hid (by rw [List.getElem?_map, List.getElem?_eq_getElem hlt, hp]; rfl)
          obtain ⟨hC, hF⟩ := ho.cell_ (by rw [filled_len _ _ (by rw [hyl.out]; omega), hyl.out]) (filled_at (fs.map (·.1)) k (by rw [hyl.out]; exact hlt))
          have hlt2 : w2.heap.size < wr.heap.size := (ho.block w2.heap.size rfl).2
          have hne1 : wr.heap.size ≠ w2.heap.size := by omega
          have hne2 : w2.heap.size ≠ wr.heap.size := by omega
          have Ho := Lib.hid ho
          clear ho hp
          go_wp2
          go_roundw
          case rel => exact ⟨k + 1, by omega, by go_num, by
              rw [← filled_set (fs.map (·.1)) k x Hx.out]
              exact (Ho.out.set_ (by rw [filled_len _ _ (by rw [hyl.out]; omega), hyl.out]) k x).below ((Below.refl _ _).alloc (Nat.le_refl _) _), by (repeat' (first | (with_reducible exact Below.refl _ _) | (with_reducible assumption) | (with_reducible refine Below.drew ?_) | (with_reducible refine belowDrewN ?_ _) | (with_reducible refine Below.alloc ?_ ?_ _) | (with_reducible refine Below.setCell ?_ ?_ _) | (with_reducible refine belowStep (by assumption) ?_ ?_) | (with_reducible exact Below.size (by assumption)) | go_size))⟩
          case measure => simp [intOf]; omega
        · obtain rfl : k = fs.length := by omega
          have ho' : OwnI wr w2.heap.size (.slice (some ⟨w2.heap.size, 0, none⟩) fs.length fs.length) (fs.map (·.1)) := by
            have := filled_all (fs.map (·.1))
            rw [hyl.out] at this
            rw [this] at ho
            exact ho
          have Ho := Lib.hid ho'
          clear ho ho'
          go_wp2
          go_ret2
          rw [E.out]
          exact ⟨_, rfl, Ho.out.mono (by (first | (go_size; done) | ((try simp only [World.size_alloc, World.size_setCell, World.size_drew, World.heap_drewN]); omega))), by (repeat' (first | (with_reducible exact Below.refl _ _) | (with_reducible assumption) | (with_reducible refine Below.drew ?_) | (with_reducible refine belowDrewN ?_ _) | (with_reducible refine Below.alloc ?_ ?_ _) | (with_reducible refine Below.setCell ?_ ?_ _) | (with_reducible refine belowStep (by assumption) ?_ ?_) | (with_reducible exact Below.size (by assumption)) | go_size))⟩
    · have E := Lib.hid (EN.out hw)
      go_wp2
      go_ret2
      rw [E.out]
      exact ⟨_, rfl, OwnI.empty _ _, by (repeat' (first | (with_reducible exact Below.refl _ _) | (with_reducible assumption) | (with_reducible refine Below.drew ?_) | (with_reducible refine belowDrewN ?_ _) | (with_reducible refine Below.alloc ?_ ?_ _) | (with_reducible refine Below.setCell ?_ ?_ _) | (with_reducible refine belowStep (by assumption) ?_ ?_) | (with_reducible exact Below.size (by assumption)) | go_size))⟩
end Go.Proofs.Ytbjblkfibinenac
