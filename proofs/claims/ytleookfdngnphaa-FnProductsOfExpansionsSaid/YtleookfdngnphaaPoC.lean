
/-
  The contracts of ProductOf, HalvesOf and TwoThirdsOf in the program.
-/
import Derived.Test.YtleookfdngnphaaPoP
import Derived.Test.YtleookfdngnphaaSortC
import Derived.Test.YtleookfdngnphaaSum2
import Derived.Test.YtleookfdngnphaaIfExp
namespace Go.Proofs.Ytleookfdngnphaa
open Go.RowKit
theorem OwnI.ne_nil {w : World} {base : Nat} {v : Value} {xs : List Int} (h : OwnI w base v xs) (hl : 0 < xs.length) : v ≠ .slice none 0 0 := by
  obtain ⟨A, c, rfl, _⟩ := h.form
  intro e
  injection e with _ e
  omega
theorem sort_ownN (w : World) (base : Nat) (v : Value) (xs : List Int) (ho : OwnI w base v xs) (hv : v ≠ .slice none 0 0) (hl : xs.length ≤ 100000) : Calls Try.prog 136 #[v] w (SortP w base v xs) := by
  have ho' := ho
  rcases ho.2 with ⟨e, hz⟩ | ⟨g, cap, cur, rfl, hbg, hg, hnc, hcm, hcs, ht⟩
  · exact absurd e hv
  · have hlt := (ho'.block g rfl).2
    have hH := holds_of_blockI (ss := xs) hg (by simpa using ht)
    refine (Try.slices_Sort_int g 0 cap xs w hH hlt (by omega)).mono ?_
    rintro e w' ⟨rfl, n, os, rfl⟩
    refine ⟨rfl, ?_, grownBy_sortedI _⟩
    have := ownsRow_sortedI (n := n) (os := os) (ts := srt xs) (ss := xs) (srt_len xs) hbg hg hnc hcm hcs
    unfold OwnI
    rw [srt_len]
    exact this
set_option maxRecDepth 100000 in
set_option maxHeartbeats 8000000 in
theorem product_any (w : World) (Axs : Option Addr) (cxs : Nat) (xs : List Int) (hxs : Reads w Axs xs) (lxs : xs.length ≤ 1048576) (Ays : Option Addr) (cys : Nat) (ys : List Int) (hys : Reads w Ays ys) (lys : ys.length ≤ 1048576) (r64 : In64 xs) (s64 : In64 ys) : Calls Try.prog 44 #[.slice Axs xs.length cxs, .slice Ays ys.length cys] w (RetLB ((poO xs ys).getD []) (poO xs ys).isSome w) := by
  have Hxs := Lib.hid hxs
  have Hys := Lib.hid hys
  have HE := Lib.hid fun (w : World) (h : Reads w Axs xs) => isExpansion_any w Axs cxs xs h lxs r64
  have HF := Lib.hid fun (w : World) (h : Reads w Ays ys) => isExpansion_any w Ays cys ys h lys s64
  clear hxs hys r64 s64
  cases hx : expB xs with
  | false =>
    have E := Lib.hid (poO_a (b := ys) hx)
    rw [hx] at HE
    clear hx
    rw [E.out]
    go_enter Try.func44, Try.ntmps44
    go_wp2_with fail
    refine (HE.out _ Hxs.out).mono ?_; rintro e w1 ⟨rfl, hb1⟩; obtain ⟨hc1, hf1⟩ := bcellB hb1; have hz1 := hb1.size; (try simp only [World.size_alloc, World.size_setCell, World.size_drew, World.heap_drewN] at hc1 hf1 hz1); (try have hy1_r_0 : wr.heap.size < w1.heap.size := by omega); (try have hn1_r_0 : wr.heap.size ≠ w1.heap.size := by omega); (try have hm1_r_0 : w1.heap.size ≠ wr.heap.size := by omega); (try have hy1_r_1 : wr.heap.size + 1 < w1.heap.size := by omega); (try have hn1_r_1 : wr.heap.size + 1 ≠ w1.heap.size := by omega); (try have hm1_r_1 : w1.heap.size ≠ wr.heap.size + 1 := by omega); (try have hy1_r_2 : wr.heap.size + 1 + 1 < w1.heap.size := by omega); (try have hp1_r_1 : wr.heap.size < w1.heap.size + 1 := by omega); (try have hp1_r_2 : wr.heap.size < w1.heap.size + 1 + 1 := by omega); (try have hy1_0_0 : w.heap.size < w1.heap.size := by omega); (try have hn1_0_0 : w.heap.size ≠ w1.heap.size := by omega); (try have hm1_0_0 : w1.heap.size ≠ w.heap.size := by omega); (try have hy1_0_1 : w.heap.size + 1 < w1.heap.size := by omega); (try have hn1_0_1 : w.heap.size + 1 ≠ w1.heap.size := by omega); (try have hm1_0_1 : w1.heap.size ≠ w.heap.size + 1 := by omega); (try have hy1_0_2 : w.heap.size + 1 + 1 < w1.heap.size := by omega); (try have hp1_0_1 : w.heap.size < w1.heap.size + 1 := by omega); (try have hp1_0_2 : w.heap.size < w1.heap.size + 1 + 1 := by omega); (try have hg1_g1 : g1 < w1.heap.size := by omega); (try have hi1_g1 : g1 ≠ w1.heap.size := by omega); (try have hj1_g1 : w1.heap.size ≠ g1 := by omega); (try have hk1_g1 : g1 < w1.heap.size + 1 := by omega); (try have hg1_g2 : g2 < w1.heap.size := by omega); (try have hi1_g2 : g2 ≠ w1.heap.size := by omega); (try have hj1_g2 : w1.heap.size ≠ g2 := by omega); (try have hk1_g2 : g2 < w1.heap.size + 1 := by omega)
    go_wp2
    go_ret2
    exact ⟨_, rfl, OwnI.empty _ _, by (repeat' (first | (with_reducible exact Below.refl _ _) | (with_reducible assumption) | (with_reducible refine Below.drew ?_) | (with_reducible refine belowDrewN ?_ _) | (with_reducible refine Below.alloc ?_ ?_ _) | (with_reducible refine Below.setCell ?_ ?_ _) | (with_reducible refine belowStep (by assumption) ?_ ?_) | (with_reducible exact Below.size (by assumption)) | go_size))⟩
  | true =>
    cases hy : expB ys with
    | false =>
      have E := Lib.hid (poO_b (a := xs) hy)
      rw [hx] at HE
      rw [hy] at HF
      clear hx hy
      rw [E.out]
      go_enter Try.func44, Try.ntmps44
      go_wp2_with fail
      refine (HE.out _ Hxs.out).mono ?_; rintro e w1 ⟨rfl, hb1⟩; obtain ⟨hc1, hf1⟩ := bcellB hb1; have hz1 := hb1.size; (try simp only [World.size_alloc, World.size_setCell, World.size_drew, World.heap_drewN] at hc1 hf1 hz1); (try have hy1_r_0 : wr.heap.size < w1.heap.size := by omega); (try have hn1_r_0 : wr.heap.size ≠ w1.heap.size := by omega); (try have hm1_r_0 : w1.heap.size ≠ wr.heap.size := by omega); (try have hy1_r_1 : wr.heap.size + 1 < w1.heap.size := by omega); (try have hn1_r_1 : wr.heap.size + 1 ≠ w1.heap.size := by omega); (try have hm1_r_1 : w1.heap.size ≠ wr.heap.size + 1 := by omega); (try have hy1_r_2 : wr.heap.size + 1 + 1 < w1.heap.size := by omega); (try have hp1_r_1 : wr.heap.size < w1.heap.size + 1 := by omega); (try have hp1_r_2 : wr.heap.size < w1.heap.size + 1 + 1 := by omega); (try have hy1_0_0 : w.heap.size < w1.heap.size := by omega); (try have hn1_0_0 : w.heap.size ≠ w1.heap.size := by omega); (try have hm1_0_0 : w1.heap.size ≠ w.heap.size := by omega); (try have hy1_0_1 : w.heap.size + 1 < w1.heap.size := by omega); (try have hn1_0_1 : w.heap.size + 1 ≠ w1.heap.size := by omega); (try have hm1_0_1 : w1.heap.size ≠ w.heap.size + 1 := by omega); (try have hy1_0_2 : w.heap.size + 1 + 1 < w1.heap.size := by omega); (try have hp1_0_1 : w.heap.size < w1.heap.size + 1 := by omega); (try have hp1_0_2 : w.heap.size < w1.heap.size + 1 + 1 := by omega); (try have hg1_g1 : g1 < w1.heap.size := by omega); (try have hi1_g1 : g1 ≠ w1.heap.size := by omega); (try have hj1_g1 : w1.heap.size ≠ g1 := by omega); (try have hk1_g1 : g1 < w1.heap.size + 1 := by omega); (try have hg1_g2 : g2 < w1.heap.size := by omega); (try have hi1_g2 : g2 ≠ w1.heap.size := by omega); (try have hj1_g2 : w1.heap.size ≠ g2 := by omega); (try have hk1_g2 : g2 < w1.heap.size + 1 := by omega)
      go_wp2_with fail
      refine (HF.out _ (Hys.out.below (by (repeat' (first | (with_reducible exact Below.refl _ _) | (with_reducible assumption) | (with_reducible refine Below.drew ?_) | (with_reducible refine belowDrewN ?_ _) | (with_reducible refine Below.alloc ?_ ?_ _) | (with_reducible refine Below.setCell ?_ ?_ _) | (with_reducible refine belowStep (by assumption) ?_ ?_) | (with_reducible exact Below.size (by assumption)) | go_size))))).mono ?_; rintro e w2 ⟨rfl, hb2⟩; obtain ⟨hc2, hf2⟩ := bcellB hb2; have hz2 := hb2.size; (try simp only [World.size_alloc, World.size_setCell, World.size_drew, World.heap_drewN] at hc2 hf2 hz2); (try have hy2_r_0 : wr.heap.size < w2.heap.size := by omega); (try have hn2_r_0 : wr.heap.size ≠ w2.heap.size := by omega); (try have hm2_r_0 : w2.heap.size ≠ wr.heap.size := by omega); (try have hy2_r_1 : wr.heap.size + 1 < w2.heap.size := by omega); (try have hn2_r_1 : wr.heap.size + 1 ≠ w2.heap.size := by omega); (try have hm2_r_1 : w2.heap.size ≠ wr.heap.size + 1 := by omega); (try have hy2_r_2 : wr.heap.size + 1 + 1 < w2.heap.size := by omega); (try have hp2_r_1 : wr.heap.size < w2.heap.size + 1 := by omega); (try have hp2_r_2 : wr.heap.size < w2.heap.size + 1 + 1 := by omega); (try have hy2_0_0 : w.heap.size < w2.heap.size := by omega); (try have hn2_0_0 : w.heap.size ≠ w2.heap.size := by omega); (try have hm2_0_0 : w2.heap.size ≠ w.heap.size := by omega); (try have hy2_0_1 : w.heap.size + 1 < w2.heap.size := by omega); (try have hn2_0_1 : w.heap.size + 1 ≠ w2.heap.size := by omega); (try have hm2_0_1 : w2.heap.size ≠ w.heap.size + 1 := by omega); (try have hy2_0_2 : w.heap.size + 1 + 1 < w2.heap.size := by omega); (try have hp2_0_1 : w.heap.size < w2.heap.size + 1 := by omega); (try have hp2_0_2 : w.heap.size < w2.heap.size + 1 + 1 := by omega); (try have hy2_1_0 : w1.heap.size < w2.heap.size := by omega); (try have hn2_1_0 : w1.heap.size ≠ w2.heap.size := by omega); (try have hm2_1_0 : w2.heap.size ≠ w1.heap.size := by omega); (try have hy2_1_1 : w1.heap.size + 1 < w2.heap.size := by omega); (try have hn2_1_1 : w1.heap.size + 1 ≠ w2.heap.size := by omega); (try have hm2_1_1 : w2.heap.size ≠ w1.heap.size + 1 := by omega); (try have hy2_1_2 : w1.heap.size + 1 + 1 < w2.heap.size := by omega); (try have hp2_1_1 : w1.heap.size < w2.heap.size + 1 := by omega); (try have hp2_1_2 : w1.heap.size < w2.heap.size + 1 + 1 := by omega); (try have hg2_g1 : g1 < w2.heap.size := by omega); (try have hi2_g1 : g1 ≠ w2.heap.size := by omega); (try have hj2_g1 : w2.heap.size ≠ g1 := by omega); (try have hk2_g1 : g1 < w2.heap.size + 1 := by omega); (try have hg2_g2 : g2 < w2.heap.size := by omega); (try have hi2_g2 : g2 ≠ w2.heap.size := by omega); (try have hj2_g2 : w2.heap.size ≠ g2 := by omega); (try have hk2_g2 : g2 < w2.heap.size + 1 := by omega)
      go_wp2
      go_ret2
      exact ⟨_, rfl, OwnI.empty _ _, by (repeat' (first | (with_reducible exact Below.refl _ _) | (with_reducible assumption) | (with_reducible refine Below.drew ?_) | (with_reducible refine belowDrewN ?_ _) | (with_reducible refine Below.alloc ?_ ?_ _) | (with_reducible refine Below.setCell ?_ ?_ _) | (with_reducible refine belowStep (by assumption) ?_ ?_) | (with_reducible exact Below.size (by assumption)) | go_size))⟩
    | true =>
      have HPI := Lib.hid (prd_in hx hy)
      have HP64 := Lib.hid (prd_64 hx hy)
      have HSX := Lib.hid (expB_small hx)
      have HSY := Lib.hid (expB_small hy)
      have HTL := Lib.hid fun (i j : Nat) (d : Int) (hi : i ≤ xs.length) (hj : j ≤ ys.length) => prT_len (d := d) hx hy hi hj
      have HPL : (prd xs ys).length ≤ 600 := by
        have h1 := expB_len hx
        have h2 := expB_len hy
        have := Nat.mul_le_mul h1 h2
        rw [prd_len]
        omega
      have HY := Lib.hid fun h => poO_yes hx hy h
      have HN := Lib.hid fun h => poO_no (a := xs) (b := ys) h
      have lx24 := expB_len hx
      have ly24 := expB_len hy
      rw [hx] at HE
      rw [hy] at HF
      clear hx hy
      go_enter Try.func44, Try.ntmps44
      go_wp2_with fail
      refine (HE.out _ Hxs.out).mono ?_; rintro e w1 ⟨rfl, hb1⟩; obtain ⟨hc1, hf1⟩ := bcellB hb1; have hz1 := hb1.size; (try simp only [World.size_alloc, World.size_setCell, World.size_drew, World.heap_drewN] at hc1 hf1 hz1); (try have hy1_r_0 : wr.heap.size < w1.heap.size := by omega); (try have hn1_r_0 : wr.heap.size ≠ w1.heap.size := by omega); (try have hm1_r_0 : w1.heap.size ≠ wr.heap.size := by omega); (try have hy1_r_1 : wr.heap.size + 1 < w1.heap.size := by omega); (try have hn1_r_1 : wr.heap.size + 1 ≠ w1.heap.size := by omega); (try have hm1_r_1 : w1.heap.size ≠ wr.heap.size + 1 := by omega); (try have hy1_r_2 : wr.heap.size + 1 + 1 < w1.heap.size := by omega); (try have hp1_r_1 : wr.heap.size < w1.heap.size + 1 := by omega); (try have hp1_r_2 : wr.heap.size < w1.heap.size + 1 + 1 := by omega); (try have hy1_0_0 : w.heap.size < w1.heap.size := by omega); (try have hn1_0_0 : w.heap.size ≠ w1.heap.size := by omega); (try have hm1_0_0 : w1.heap.size ≠ w.heap.size := by omega); (try have hy1_0_1 : w.heap.size + 1 < w1.heap.size := by omega); (try have hn1_0_1 : w.heap.size + 1 ≠ w1.heap.size := by omega); (try have hm1_0_1 : w1.heap.size ≠ w.heap.size + 1 := by omega); (try have hy1_0_2 : w.heap.size + 1 + 1 < w1.heap.size := by omega); (try have hp1_0_1 : w.heap.size < w1.heap.size + 1 := by omega); (try have hp1_0_2 : w.heap.size < w1.heap.size + 1 + 1 := by omega); (try have hg1_g1 : g1 < w1.heap.size := by omega); (try have hi1_g1 : g1 ≠ w1.heap.size := by omega); (try have hj1_g1 : w1.heap.size ≠ g1 := by omega); (try have hk1_g1 : g1 < w1.heap.size + 1 := by omega); (try have hg1_g2 : g2 < w1.heap.size := by omega); (try have hi1_g2 : g2 ≠ w1.heap.size := by omega); (try have hj1_g2 : w1.heap.size ≠ g2 := by omega); (try have hk1_g2 : g2 < w1.heap.size + 1 := by omega)
      go_wp2_with fail
      refine (HF.out _ (Hys.out.below (by (repeat' (first | (with_reducible exact Below.refl _ _) | (with_reducible assumption) | (with_reducible refine Below.drew ?_) | (with_reducible refine belowDrewN ?_ _) | (with_reducible refine Below.alloc ?_ ?_ _) | (with_reducible refine Below.setCell ?_ ?_ _) | (with_reducible refine belowStep (by assumption) ?_ ?_) | (with_reducible exact Below.size (by assumption)) | go_size))))).mono ?_; rintro e w2 ⟨rfl, hb2⟩; obtain ⟨hc2, hf2⟩ := bcellB hb2; have hz2 := hb2.size; (try simp only [World.size_alloc, World.size_setCell, World.size_drew, World.heap_drewN] at hc2 hf2 hz2); (try have hy2_r_0 : wr.heap.size < w2.heap.size := by omega); (try have hn2_r_0 : wr.heap.size ≠ w2.heap.size := by omega); (try have hm2_r_0 : w2.heap.size ≠ wr.heap.size := by omega); (try have hy2_r_1 : wr.heap.size + 1 < w2.heap.size := by omega); (try have hn2_r_1 : wr.heap.size + 1 ≠ w2.heap.size := by omega); (try have hm2_r_1 : w2.heap.size ≠ wr.heap.size + 1 := by omega); (try have hy2_r_2 : wr.heap.size + 1 + 1 < w2.heap.size := by omega); (try have hp2_r_1 : wr.heap.size < w2.heap.size + 1 := by omega); (try have hp2_r_2 : wr.heap.size < w2.heap.size + 1 + 1 := by omega); (try have hy2_0_0 : w.heap.size < w2.heap.size := by omega); (try have hn2_0_0 : w.heap.size ≠ w2.heap.size := by omega); (try have hm2_0_0 : w2.heap.size ≠ w.heap.size := by omega); (try have hy2_0_1 : w.heap.size + 1 < w2.heap.size := by omega); (try have hn2_0_1 : w.heap.size + 1 ≠ w2.heap.size := by omega); (try have hm2_0_1 : w2.heap.size ≠ w.heap.size + 1 := by omega); (try have hy2_0_2 : w.heap.size + 1 + 1 < w2.heap.size := by omega); (try have hp2_0_1 : w.heap.size < w2.heap.size + 1 := by omega); (try have hp2_0_2 : w.heap.size < w2.heap.size + 1 + 1 := by omega); (try have hy2_1_0 : w1.heap.size < w2.heap.size := by omega); (try have hn2_1_0 : w1.heap.size ≠ w2.heap.size := by omega); (try have hm2_1_0 : w2.heap.size ≠ w1.heap.size := by omega); (try have hy2_1_1 : w1.heap.size + 1 < w2.heap.size := by omega); (try have hn2_1_1 : w1.heap.size + 1 ≠ w2.heap.size := by omega); (try have hm2_1_1 : w2.heap.size ≠ w1.heap.size + 1 := by omega); (try have hy2_1_2 : w1.heap.size + 1 + 1 < w2.heap.size := by omega); (try have hp2_1_1 : w1.heap.size < w2.heap.size + 1 := by omega); (try have hp2_1_2 : w1.heap.size < w2.heap.size + 1 + 1 := by omega); (try have hg2_g1 : g1 < w2.heap.size := by omega); (try have hi2_g1 : g1 ≠ w2.heap.size := by omega); (try have hj2_g1 : w2.heap.size ≠ g1 := by omega); (try have hk2_g1 : g1 < w2.heap.size + 1 := by omega); (try have hg2_g2 : g2 < w2.heap.size := by omega); (try have hi2_g2 : g2 ≠ w2.heap.size := by omega); (try have hj2_g2 : w2.heap.size ≠ g2 := by omega); (try have hk2_g2 : g2 < w2.heap.size + 1 := by omega)
      go_wp2
      have hb0 : Below w.heap.size w w2 := by (repeat' (first | (with_reducible exact Below.refl _ _) | (with_reducible assumption) | (with_reducible refine Below.drew ?_) | (with_reducible refine belowDrewN ?_ _) | (with_reducible refine Below.alloc ?_ ?_ _) | (with_reducible refine Below.setCell ?_ ?_ _) | (with_reducible refine belowStep (by assumption) ?_ ?_) | (with_reducible exact Below.size (by assumption)) | go_size))
      have O0 := Lib.hid (OwnI.zero w2 w.heap.size hb0.size)
      go_loopw [6, 22] (fun v6 v22 wr => ∃ i : Nat, i ≤ xs.length ∧ v22 = .int .i64 (i : Int) ∧ OwnI wr w.heap.size v6 (prd (xs.take i) ys) ∧ Hid (v6 ≠ .slice none 0 0) ∧ Below w.heap.size w wr) (fun _ v22 _ => xs.length - (intOf v22).toNat)
      case atStart => exact ⟨0, Nat.zero_le _, rfl, O0.out, Lib.hid (by simp), by (repeat' (first | (with_reducible exact Below.refl _ _) | (with_reducible assumption) | (with_reducible refine Below.drew ?_) | (with_reducible refine belowDrewN ?_ _) | (with_reducible refine Below.alloc ?_ ?_ _) | (with_reducible refine Below.setCell ?_ ?_ _) | (with_reducible refine belowStep (by assumption) ?_ ?_) | (with_reducible exact Below.size (by assumption)) | go_size))⟩
      case round =>
        obtain ⟨i, hi, rfl, ho, hnn, hbr⟩ := hrel
        obtain ⟨wo, rfl⟩ : ∃ x, x = wr := ⟨_, rfl⟩
        have hzo := hbr.size
        have Ho := Lib.hid ho
        clear ho O0 hb0
        by_cases hlt : i < xs.length
        · obtain ⟨b9, o9, d, rfl, hbb, hd, hcell⟩ := (Hxs.out.below hbr).at_ hlt
          obtain ⟨d1, d2⟩ := HSX.out d (List.mem_of_getElem? hd)
          have Hd := Lib.hid hd
          clear hd
          rw [← prT_zero xs ys i d] at Ho
          go_wp2
          go_loopw [6, 28] (fun v6 v28 wr => ∃ j : Nat, j ≤ ys.length ∧ v28 = .int .i64 (j : Int) ∧ OwnI wr w.heap.size v6 (prT xs ys i d j) ∧ Hid (v6 ≠ .slice none 0 0) ∧ Below w.heap.size w wr) (fun _ v28 _ => ys.length - (intOf v28).toNat)
          case atStart => exact ⟨0, Nat.zero_le _, rfl, Ho.out, hnn, by (repeat' (first | (with_reducible exact Below.refl _ _) | (with_reducible assumption) | (with_reducible refine Below.drew ?_) | (with_reducible refine belowDrewN ?_ _) | (with_reducible refine Below.alloc ?_ ?_ _) | (with_reducible refine Below.setCell ?_ ?_ _) | (with_reducible refine belowStep (by assumption) ?_ ?_) | (with_reducible exact Below.size (by assumption)) | go_size))⟩
          case round =>
            obtain ⟨j, hj, rfl, ho, hnn, hbr⟩ := hrel
            have hzr := hbr.size
            have Hi := Lib.hid ho
            have htl := HTL.out i j d hi hj
            clear ho Ho
            by_cases hlj : j < ys.length
            · obtain ⟨b8, o8, e, rfl, hb8, he, hcell8⟩ := (Hys.out.below hbr).at_ hlj
              obtain ⟨e1, e2⟩ := HSY.out e (List.mem_of_getElem? he)
              have HT := Lib.hid (prT_next (a := xs) (i := i) (d := d) he)
              have p1 := mul_bounds (by omega : 0 ≤ d) d2 (by omega : 0 ≤ e) e2
              clear he
              generalize prT xs ys i d j = ts at *
              go_wp2_with (at_builtin; refine wpList_app _ (o := ⟨some 37, _, _, _, _, _⟩) (ys := [d * e]) rfl _ _ rfl rfl (OwnI.below Hi.out ((Below.refl _ _).alloc (Nat.le_refl _) _)) (1) (1) (by first | (simp; done) | (simp; omega)) rfl (Reads.one _ (d * e)) (by (try simp only [List.length_nil, List.length_cons]); omega) (by first | exact Nat.le_refl _ | ((try simp only [World.size_alloc]); omega)) ?_; intro v16 w16 ho16 hb16 hg16 ht16; clear hg16 ht16; have hz16 := hb16.size; (try simp only [World.size_alloc] at hz16))
              go_roundw
              case rel => exact ⟨j + 1, by omega, by go_num, by rw [HT.out]; exact ho16, Lib.hid (ho16.ne_nil (by simp)), by (repeat' (first | (with_reducible exact Below.refl _ _) | (with_reducible assumption) | (with_reducible refine Below.drew ?_) | (with_reducible refine belowDrewN ?_ _) | (with_reducible refine Below.alloc ?_ ?_ _) | (with_reducible refine Below.setCell ?_ ?_ _) | (with_reducible refine belowStep (by assumption) ?_ ?_) | (with_reducible exact Below.size (by assumption)) | go_size))⟩
              case measure => simp [intOf]; omega
            · obtain rfl : j = ys.length := by omega
              rw [prT_all Hd.out] at Hi
              have hi1 : i + 1 ≤ xs.length := by omega
              clear htl
              go_wp2
              go_roundw
              case rel => exact ⟨i + 1, hi1, by go_num, Hi.out, hnn, by (repeat' (first | (with_reducible exact Below.refl _ _) | (with_reducible assumption) | (with_reducible refine Below.drew ?_) | (with_reducible refine belowDrewN ?_ _) | (with_reducible refine Below.alloc ?_ ?_ _) | (with_reducible refine Below.setCell ?_ ?_ _) | (with_reducible refine belowStep (by assumption) ?_ ?_) | (with_reducible exact Below.size (by assumption)) | go_size))⟩
              case measure => simp [intOf]; omega
        · obtain rfl : i = xs.length := by omega
          rw [List.take_length] at Ho
          have HV := Lib.hid (sort_ownN _ w.heap.size _ (prd xs ys) Ho.out hnn.out (by omega))
          go_wp2_with fail
          refine HV.out.mono ?_; rintro e w16 ⟨rfl, ho16, hg16⟩
          have hb16 : Below w.heap.size wo w16 := (Below.refl _ _).grown hg16 hzo (fun j hj => (Ho.out.block j hj).1)
          have hz16 := hb16.size
          obtain ⟨A16, c16, rfl, hr16⟩ := ho16.form
          have O16 := Lib.hid ho16
          have R16 := Lib.hid hr16
          have S64 := Lib.hid (srt_64 HP64.out)
          have hsl : (srt (prd xs ys)).length ≤ 600 := by rw [srt_len]; exact HPL
          clear hg16 ho16 hr16 HV Ho
          generalize poO xs ys = po at *
          generalize srt (prd xs ys) = zs at *
          cases he : expB zs with
          | true =>
            have E : Hid (po = some zs) := Lib.hid (HY.out he)
            have HI := Lib.hid fun (w : World) (h : Reads w A16 zs) => ifExp_yes w A16 c16 zs h (by omega) S64.out he
            clear HY HN he
            go_wp2_with fail
            refine (HI.out _ R16.out).mono ?_; rintro e w17 ⟨rfl, hb17⟩; have hz17 := hb17.size; (try simp only [World.size_alloc, World.size_setCell, World.size_drew, World.heap_drewN] at hz17)
            go_wp2
            go_ret2
            rw [E.out]
            exact ⟨_, rfl, O16.out.below hb17, by (repeat' (first | (with_reducible exact Below.refl _ _) | (with_reducible assumption) | (with_reducible refine Below.drew ?_) | (with_reducible refine belowDrewN ?_ _) | (with_reducible refine Below.alloc ?_ ?_ _) | (with_reducible refine Below.setCell ?_ ?_ _) | (with_reducible refine belowStep (by assumption) ?_ ?_) | (with_reducible exact Below.size (by assumption)) | go_size))⟩
          | false =>
            have E : Hid (po = none) := Lib.hid (HN.out he)
            have HI := Lib.hid fun (w : World) (h : Reads w A16 zs) => ifExp_no w A16 c16 zs h (by omega) S64.out he
            clear HY HN he
            go_wp2_with fail
            refine (HI.out _ R16.out).mono ?_; rintro e w17 ⟨rfl, hb17⟩; have hz17 := hb17.size; (try simp only [World.size_alloc, World.size_setCell, World.size_drew, World.heap_drewN] at hz17)
            go_wp2
            go_ret2
            rw [E.out]
            exact ⟨_, rfl, OwnI.empty _ _, by (repeat' (first | (with_reducible exact Below.refl _ _) | (with_reducible assumption) | (with_reducible refine Below.drew ?_) | (with_reducible refine belowDrewN ?_ _) | (with_reducible refine Below.alloc ?_ ?_ _) | (with_reducible refine Below.setCell ?_ ?_ _) | (with_reducible refine belowStep (by assumption) ?_ ?_) | (with_reducible exact Below.size (by assumption)) | go_size))⟩
theorem Reads.twoP (w : World) (x y : Int) : Reads (w.alloc (.cells #[.int .i64 x, .int .i64 y] 3)) (some ⟨w.heap.size, 0, none⟩) [x, y] := fun _ =>
  ⟨w.heap.size, 0, rfl, by simp, fun k z hz => by
    rw [cell_of_row _ w.heap.size _ _ _ (0, 0) (heap_alloc_new w _)]
    rcases k with _ | _ | k
    · simp at hz; subst hz; rfl
    · simp at hz; subst hz; rfl
    · simp at hz⟩
theorem in64_2 : In64 [2] := In64.of_mem (by simp)
theorem in64_26 : In64 [2, 6] := In64.of_mem (by simp)
set_option maxHeartbeats 2000000 in
theorem halves_any (w : World) (Axs : Option Addr) (cxs : Nat) (xs : List Int) (hxs : Reads w Axs xs) (lxs : xs.length ≤ 1048576) (r64 : In64 xs) : Calls Try.prog 48 #[.slice Axs xs.length cxs] w (RetLB ((poO xs [2]).getD []) (poO xs [2]).isSome w) := by
  have Hxs := Lib.hid hxs
  have HP := Lib.hid fun (w : World) (A : Option Addr) (c : Nat) (h : Reads w Axs xs) (h2 : Reads w A [2]) => product_any w Axs cxs xs h lxs A c [2] h2 (by simp) r64 in64_2
  clear hxs r64
  generalize poO xs [2] = o at *
  go_enter Try.func48, Try.ntmps48
  go_wp2_with fail
  refine (HP.out _ _ _ (Hxs.out.below (by (repeat' (first | (with_reducible exact Below.refl _ _) | (with_reducible assumption) | (with_reducible refine Below.drew ?_) | (with_reducible refine belowDrewN ?_ _) | (with_reducible refine Below.alloc ?_ ?_ _) | (with_reducible refine Below.setCell ?_ ?_ _) | (with_reducible refine belowStep (by assumption) ?_ ?_) | (with_reducible exact Below.size (by assumption)) | go_size)))) (Reads.one _ 2)).mono ?_; rintro e w1 ⟨v1, rfl, ho1, hb1⟩; have hz1 := hb1.size; (try simp only [World.size_alloc] at hz1)
  go_wp2
  go_ret2
  exact ⟨_, rfl, ho1.mono (by (first | (go_size; done) | ((try simp only [World.size_alloc, World.size_setCell, World.size_drew, World.heap_drewN]); omega))), by (repeat' (first | (with_reducible exact Below.refl _ _) | (with_reducible assumption) | (with_reducible refine Below.drew ?_) | (with_reducible refine belowDrewN ?_ _) | (with_reducible refine Below.alloc ?_ ?_ _) | (with_reducible refine Below.setCell ?_ ?_ _) | (with_reducible refine belowStep (by assumption) ?_ ?_) | (with_reducible exact Below.size (by assumption)) | go_size))⟩
set_option maxHeartbeats 2000000 in
theorem twoThirds_any (w : World) (Axs : Option Addr) (cxs : Nat) (xs : List Int) (hxs : Reads w Axs xs) (lxs : xs.length ≤ 1048576) (r64 : In64 xs) : Calls Try.prog 50 #[.slice Axs xs.length cxs] w (RetLB ((poO xs [2, 6]).getD []) (poO xs [2, 6]).isSome w) := by
  have Hxs := Lib.hid hxs
  have HP := Lib.hid fun (w : World) (A : Option Addr) (c : Nat) (h : Reads w Axs xs) (h2 : Reads w A [2, 6]) => product_any w Axs cxs xs h lxs A c [2, 6] h2 (by simp) r64 in64_26
  clear hxs r64
  generalize poO xs [2, 6] = o at *
  go_enter Try.func50, Try.ntmps50
  go_wp2_with fail
  refine (HP.out _ _ _ (Hxs.out.below (by (repeat' (first | (with_reducible exact Below.refl _ _) | (with_reducible assumption) | (with_reducible refine Below.drew ?_) | (with_reducible refine belowDrewN ?_ _) | (with_reducible refine Below.alloc ?_ ?_ _) | (with_reducible refine Below.setCell ?_ ?_ _) | (with_reducible refine belowStep (by assumption) ?_ ?_) | (with_reducible exact Below.size (by assumption)) | go_size)))) (Reads.twoP _ 2 6)).mono ?_; rintro e w1 ⟨v1, rfl, ho1, hb1⟩; have hz1 := hb1.size; (try simp only [World.size_alloc] at hz1)
  go_wp2
  go_ret2
  exact ⟨_, rfl, ho1.mono (by (first | (go_size; done) | ((try simp only [World.size_alloc, World.size_setCell, World.size_drew, World.heap_drewN]); omega))), by (repeat' (first | (with_reducible exact Below.refl _ _) | (with_reducible assumption) | (with_reducible refine Below.drew ?_) | (with_reducible refine belowDrewN ?_ _) | (with_reducible refine Below.alloc ?_ ?_ _) | (with_reducible refine Below.setCell ?_ ?_ _) | (with_reducible refine belowStep (by assumption) ?_ ?_) | (with_reducible exact Below.size (by assumption)) | go_size))⟩
end Go.Proofs.Ytleookfdngnphaa
