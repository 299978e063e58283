
/-
  The contracts of ProductOf, HalvesOf and TwoThirdsOf in the model.
-/
import Derived.Test.YtleookfdngnphaaPoC
import Derived.Test.YtleookfdngnphaaOwn
import Derived.Test.YtleookfdngnphaaScale
namespace Go.Proofs.Ytleookfdngnphaa
open Go.RowKit
theorem le_quo {d e : Int} (he : 1 ≤ e) : d ≤ 1000000000 / e ↔ d * e ≤ 1000000000 := Int.le_ediv_iff_mul_le (by omega)
set_option maxRecDepth 100000 in
set_option maxHeartbeats 8000000 in
theorem spec_product_any (w : World) (Axs : Option Addr) (cxs : Nat) (xs : List Int) (hxs : Reads w Axs xs) (lxs : xs.length ≤ 1048576) (Ays : Option Addr) (cys : Nat) (ys : List Int) (hys : Reads w Ays ys) (lys : ys.length ≤ 1048576) : Calls Try.prog 45 #[.slice Axs xs.length cxs, .slice Ays ys.length cys] w (RetRB ((poO xs ys).getD []) (poO xs ys).isSome w) := by
  have Hxs := Lib.hid hxs
  have Hys := Lib.hid hys
  have HE := Lib.hid fun (w : World) (h : Reads w Axs xs) => unExpansion_any w Axs cxs xs h lxs
  have HF := Lib.hid fun (w : World) (h : Reads w Ays ys) => unExpansion_any w Ays cys ys h lys
  clear hxs hys
  cases hx : expB xs with
  | false =>
    have E := Lib.hid (poO_a (b := ys) hx)
    rw [hx] at HE
    clear hx
    rw [E.out]
    go_enter Try.func45, Try.ntmps45
    go_wp2_with fail
    refine (HE.out _ Hxs.out).mono ?_; rintro e w1 ⟨rfl, hb1⟩; obtain ⟨hc1, hf1⟩ := bcellB hb1; have hz1 := hb1.size; (try simp only [World.size_alloc, World.size_setCell, World.size_drew, World.heap_drewN] at hc1 hf1 hz1); (try have hy1_r_0 : wr.heap.size < w1.heap.size := by omega); (try have hn1_r_0 : wr.heap.size ≠ w1.heap.size := by omega); (try have hm1_r_0 : w1.heap.size ≠ wr.heap.size := by omega); (try have hy1_r_1 : wr.heap.size + 1 < w1.heap.size := by omega); (try have hn1_r_1 : wr.heap.size + 1 ≠ w1.heap.size := by omega); (try have hm1_r_1 : w1.heap.size ≠ wr.heap.size + 1 := by omega); (try have hy1_r_2 : wr.heap.size + 1 + 1 < w1.heap.size := by omega); (try have hp1_r_1 : wr.heap.size < w1.heap.size + 1 := by omega); (try have hp1_r_2 : wr.heap.size < w1.heap.size + 1 + 1 := by omega); (try have hy1_0_0 : w.heap.size < w1.heap.size := by omega); (try have hn1_0_0 : w.heap.size ≠ w1.heap.size := by omega); (try have hm1_0_0 : w1.heap.size ≠ w.heap.size := by omega); (try have hy1_0_1 : w.heap.size + 1 < w1.heap.size := by omega); (try have hn1_0_1 : w.heap.size + 1 ≠ w1.heap.size := by omega); (try have hm1_0_1 : w1.heap.size ≠ w.heap.size + 1 := by omega); (try have hy1_0_2 : w.heap.size + 1 + 1 < w1.heap.size := by omega); (try have hp1_0_1 : w.heap.size < w1.heap.size + 1 := by omega); (try have hp1_0_2 : w.heap.size < w1.heap.size + 1 + 1 := by omega); (try have hg1_g1 : g1 < w1.heap.size := by omega); (try have hi1_g1 : g1 ≠ w1.heap.size := by omega); (try have hj1_g1 : w1.heap.size ≠ g1 := by omega); (try have hk1_g1 : g1 < w1.heap.size + 1 := by omega); (try have hg1_g2 : g2 < w1.heap.size := by omega); (try have hi1_g2 : g2 ≠ w1.heap.size := by omega); (try have hj1_g2 : w1.heap.size ≠ g2 := by omega); (try have hk1_g2 : g2 < w1.heap.size + 1 := by omega)
    go_wp2
    go_ret2
    exact ⟨none, 0, rfl, Reads.nil, by (repeat' (first | (with_reducible exact Below.refl _ _) | (with_reducible assumption) | (with_reducible refine Below.drew ?_) | (with_reducible refine belowDrewN ?_ _) | (with_reducible refine Below.alloc ?_ ?_ _) | (with_reducible refine Below.setCell ?_ ?_ _) | (with_reducible refine belowStep (by assumption) ?_ ?_) | (with_reducible exact Below.size (by assumption)) | go_size))⟩
  | true =>
    cases hy : expB ys with
    | false =>
      have E := Lib.hid (poO_b (a := xs) hy)
      rw [hx] at HE
      rw [hy] at HF
      clear hx hy
      rw [E.out]
      go_enter Try.func45, Try.ntmps45
      go_wp2_with fail
      refine (HE.out _ Hxs.out).mono ?_; rintro e w1 ⟨rfl, hb1⟩; obtain ⟨hc1, hf1⟩ := bcellB hb1; have hz1 := hb1.size; (try simp only [World.size_alloc, World.size_setCell, World.size_drew, World.heap_drewN] at hc1 hf1 hz1); (try have hy1_r_0 : wr.heap.size < w1.heap.size := by omega); (try have hn1_r_0 : wr.heap.size ≠ w1.heap.size := by omega); (try have hm1_r_0 : w1.heap.size ≠ wr.heap.size := by omega); (try have hy1_r_1 : wr.heap.size + 1 < w1.heap.size := by omega); (try have hn1_r_1 : wr.heap.size + 1 ≠ w1.heap.size := by omega); (try have hm1_r_1 : w1.heap.size ≠ wr.heap.size + 1 := by omega); (try have hy1_r_2 : wr.heap.size + 1 + 1 < w1.heap.size := by omega); (try have hp1_r_1 : wr.heap.size < w1.heap.size + 1 := by omega); (try have hp1_r_2 : wr.heap.size < w1.heap.size + 1 + 1 := by omega); (try have hy1_0_0 : w.heap.size < w1.heap.size := by omega); (try have hn1_0_0 : w.heap.size ≠ w1.heap.size := by omega); (try have hm1_0_0 : w1.heap.size ≠ w.heap.size := by omega); (try have hy1_0_1 : w.heap.size + 1 < w1.heap.size := by omega); (try have hn1_0_1 : w.heap.size + 1 ≠ w1.heap.size := by omega); (try have hm1_0_1 : w1.heap.size ≠ w.heap.size + 1 := by omega); (try have hy1_0_2 : w.heap.size + 1 + 1 < w1.heap.size := by omega); (try have hp1_0_1 : w.heap.size < w1.heap.size + 1 := by omega); (try have hp1_0_2 : w.heap.size < w1.heap.size + 1 + 1 := by omega); (try have hg1_g1 : g1 < w1.heap.size := by omega); (try have hi1_g1 : g1 ≠ w1.heap.size := by omega); (try have hj1_g1 : w1.heap.size ≠ g1 := by omega); (try have hk1_g1 : g1 < w1.heap.size + 1 := by omega); (try have hg1_g2 : g2 < w1.heap.size := by omega); (try have hi1_g2 : g2 ≠ w1.heap.size := by omega); (try have hj1_g2 : w1.heap.size ≠ g2 := by omega); (try have hk1_g2 : g2 < w1.heap.size + 1 := by omega)
      go_wp2_with fail
      refine (HF.out _ (Hys.out.below (by (repeat' (first | (with_reducible exact Below.refl _ _) | (with_reducible assumption) | (with_reducible refine Below.drew ?_) | (with_reducible refine belowDrewN ?_ _) | (with_reducible refine Below.alloc ?_ ?_ _) | (with_reducible refine Below.setCell ?_ ?_ _) | (with_reducible refine belowStep (by assumption) ?_ ?_) | (with_reducible exact Below.size (by assumption)) | go_size))))).mono ?_; rintro e w2 ⟨rfl, hb2⟩; obtain ⟨hc2, hf2⟩ := bcellB hb2; have hz2 := hb2.size; (try simp only [World.size_alloc, World.size_setCell, World.size_drew, World.heap_drewN] at hc2 hf2 hz2); (try have hy2_r_0 : wr.heap.size < w2.heap.size := by omega); (try have hn2_r_0 : wr.heap.size ≠ w2.heap.size := by omega); (try have hm2_r_0 : w2.heap.size ≠ wr.heap.size := by omega); (try have hy2_r_1 : wr.heap.size + 1 < w2.heap.size := by omega); (try have hn2_r_1 : wr.heap.size + 1 ≠ w2.heap.size := by omega); (try have hm2_r_1 : w2.heap.size ≠ wr.heap.size + 1 := by omega); (try have hy2_r_2 : wr.heap.size + 1 + 1 < w2.heap.size := by omega); (try have hp2_r_1 : wr.heap.size < w2.heap.size + 1 := by omega); (try have hp2_r_2 : wr.heap.size < w2.heap.size + 1 + 1 := by omega); (try have hy2_0_0 : w.heap.size < w2.heap.size := by omega); (try have hn2_0_0 : w.heap.size ≠ w2.heap.size := by omega); (try have hm2_0_0 : w2.heap.size ≠ w.heap.size := by omega); (try have hy2_0_1 : w.heap.size + 1 < w2.heap.size := by omega); (try have hn2_0_1 : w.heap.size + 1 ≠ w2.heap.size := by omega); (try have hm2_0_1 : w2.heap.size ≠ w.heap.size + 1 := by omega); (try have hy2_0_2 : w.heap.size + 1 + 1 < w2.heap.size := by omega); (try have hp2_0_1 : w.heap.size < w2.heap.size + 1 := by omega); (try have hp2_0_2 : w.heap.size < w2.heap.size + 1 + 1 := by omega); (try have hy2_1_0 : w1.heap.size < w2.heap.size := by omega); (try have hn2_1_0 : w1.heap.size ≠ w2.heap.size := by omega); (try have hm2_1_0 : w2.heap.size ≠ w1.heap.size := by omega); (try have hy2_1_1 : w1.heap.size + 1 < w2.heap.size := by omega); (try have hn2_1_1 : w1.heap.size + 1 ≠ w2.heap.size := by omega); (try have hm2_1_1 : w2.heap.size ≠ w1.heap.size + 1 := by omega); (try have hy2_1_2 : w1.heap.size + 1 + 1 < w2.heap.size := by omega); (try have hp2_1_1 : w1.heap.size < w2.heap.size + 1 := by omega); (try have hp2_1_2 : w1.heap.size < w2.heap.size + 1 + 1 := by omega); (try have hg2_g1 : g1 < w2.heap.size := by omega); (try have hi2_g1 : g1 ≠ w2.heap.size := by omega); (try have hj2_g1 : w2.heap.size ≠ g1 := by omega); (try have hk2_g1 : g1 < w2.heap.size + 1 := by omega); (try have hg2_g2 : g2 < w2.heap.size := by omega); (try have hi2_g2 : g2 ≠ w2.heap.size := by omega); (try have hj2_g2 : w2.heap.size ≠ g2 := by omega); (try have hk2_g2 : g2 < w2.heap.size + 1 := by omega)
      go_wp2
      go_ret2
      exact ⟨none, 0, rfl, Reads.nil, by (repeat' (first | (with_reducible exact Below.refl _ _) | (with_reducible assumption) | (with_reducible refine Below.drew ?_) | (with_reducible refine belowDrewN ?_ _) | (with_reducible refine Below.alloc ?_ ?_ _) | (with_reducible refine Below.setCell ?_ ?_ _) | (with_reducible refine belowStep (by assumption) ?_ ?_) | (with_reducible exact Below.size (by assumption)) | go_size))⟩
    | true =>
      have HSX := Lib.hid (expB_small hx)
      have HSY := Lib.hid (expB_small hy)
      have HTL := Lib.hid fun (i j : Nat) (d : Int) (hi : i ≤ xs.length) (hj : j ≤ ys.length) => prT_len (d := d) hx hy hi hj
      have lx24 := expB_len hx
      have ly24 := expB_len hy
      have HPL : (prd xs ys).length ≤ 600 := by
        have := Nat.mul_le_mul lx24 ly24
        rw [prd_len]
        omega
      have hpe : (xs.length : Int) * (ys.length : Int) = ((prd xs ys).length : Int) := by rw [prd_len, Int.natCast_mul]
      have p2 : 0 ≤ (xs.length : Int) * (ys.length : Int) ∧ (xs.length : Int) * (ys.length : Int) ≤ 600 := by omega
      have HPE := Lib.hid hpe
      have HY := Lib.hid fun h => poO_yes hx hy h
      have HN := Lib.hid fun h => poO_no (a := xs) (b := ys) h
      rw [hx] at HE
      rw [hy] at HF
      clear hx hy hpe
      go_enter Try.func45, Try.ntmps45
      go_wp2_with fail
      refine (HE.out _ Hxs.out).mono ?_; rintro e w1 ⟨rfl, hb1⟩; obtain ⟨hc1, hf1⟩ := bcellB hb1; have hz1 := hb1.size; (try simp only [World.size_alloc, World.size_setCell, World.size_drew, World.heap_drewN] at hc1 hf1 hz1); (try have hy1_r_0 : wr.heap.size < w1.heap.size := by omega); (try have hn1_r_0 : wr.heap.size ≠ w1.heap.size := by omega); (try have hm1_r_0 : w1.heap.size ≠ wr.heap.size := by omega); (try have hy1_r_1 : wr.heap.size + 1 < w1.heap.size := by omega); (try have hn1_r_1 : wr.heap.size + 1 ≠ w1.heap.size := by omega); (try have hm1_r_1 : w1.heap.size ≠ wr.heap.size + 1 := by omega); (try have hy1_r_2 : wr.heap.size + 1 + 1 < w1.heap.size := by omega); (try have hp1_r_1 : wr.heap.size < w1.heap.size + 1 := by omega); (try have hp1_r_2 : wr.heap.size < w1.heap.size + 1 + 1 := by omega); (try have hy1_0_0 : w.heap.size < w1.heap.size := by omega); (try have hn1_0_0 : w.heap.size ≠ w1.heap.size := by omega); (try have hm1_0_0 : w1.heap.size ≠ w.heap.size := by omega); (try have hy1_0_1 : w.heap.size + 1 < w1.heap.size := by omega); (try have hn1_0_1 : w.heap.size + 1 ≠ w1.heap.size := by omega); (try have hm1_0_1 : w1.heap.size ≠ w.heap.size + 1 := by omega); (try have hy1_0_2 : w.heap.size + 1 + 1 < w1.heap.size := by omega); (try have hp1_0_1 : w.heap.size < w1.heap.size + 1 := by omega); (try have hp1_0_2 : w.heap.size < w1.heap.size + 1 + 1 := by omega); (try have hg1_g1 : g1 < w1.heap.size := by omega); (try have hi1_g1 : g1 ≠ w1.heap.size := by omega); (try have hj1_g1 : w1.heap.size ≠ g1 := by omega); (try have hk1_g1 : g1 < w1.heap.size + 1 := by omega); (try have hg1_g2 : g2 < w1.heap.size := by omega); (try have hi1_g2 : g2 ≠ w1.heap.size := by omega); (try have hj1_g2 : w1.heap.size ≠ g2 := by omega); (try have hk1_g2 : g2 < w1.heap.size + 1 := by omega)
      go_wp2_with fail
      refine (HF.out _ (Hys.out.below (by (repeat' (first | (with_reducible exact Below.refl _ _) | (with_reducible assumption) | (with_reducible refine Below.drew ?_) | (with_reducible refine belowDrewN ?_ _) | (with_reducible refine Below.alloc ?_ ?_ _) | (with_reducible refine Below.setCell ?_ ?_ _) | (with_reducible refine belowStep (by assumption) ?_ ?_) | (with_reducible exact Below.size (by assumption)) | go_size))))).mono ?_; rintro e w2 ⟨rfl, hb2⟩; obtain ⟨hc2, hf2⟩ := bcellB hb2; have hz2 := hb2.size; (try simp only [World.size_alloc, World.size_setCell, World.size_drew, World.heap_drewN] at hc2 hf2 hz2); (try have hy2_r_0 : wr.heap.size < w2.heap.size := by omega); (try have hn2_r_0 : wr.heap.size ≠ w2.heap.size := by omega); (try have hm2_r_0 : w2.heap.size ≠ wr.heap.size := by omega); (try have hy2_r_1 : wr.heap.size + 1 < w2.heap.size := by omega); (try have hn2_r_1 : wr.heap.size + 1 ≠ w2.heap.size := by omega); (try have hm2_r_1 : w2.heap.size ≠ wr.heap.size + 1 := by omega); (try have hy2_r_2 : wr.heap.size + 1 + 1 < w2.heap.size := by omega); (try have hp2_r_1 : wr.heap.size < w2.heap.size + 1 := by omega); (try have hp2_r_2 : wr.heap.size < w2.heap.size + 1 + 1 := by omega); (try have hy2_0_0 : w.heap.size < w2.heap.size := by omega); (try have hn2_0_0 : w.heap.size ≠ w2.heap.size := by omega); (try have hm2_0_0 : w2.heap.size ≠ w.heap.size := by omega); (try have hy2_0_1 : w.heap.size + 1 < w2.heap.size := by omega); (try have hn2_0_1 : w.heap.size + 1 ≠ w2.heap.size := by omega); (try have hm2_0_1 : w2.heap.size ≠ w.heap.size + 1 := by omega); (try have hy2_0_2 : w.heap.size + 1 + 1 < w2.heap.size := by omega); (try have hp2_0_1 : w.heap.size < w2.heap.size + 1 := by omega); (try have hp2_0_2 : w.heap.size < w2.heap.size + 1 + 1 := by omega); (try have hy2_1_0 : w1.heap.size < w2.heap.size := by omega); (try have hn2_1_0 : w1.heap.size ≠ w2.heap.size := by omega); (try have hm2_1_0 : w2.heap.size ≠ w1.heap.size := by omega); (try have hy2_1_1 : w1.heap.size + 1 < w2.heap.size := by omega); (try have hn2_1_1 : w1.heap.size + 1 ≠ w2.heap.size := by omega); (try have hm2_1_1 : w2.heap.size ≠ w1.heap.size + 1 := by omega); (try have hy2_1_2 : w1.heap.size + 1 + 1 < w2.heap.size := by omega); (try have hp2_1_1 : w1.heap.size < w2.heap.size + 1 := by omega); (try have hp2_1_2 : w1.heap.size < w2.heap.size + 1 + 1 := by omega); (try have hg2_g1 : g1 < w2.heap.size := by omega); (try have hi2_g1 : g1 ≠ w2.heap.size := by omega); (try have hj2_g1 : w2.heap.size ≠ g1 := by omega); (try have hk2_g1 : g1 < w2.heap.size + 1 := by omega); (try have hg2_g2 : g2 < w2.heap.size := by omega); (try have hi2_g2 : g2 ≠ w2.heap.size := by omega); (try have hj2_g2 : w2.heap.size ≠ g2 := by omega); (try have hk2_g2 : g2 < w2.heap.size + 1 := by omega)
      go_wp2
      have hb0 : Below w.heap.size w w2 := by (repeat' (first | (with_reducible exact Below.refl _ _) | (with_reducible assumption) | (with_reducible refine Below.drew ?_) | (with_reducible refine belowDrewN ?_ _) | (with_reducible refine Below.alloc ?_ ?_ _) | (with_reducible refine Below.setCell ?_ ?_ _) | (with_reducible refine belowStep (by assumption) ?_ ?_) | (with_reducible exact Below.size (by assumption)) | go_size))
      go_loopw [6, 21] (fun v6 v21 wr => ∃ (i : Nat) (zs : List Int) (A : Option Addr) (c : Nat), i ≤ xs.length ∧ v21 = .int .i64 (i : Int) ∧ v6 = .slice A zs.length c ∧ zs.length ≤ c ∧ zs.length ≤ 600 ∧ Hid (zs = putAll [] (prd (xs.take i) ys)) ∧ Reads wr A zs ∧ Below w.heap.size w wr) (fun _ v21 _ => xs.length - (intOf v21).toNat)
      case atStart => exact ⟨0, [], none, 0, Nat.zero_le _, rfl, rfl, Nat.le_refl _, by simp, Lib.hid rfl, Reads.nil, by (repeat' (first | (with_reducible exact Below.refl _ _) | (with_reducible assumption) | (with_reducible refine Below.drew ?_) | (with_reducible refine belowDrewN ?_ _) | (with_reducible refine Below.alloc ?_ ?_ _) | (with_reducible refine Below.setCell ?_ ?_ _) | (with_reducible refine belowStep (by assumption) ?_ ?_) | (with_reducible exact Below.size (by assumption)) | go_size))⟩
      case round =>
        obtain ⟨i, zs, A, c, hi, rfl, rfl, hzc, hz6, HZ, hr, hbr⟩ := hrel
        obtain ⟨wo, rfl⟩ : ∃ x, x = wr := ⟨_, rfl⟩
        have hzo := hbr.size
        have Hr := Lib.hid hr
        clear hr hb0
        by_cases hlt : i < xs.length
        · obtain ⟨b9, o9, d, rfl, hbb, hd, hcell⟩ := (Hxs.out.below hbr).at_ hlt
          obtain ⟨d1, d2⟩ := HSX.out d (List.mem_of_getElem? hd)
          have Hd := Lib.hid hd
          clear hd
          rw [← prT_zero xs ys i d] at HZ
          go_wp2
          go_loopw [6, 27] (fun v6 v27 wr => ∃ (j : Nat) (zs : List Int) (A : Option Addr) (c : Nat), j ≤ ys.length ∧ v27 = .int .i64 (j : Int) ∧ v6 = .slice A zs.length c ∧ zs.length ≤ c ∧ zs.length ≤ 600 ∧ Hid (zs = putAll [] (prT xs ys i d j)) ∧ Reads wr A zs ∧ Below w.heap.size w wr) (fun _ v27 _ => ys.length - (intOf v27).toNat)
          case atStart => exact ⟨0, zs, A, c, Nat.zero_le _, rfl, rfl, hzc, hz6, HZ, Hr.out, by (repeat' (first | (with_reducible exact Below.refl _ _) | (with_reducible assumption) | (with_reducible refine Below.drew ?_) | (with_reducible refine belowDrewN ?_ _) | (with_reducible refine Below.alloc ?_ ?_ _) | (with_reducible refine Below.setCell ?_ ?_ _) | (with_reducible refine belowStep (by assumption) ?_ ?_) | (with_reducible exact Below.size (by assumption)) | go_size))⟩
          case round =>
            clear hzc hz6 HZ Hr
            obtain ⟨j, zs, A, c, hj, rfl, rfl, hzc, hz6, HZ, hr, hbr⟩ := hrel
            have hzr := hbr.size
            have Hr := Lib.hid hr
            clear hr
            by_cases hlj : j < ys.length
            · obtain ⟨b8, o8, e, rfl, hb8, he, hcell8⟩ := (Hys.out.below hbr).at_ hlj
              obtain ⟨e1, e2⟩ := HSY.out e (List.mem_of_getElem? he)
              have HT := Lib.hid (prT_next (a := xs) (i := i) (d := d) he)
              have He := Lib.hid he
              have p1 := mul_bounds (by omega : 0 ≤ d) d2 (by omega : 0 ≤ e) e2
              have hne : e ≠ 0 := by omega
              have hq := le_quo (d := d) e1
              have ht1 : (1000000000 : Int).tdiv e = 1000000000 / e := Int.tdiv_eq_ediv_of_nonneg (by omega)
              have hq1 := Int.ediv_le_self e (show (0 : Int) ≤ 1000000000 by omega)
              have hq2 := Int.ediv_nonneg (show (0 : Int) ≤ 1000000000 by omega) (show 0 ≤ e by omega)
              have HTL2 := HTL.out i (j + 1) d hi (by omega)
              clear he
              by_cases hbig : d * e ≤ 1000000000
              · have hdq := hq.2 hbig
                clear hq hbig
                generalize (1000000000 : Int) / e = q at *
                go_wp2_with fail
                refine (l1Put_any _ _ _ _ _ Hr.out (by omega) hzc).mono ?_; rintro e w16 ⟨A16, c16, rfl, hc16, hr16, hb16⟩; have hz16 := hb16.size; (try simp only [World.size_alloc, World.size_setCell, World.size_drew, World.heap_drewN] at hz16)
                have hl16 := put_len zs (d * e)
                have HZ2 : Hid (putL zs (d * e) = putAll [] (prT xs ys i d (j + 1))) := Lib.hid (by rw [HT.out, putAll_snoc, HZ.out])
                have hl17 : (putL zs (d * e)).length ≤ 600 := by
                  rw [HZ2.out]
                  exact Nat.le_trans (putAll_len _ _) (by simpa using HTL2)
                clear hl16 HZ
                generalize putL zs (d * e) = us at *
                go_wp2
                go_roundw
                case rel => exact ⟨j + 1, us, A16, c16, by omega, by go_num, rfl, hc16, hl17, HZ2, hr16, by (repeat' (first | (with_reducible exact Below.refl _ _) | (with_reducible assumption) | (with_reducible refine Below.drew ?_) | (with_reducible refine belowDrewN ?_ _) | (with_reducible refine Below.alloc ?_ ?_ _) | (with_reducible refine Below.setCell ?_ ?_ _) | (with_reducible refine belowStep (by assumption) ?_ ?_) | (with_reducible exact Below.size (by assumption)) | go_size))⟩
                case measure => simp [intOf]; omega
              · have hdq : ¬ d ≤ 1000000000 / e := fun h => hbig (hq.1 h)
                have E : Hid (poO xs ys = none) := Lib.hid (HN.out (srt_big (x := d * e) (prd_mem.2 ⟨d, List.mem_of_getElem? Hd.out, e, List.mem_of_getElem? He.out, rfl⟩) hbig))
                clear hq hbig
                generalize (1000000000 : Int) / e = q at *
                go_wp2
                go_ret2
                rw [E.out]
                exact ⟨none, 0, rfl, Reads.nil, by (repeat' (first | (with_reducible exact Below.refl _ _) | (with_reducible assumption) | (with_reducible refine Below.drew ?_) | (with_reducible refine belowDrewN ?_ _) | (with_reducible refine Below.alloc ?_ ?_ _) | (with_reducible refine Below.setCell ?_ ?_ _) | (with_reducible refine belowStep (by assumption) ?_ ?_) | (with_reducible exact Below.size (by assumption)) | go_size))⟩
            · obtain rfl : j = ys.length := by omega
              rw [prT_all Hd.out] at HZ
              have hi1 : i + 1 ≤ xs.length := by omega
              go_wp2
              go_roundw
              case rel => exact ⟨i + 1, zs, A, c, hi1, by go_num, rfl, hzc, hz6, HZ, Hr.out, by (repeat' (first | (with_reducible exact Below.refl _ _) | (with_reducible assumption) | (with_reducible refine Below.drew ?_) | (with_reducible refine belowDrewN ?_ _) | (with_reducible refine Below.alloc ?_ ?_ _) | (with_reducible refine Below.setCell ?_ ?_ _) | (with_reducible refine belowStep (by assumption) ?_ ?_) | (with_reducible exact Below.size (by assumption)) | go_size))⟩
              case measure => simp [intOf]; omega
        · obtain rfl : i = xs.length := by omega
          rw [List.take_length] at HZ
          by_cases hlen : zs.length = (prd xs ys).length
          · have hs : zs = srt (prd xs ys) := by rw [HZ.out]; exact put_srt (by rw [← HZ.out]; exact hlen)
            have hne : ((zs.length : Int) != (xs.length : Int) * (ys.length : Int)) = false := by rw [HPE.out, hlen]; simp
            rw [← hs] at HY HN
            clear hlen hs HZ
            generalize poO xs ys = po at *
            cases he : expB zs with
            | true =>
              have E : Hid (po = some zs) := Lib.hid (HY.out he)
              clear HY HN
              go_wp2_with fail
              refine (unList_yes _ _ _ _ Hr.out (by omega) he).mono ?_; rintro e w17 ⟨rfl, hb17⟩; have hz17 := hb17.size; (try simp only [World.size_alloc, World.size_setCell, World.size_drew, World.heap_drewN] at hz17)
              go_wp2
              go_ret2
              rw [E.out]
              exact ⟨_, _, rfl, Hr.out.below hb17, by (repeat' (first | (with_reducible exact Below.refl _ _) | (with_reducible assumption) | (with_reducible refine Below.drew ?_) | (with_reducible refine belowDrewN ?_ _) | (with_reducible refine Below.alloc ?_ ?_ _) | (with_reducible refine Below.setCell ?_ ?_ _) | (with_reducible refine belowStep (by assumption) ?_ ?_) | (with_reducible exact Below.size (by assumption)) | go_size))⟩
            | false =>
              have E : Hid (po = none) := Lib.hid (HN.out he)
              clear HY HN
              go_wp2_with fail
              refine (unList_no _ _ _ _ Hr.out (by omega) he).mono ?_; rintro e w17 ⟨rfl, hb17⟩; have hz17 := hb17.size; (try simp only [World.size_alloc, World.size_setCell, World.size_drew, World.heap_drewN] at hz17)
              go_wp2
              go_ret2
              rw [E.out]
              exact ⟨none, 0, rfl, Reads.nil, by (repeat' (first | (with_reducible exact Below.refl _ _) | (with_reducible assumption) | (with_reducible refine Below.drew ?_) | (with_reducible refine belowDrewN ?_ _) | (with_reducible refine Below.alloc ?_ ?_ _) | (with_reducible refine Below.setCell ?_ ?_ _) | (with_reducible refine belowStep (by assumption) ?_ ?_) | (with_reducible exact Below.size (by assumption)) | go_size))⟩
          · have E : Hid (poO xs ys = none) := Lib.hid (HN.out (put_less (by rw [← HZ.out]; exact hlen)))
            have hne : ((zs.length : Int) != (xs.length : Int) * (ys.length : Int)) = true := by
              rw [HPE.out]
              simp
              omega
            clear hlen HZ
            go_wp2
            go_ret2
            rw [E.out]
            exact ⟨none, 0, rfl, Reads.nil, by (repeat' (first | (with_reducible exact Below.refl _ _) | (with_reducible assumption) | (with_reducible refine Below.drew ?_) | (with_reducible refine belowDrewN ?_ _) | (with_reducible refine Below.alloc ?_ ?_ _) | (with_reducible refine Below.setCell ?_ ?_ _) | (with_reducible refine belowStep (by assumption) ?_ ?_) | (with_reducible exact Below.size (by assumption)) | go_size))⟩
/-- halves are products with 2 -/
theorem halves_same (xs : List Int) : (poO xs [2]).getD [] = scaleL xs 2 ∧ (poO xs [2]).isSome = scaleB xs 2 := by
  cases hx : expB xs with
  | false =>
    have h := scale_exp (k := 2) hx
    rw [poO_a hx, scale_no h, h]
    exact ⟨rfl, rfl⟩
  | true =>
    have hs : srt (prd xs [2]) = xs.map (2 * ·) := by rw [prd_two]; exact srt_rising (rising_two (expB_rising hx))
    have hb := scale_in hx (show (1 : Int) ≤ 2 by omega) (by omega)
    cases he : expB (xs.map (2 * ·)) with
    | true =>
      rw [he] at hb
      rw [poO_yes hx expB_two (by rw [hs]; exact he), hs, hb, scaleL, if_pos hb]
      exact ⟨rfl, rfl⟩
    | false =>
      rw [he] at hb
      rw [poO_no (by rw [hs]; exact he), hb, scale_no hb]
      exact ⟨rfl, rfl⟩
theorem spec_halves_any (w : World) (Axs : Option Addr) (cxs : Nat) (xs : List Int) (hxs : Reads w Axs xs) (lxs : xs.length ≤ 1048576) : Calls Try.prog 49 #[.slice Axs xs.length cxs] w (RetRB ((poO xs [2]).getD []) (poO xs [2]).isSome w) := by
  have Hxs := Lib.hid hxs
  obtain ⟨e1, e2⟩ := halves_same xs
  rw [e1, e2]
  have HS := Lib.hid fun (w : World) (h : Reads w Axs xs) => spec_scale_any w 2 ⟨by omega, by omega⟩ Axs cxs xs h lxs
  clear hxs e1 e2
  generalize scaleL xs 2 = ys at *
  generalize scaleB xs 2 = told at *
  go_enter Try.func49, Try.ntmps49
  go_wp2_with fail
  refine (HS.out _ Hxs.out).mono ?_; rintro e w1 ⟨A1, c1, rfl, hr1, hb1⟩; have hz1 := hb1.size; (try simp only [World.size_alloc, World.size_setCell, World.size_drew, World.heap_drewN] at hz1)
  go_wp2
  go_ret2
  exact ⟨_, _, rfl, hr1, by (repeat' (first | (with_reducible exact Below.refl _ _) | (with_reducible assumption) | (with_reducible refine Below.drew ?_) | (with_reducible refine belowDrewN ?_ _) | (with_reducible refine Below.alloc ?_ ?_ _) | (with_reducible refine Below.setCell ?_ ?_ _) | (with_reducible refine belowStep (by assumption) ?_ ?_) | (with_reducible exact Below.size (by assumption)) | go_size))⟩
theorem prd_26 {xs : List Int} {k : Nat} {d : Int} (h : xs[k]? = some d) : prd (xs.take (k + 1)) [2, 6] = (prd (xs.take k) [2, 6] ++ [2 * d]) ++ [6 * d] := by
  rw [List.take_add_one, h, prd_append]
  simp [prd]
  omega
set_option maxRecDepth 100000 in
set_option maxHeartbeats 4000000 in
theorem spec_twoThirds_any (w : World) (Axs : Option Addr) (cxs : Nat) (xs : List Int) (hxs : Reads w Axs xs) (lxs : xs.length ≤ 1048576) : Calls Try.prog 51 #[.slice Axs xs.length cxs] w (RetRB ((poO xs [2, 6]).getD []) (poO xs [2, 6]).isSome w) := by
  have Hxs := Lib.hid hxs
  have HE := Lib.hid fun (w : World) (h : Reads w Axs xs) => unExpansion_any w Axs cxs xs h lxs
  clear hxs
  cases hx : expB xs with
  | false =>
    have E := Lib.hid (poO_a (b := [2, 6]) hx)
    rw [hx] at HE
    clear hx
    rw [E.out]
    go_enter Try.func51, Try.ntmps51
    go_wp2_with fail
    refine (HE.out _ Hxs.out).mono ?_; rintro e w1 ⟨rfl, hb1⟩; obtain ⟨hc1, hf1⟩ := bcellB hb1; have hz1 := hb1.size; (try simp only [World.size_alloc, World.size_setCell, World.size_drew, World.heap_drewN] at hc1 hf1 hz1); (try have hy1_r_0 : wr.heap.size < w1.heap.size := by omega); (try have hn1_r_0 : wr.heap.size ≠ w1.heap.size := by omega); (try have hm1_r_0 : w1.heap.size ≠ wr.heap.size := by omega); (try have hy1_r_1 : wr.heap.size + 1 < w1.heap.size := by omega); (try have hn1_r_1 : wr.heap.size + 1 ≠ w1.heap.size := by omega); (try have hm1_r_1 : w1.heap.size ≠ wr.heap.size + 1 := by omega); (try have hy1_r_2 : wr.heap.size + 1 + 1 < w1.heap.size := by omega); (try have hp1_r_1 : wr.heap.size < w1.heap.size + 1 := by omega); (try have hp1_r_2 : wr.heap.size < w1.heap.size + 1 + 1 := by omega); (try have hy1_0_0 : w.heap.size < w1.heap.size := by omega); (try have hn1_0_0 : w.heap.size ≠ w1.heap.size := by omega); (try have hm1_0_0 : w1.heap.size ≠ w.heap.size := by omega); (try have hy1_0_1 : w.heap.size + 1 < w1.heap.size := by omega); (try have hn1_0_1 : w.heap.size + 1 ≠ w1.heap.size := by omega); (try have hm1_0_1 : w1.heap.size ≠ w.heap.size + 1 := by omega); (try have hy1_0_2 : w.heap.size + 1 + 1 < w1.heap.size := by omega); (try have hp1_0_1 : w.heap.size < w1.heap.size + 1 := by omega); (try have hp1_0_2 : w.heap.size < w1.heap.size + 1 + 1 := by omega); (try have hg1_g1 : g1 < w1.heap.size := by omega); (try have hi1_g1 : g1 ≠ w1.heap.size := by omega); (try have hj1_g1 : w1.heap.size ≠ g1 := by omega); (try have hk1_g1 : g1 < w1.heap.size + 1 := by omega); (try have hg1_g2 : g2 < w1.heap.size := by omega); (try have hi1_g2 : g2 ≠ w1.heap.size := by omega); (try have hj1_g2 : w1.heap.size ≠ g2 := by omega); (try have hk1_g2 : g2 < w1.heap.size + 1 := by omega)
    go_wp2
    go_ret2
    exact ⟨none, 0, rfl, Reads.nil, by (repeat' (first | (with_reducible exact Below.refl _ _) | (with_reducible assumption) | (with_reducible refine Below.drew ?_) | (with_reducible refine belowDrewN ?_ _) | (with_reducible refine Below.alloc ?_ ?_ _) | (with_reducible refine Below.setCell ?_ ?_ _) | (with_reducible refine belowStep (by assumption) ?_ ?_) | (with_reducible exact Below.size (by assumption)) | go_size))⟩
  | true =>
    have HSX := Lib.hid (expB_small hx)
    have lx24 := expB_len hx
    have hpl := prd_len xs [2, 6]
    have HPE : Hid ((prd xs [2, 6]).length = xs.length * 2) := Lib.hid hpl
    have HY := Lib.hid fun h => poO_yes hx expB_26 h
    have HN := Lib.hid fun h => poO_no (a := xs) (b := [2, 6]) h
    rw [hx] at HE
    clear hx hpl
    go_enter Try.func51, Try.ntmps51
    go_wp2_with fail
    refine (HE.out _ Hxs.out).mono ?_; rintro e w1 ⟨rfl, hb1⟩; obtain ⟨hc1, hf1⟩ := bcellB hb1; have hz1 := hb1.size; (try simp only [World.size_alloc, World.size_setCell, World.size_drew, World.heap_drewN] at hc1 hf1 hz1); (try have hy1_r_0 : wr.heap.size < w1.heap.size := by omega); (try have hn1_r_0 : wr.heap.size ≠ w1.heap.size := by omega); (try have hm1_r_0 : w1.heap.size ≠ wr.heap.size := by omega); (try have hy1_r_1 : wr.heap.size + 1 < w1.heap.size := by omega); (try have hn1_r_1 : wr.heap.size + 1 ≠ w1.heap.size := by omega); (try have hm1_r_1 : w1.heap.size ≠ wr.heap.size + 1 := by omega); (try have hy1_r_2 : wr.heap.size + 1 + 1 < w1.heap.size := by omega); (try have hp1_r_1 : wr.heap.size < w1.heap.size + 1 := by omega); (try have hp1_r_2 : wr.heap.size < w1.heap.size + 1 + 1 := by omega); (try have hy1_0_0 : w.heap.size < w1.heap.size := by omega); (try have hn1_0_0 : w.heap.size ≠ w1.heap.size := by omega); (try have hm1_0_0 : w1.heap.size ≠ w.heap.size := by omega); (try have hy1_0_1 : w.heap.size + 1 < w1.heap.size := by omega); (try have hn1_0_1 : w.heap.size + 1 ≠ w1.heap.size := by omega); (try have hm1_0_1 : w1.heap.size ≠ w.heap.size + 1 := by omega); (try have hy1_0_2 : w.heap.size + 1 + 1 < w1.heap.size := by omega); (try have hp1_0_1 : w.heap.size < w1.heap.size + 1 := by omega); (try have hp1_0_2 : w.heap.size < w1.heap.size + 1 + 1 := by omega); (try have hg1_g1 : g1 < w1.heap.size := by omega); (try have hi1_g1 : g1 ≠ w1.heap.size := by omega); (try have hj1_g1 : w1.heap.size ≠ g1 := by omega); (try have hk1_g1 : g1 < w1.heap.size + 1 := by omega); (try have hg1_g2 : g2 < w1.heap.size := by omega); (try have hi1_g2 : g2 ≠ w1.heap.size := by omega); (try have hj1_g2 : w1.heap.size ≠ g2 := by omega); (try have hk1_g2 : g2 < w1.heap.size + 1 := by omega)
    go_wp2
    go_loopw [4, 12] (fun v4 v12 wr => ∃ (i : Nat) (zs : List Int) (A : Option Addr) (c : Nat), i ≤ xs.length ∧ v12 = .int .i64 (i : Int) ∧ v4 = .slice A zs.length c ∧ zs.length ≤ c ∧ zs.length ≤ i * 2 ∧ Hid (zs = putAll [] (prd (xs.take i) [2, 6])) ∧ Reads wr A zs ∧ Below w.heap.size w wr) (fun _ v12 _ => xs.length - (intOf v12).toNat)
    case atStart => exact ⟨0, [], none, 0, Nat.zero_le _, rfl, rfl, Nat.le_refl _, by simp, Lib.hid rfl, Reads.nil, by (repeat' (first | (with_reducible exact Below.refl _ _) | (with_reducible assumption) | (with_reducible refine Below.drew ?_) | (with_reducible refine belowDrewN ?_ _) | (with_reducible refine Below.alloc ?_ ?_ _) | (with_reducible refine Below.setCell ?_ ?_ _) | (with_reducible refine belowStep (by assumption) ?_ ?_) | (with_reducible exact Below.size (by assumption)) | go_size))⟩
    case round =>
      obtain ⟨i, zs, A, c, hi, rfl, rfl, hzc, hz6, HZ, hr, hbr⟩ := hrel
      have hzr := hbr.size
      have Hr := Lib.hid hr
      clear hr
      by_cases hlt : i < xs.length
      · obtain ⟨b9, o9, d, rfl, hbb, hd, hcell⟩ := (Hxs.out.below hbr).at_ hlt
        obtain ⟨d1, d2⟩ := HSX.out d (List.mem_of_getElem? hd)
        have HT := Lib.hid (prd_26 hd)
        clear hd
        go_wp2_with fail
        refine (l1Put_any _ _ _ _ _ Hr.out (by omega) hzc).mono ?_; rintro e w16 ⟨A16, c16, rfl, hc16, hr16, hb16⟩; have hz16 := hb16.size; (try simp only [World.size_alloc, World.size_setCell, World.size_drew, World.heap_drewN] at hz16)
        have hl16 := put_len zs (2 * d)
        go_wp2_with fail
        refine (l1Put_any _ _ _ _ _ hr16 (by omega) hc16).mono ?_; rintro e w17 ⟨A17, c17, rfl, hc17, hr17, hb17⟩; have hz17 := hb17.size; (try simp only [World.size_alloc, World.size_setCell, World.size_drew, World.heap_drewN] at hz17)
        have hl17 := put_len (putL zs (2 * d)) (6 * d)
        have HZ2 : Hid (putL (putL zs (2 * d)) (6 * d) = putAll [] (prd (xs.take (i + 1)) [2, 6])) := Lib.hid (by rw [HT.out, putAll_snoc, putAll_snoc, HZ.out])
        have hl18 : (putL (putL zs (2 * d)) (6 * d)).length ≤ (i + 1) * 2 := by omega
        clear hl16 hl17 HZ
        generalize putL (putL zs (2 * d)) (6 * d) = us at *
        go_wp2
        go_roundw
        case rel => exact ⟨i + 1, us, A17, c17, by omega, by go_num, rfl, hc17, hl18, HZ2, hr17, by (repeat' (first | (with_reducible exact Below.refl _ _) | (with_reducible assumption) | (with_reducible refine Below.drew ?_) | (with_reducible refine belowDrewN ?_ _) | (with_reducible refine Below.alloc ?_ ?_ _) | (with_reducible refine Below.setCell ?_ ?_ _) | (with_reducible refine belowStep (by assumption) ?_ ?_) | (with_reducible exact Below.size (by assumption)) | go_size))⟩
        case measure => simp [intOf]; omega
      · obtain rfl : i = xs.length := by omega
        rw [List.take_length] at HZ
        by_cases hlen : zs.length = (prd xs [2, 6]).length
        · have hs : zs = srt (prd xs [2, 6]) := by rw [HZ.out]; exact put_srt (by rw [← HZ.out]; exact hlen)
          have hne : ((zs.length : Int) != 2 * (xs.length : Int)) = false := by rw [hlen, HPE.out]; simp; omega
          rw [← hs] at HY HN
          clear hlen hs HZ
          generalize poO xs [2, 6] = po at *
          cases he : expB zs with
          | true =>
            have E : Hid (po = some zs) := Lib.hid (HY.out he)
            clear HY HN
            go_wp2_with fail
            refine (unList_yes _ _ _ _ Hr.out (by omega) he).mono ?_; rintro e w18 ⟨rfl, hb18⟩; have hz18 := hb18.size; (try simp only [World.size_alloc, World.size_setCell, World.size_drew, World.heap_drewN] at hz18)
            go_wp2
            go_ret2
            rw [E.out]
            exact ⟨_, _, rfl, Hr.out.below hb18, by (repeat' (first | (with_reducible exact Below.refl _ _) | (with_reducible assumption) | (with_reducible refine Below.drew ?_) | (with_reducible refine belowDrewN ?_ _) | (with_reducible refine Below.alloc ?_ ?_ _) | (with_reducible refine Below.setCell ?_ ?_ _) | (with_reducible refine belowStep (by assumption) ?_ ?_) | (with_reducible exact Below.size (by assumption)) | go_size))⟩
          | false =>
            have E : Hid (po = none) := Lib.hid (HN.out he)
            clear HY HN
            go_wp2_with fail
            refine (unList_no _ _ _ _ Hr.out (by omega) he).mono ?_; rintro e w18 ⟨rfl, hb18⟩; have hz18 := hb18.size; (try simp only [World.size_alloc, World.size_setCell, World.size_drew, World.heap_drewN] at hz18)
            go_wp2
            go_ret2
            rw [E.out]
            exact ⟨none, 0, rfl, Reads.nil, by (repeat' (first | (with_reducible exact Below.refl _ _) | (with_reducible assumption) | (with_reducible refine Below.drew ?_) | (with_reducible refine belowDrewN ?_ _) | (with_reducible refine Below.alloc ?_ ?_ _) | (with_reducible refine Below.setCell ?_ ?_ _) | (with_reducible refine belowStep (by assumption) ?_ ?_) | (with_reducible exact Below.size (by assumption)) | go_size))⟩
        · have E : Hid (poO xs [2, 6] = none) := Lib.hid (HN.out (put_less (by rw [← HZ.out]; exact hlen)))
          have hne : ((zs.length : Int) != 2 * (xs.length : Int)) = true := by
            have := HPE.out
            simp
            omega
          clear hlen HZ
          go_wp2
          go_ret2
          rw [E.out]
          exact ⟨none, 0, rfl, Reads.nil, by (repeat' (first | (with_reducible exact Below.refl _ _) | (with_reducible assumption) | (with_reducible refine Below.drew ?_) | (with_reducible refine belowDrewN ?_ _) | (with_reducible refine Below.alloc ?_ ?_ _) | (with_reducible refine Below.setCell ?_ ?_ _) | (with_reducible refine belowStep (by assumption) ?_ ?_) | (with_reducible exact Below.size (by assumption)) | go_size))⟩
end Go.Proofs.Ytleookfdngnphaa
