
/-
  Contracts of the split of a term by two numbers, in the program and in the model.
-/
import Derived.Test.YtbjblkfibinenaaSplitP
namespace Go.Proofs.Ytbjblkfibinenaa
open Go.RowKit
theorem emod_b {a b : Int} (h : a % b = 0) : (a % b != 0) = false := by simp [h]
theorem emod_b' {a b : Int} (h : ¬ a % b = 0) : (a % b != 0) = true := by simp [h]
set_option maxHeartbeats 4000000 in
theorem splitBy_any (w : World) (i p q : Int) (ri : -9223372036854775808 ≤ i ∧ i ≤ 9223372036854775807) (rp : -9223372036854775808 ≤ p ∧ p ≤ 9223372036854775807) (rq : -9223372036854775808 ≤ q ∧ q ≤ 9223372036854775807) (Axs : Option Addr) (cxs : Nat) (xs : List Int) (hxs : Reads w Axs xs) (lxs : xs.length ≤ 1048576) (r64 : In64 xs) : Calls Try.prog 17 #[.slice Axs xs.length cxs, .int .i64 i, .int .i64 p, .int .i64 q] w (RetLB (sbL xs i p q) (sbB xs i p q) w) := by
  have Hr64 := Lib.hid r64
  have Hxs := Lib.hid hxs
  clear r64 hxs
  cases hx : expB xs with
  | false =>
    have E := sb_idx (p := p) (q := q) (idx_exp (i := i) hx)
    rw [sb_no E, E]
    go_enter Try.func17, Try.ntmps17
    go_wp2_with fail
    refine (isExpansion_any _ _ _ _ Hxs.out lxs Hr64.out).mono ?_; rintro e w1 ⟨rfl, hb1⟩; have hz1 := hb1.size; (try simp only [World.size_alloc, World.size_setCell, World.size_drew, World.heap_drewN] at hz1)
    go_wp2
    go_ret2
    exact ret_lnil (by (repeat' (first | (with_reducible exact Below.refl _ _) | (with_reducible assumption) | (with_reducible refine Below.drew ?_) | (with_reducible refine belowDrewN ?_ _) | (with_reducible refine Below.alloc ?_ ?_ _) | (with_reducible refine Below.setCell ?_ ?_ _) | (with_reducible refine belowStep (by assumption) ?_ ?_) | (with_reducible exact Below.size (by assumption)) | go_size)))
  | true =>
    by_cases hi : 0 ≤ i ∧ i < xs.length
    · obtain ⟨hi0, hi1⟩ := hi
      obtain ⟨j, rfl⟩ := Int.eq_ofNat_of_zero_le hi0
      have hj : j < xs.length := by omega
      by_cases hpq : 1 ≤ p ∧ p < q ∧ q ≤ 1000
      · obtain ⟨p1, pq, q1⟩ := hpq
        have hlen := expB_len hx
        have Hsm := Lib.hid (expB_small hx)
        have Hri := Lib.hid (expB_rising hx)
        go_enter Try.func17, Try.ntmps17
        go_wp2_with fail
        refine (isExpansion_any _ _ _ _ Hxs.out lxs Hr64.out).mono ?_; rintro e w1 ⟨rfl, hb1⟩; have hz1 := hb1.size; (try simp only [World.size_alloc, World.size_setCell, World.size_drew, World.heap_drewN] at hz1)
        go_wp2_with fail
        refine (isIndex_yes _ _ _ _ _ hi0 hi1 lxs).mono ?_; rintro e w2 ⟨rfl, k2, rfl⟩
        obtain ⟨b, o, x, rfl, hb, hxj, hcell⟩ := (Hxs.out.below hb1).at_ hj
        obtain ⟨x1, x2⟩ := Hsm.out x (List.mem_of_getElem? hxj)
        obtain ⟨m1, m2⟩ := sb_mul x1 x2 p1 pq q1
        have Hx := Lib.hid hxj
        clear hxj
        by_cases h4 : x * (p + q) % p = 0
        · have h4b := emod_b h4
          have H4 := Lib.hid h4
          clear h4
          by_cases h5 : x * (p + q) % q = 0
          · have h5b := emod_b h5
            have H5 := Lib.hid h5
            clear h5
            have E := Lib.hid (sb_in hx Hx.out p1 pq q1 H4.out H5.out)
            have hne := Lib.hid (sb_ne m1 p1 pq H4.out H5.out)
            obtain ⟨rs, hrs⟩ : ∃ rs, rs = restL xs j := ⟨_, rfl⟩
            have hrl : rs.length ≤ xs.length := by rw [hrs]; exact rest_len xs j
            have R64 : Hid (In64 rs) := by rw [hrs]; exact Hr64.out.rest j
            have Rr : Hid (Rising rs) := by rw [hrs]; exact Hri.out.rest j
            have I : Hid (intoB rs [x * (p + q) / p, x * (p + q) / q] = replB xs j (x * (p + q) / p) (x * (p + q) / q) ∧ intoR rs [x * (p + q) / p, x * (p + q) / q] = replL xs j (x * (p + q) / p) (x * (p + q) / q)) := by rw [hrs]; exact into_repl Hri.out j hne.out
            have Hrs := Lib.hid hrs
            clear hrs
            have d1 : 0 ≤ x * (p + q) / p := Int.ediv_nonneg (by omega) (by omega)
            have d2 : 0 ≤ x * (p + q) / q := Int.ediv_nonneg (by omega) (by omega)
            have d3 : x * (p + q) / p ≤ 2000000000000 := by have := Int.ediv_le_self p (by omega : 0 ≤ x * (p + q)); omega
            have d4 : x * (p + q) / q ≤ 2000000000000 := by have := Int.ediv_le_self q (by omega : 0 ≤ x * (p + q)); omega
            have F64 : Hid (In64 [x * (p + q) / p, x * (p + q) / q]) := In64.of_mem (fun y hy => by rcases List.mem_cons.1 hy with rfl | hy; omega; rcases List.mem_cons.1 hy with rfl | hy; omega; cases hy)
            have hp0 : p ≠ 0 := by omega
            have hq0 : q ≠ 0 := by omega
            have y1 : IntKind.i64.wrap ((x * (p + q)).tdiv p) = x * (p + q) / p := by rw [Int.tdiv_eq_ediv_of_nonneg (by omega)]; exact IntWalk.i64_in _ (by omega)
            have y2 : IntKind.i64.wrap ((x * (p + q)).tdiv q) = x * (p + q) / q := by rw [Int.tdiv_eq_ediv_of_nonneg (by omega)]; exact IntWalk.i64_in _ (by omega)
            go_upto_region 6 with fail
            go_region_with (first
              | (go_at_call 58; refine (without_any _ _ _ _ (Hxs.out.below (by (repeat' (first | (with_reducible exact Below.refl _ _) | (with_reducible assumption) | (with_reducible refine Below.drew ?_) | (with_reducible refine belowDrewN ?_ _) | (with_reducible refine Below.alloc ?_ ?_ _) | (with_reducible refine Below.setCell ?_ ?_ _) | (with_reducible refine belowStep (by assumption) ?_ ?_) | (with_reducible exact Below.size (by assumption)) | go_size)))) lxs _ 1 [(j : Int)] (Reads.of1 (by (first | (go_size; done) | ((try simp only [World.size_alloc, World.size_setCell, World.size_drew, World.heap_drewN]); omega))) (by (repeat' (first | (exact cellNew (by (first | (go_size; done) | ((try simp only [World.size_alloc, World.heap_drewN]); omega))) rfl) | (refine (hc3 _ _ (by (first | (go_size; done) | ((try simp only [World.size_alloc, World.size_setCell, World.size_drew, World.heap_drewN]); omega)))).trans ?_) | (refine cellOld _ ?_))))) (by simp)).mono ?_; rintro e w3 ⟨v3, rfl, ho3, hb3⟩; obtain ⟨hc3, hf3⟩ := bcellB hb3; have hz3 := hb3.size; (try simp only [World.size_alloc, World.heap_drewN] at hc3 hf3 hz3); (try have hy3_r_0 : wr.heap.size < w3.heap.size := by omega); (try have hn3_r_0 : wr.heap.size ≠ w3.heap.size := by omega); (try have hm3_r_0 : w3.heap.size ≠ wr.heap.size := by omega); (try have hy3_r_1 : wr.heap.size + 1 < w3.heap.size := by omega); (try have hn3_r_1 : wr.heap.size + 1 ≠ w3.heap.size := by omega); (try have hm3_r_1 : w3.heap.size ≠ wr.heap.size + 1 := by omega); (try have hy3_r_2 : wr.heap.size + 1 + 1 < w3.heap.size := by omega); (try have hp3_r_1 : wr.heap.size < w3.heap.size + 1 := by omega); (try have hp3_r_2 : wr.heap.size < w3.heap.size + 1 + 1 := by omega); (try have hy3_0_0 : w.heap.size < w3.heap.size := by omega); (try have hn3_0_0 : w.heap.size ≠ w3.heap.size := by omega); (try have hm3_0_0 : w3.heap.size ≠ w.heap.size := by omega); (try have hy3_0_1 : w.heap.size + 1 < w3.heap.size := by omega); (try have hn3_0_1 : w.heap.size + 1 ≠ w3.heap.size := by omega); (try have hm3_0_1 : w3.heap.size ≠ w.heap.size + 1 := by omega); (try have hy3_0_2 : w.heap.size + 1 + 1 < w3.heap.size := by omega); (try have hp3_0_1 : w.heap.size < w3.heap.size + 1 := by omega); (try have hp3_0_2 : w.heap.size < w3.heap.size + 1 + 1 := by omega); (try have hy3_1_0 : w1.heap.size < w3.heap.size := by omega); (try have hn3_1_0 : w1.heap.size ≠ w3.heap.size := by omega); (try have hm3_1_0 : w3.heap.size ≠ w1.heap.size := by omega); (try have hy3_1_1 : w1.heap.size + 1 < w3.heap.size := by omega); (try have hn3_1_1 : w1.heap.size + 1 ≠ w3.heap.size := by omega); (try have hm3_1_1 : w3.heap.size ≠ w1.heap.size + 1 := by omega); (try have hy3_1_2 : w1.heap.size + 1 + 1 < w3.heap.size := by omega); (try have hp3_1_1 : w1.heap.size < w3.heap.size + 1 := by omega); (try have hp3_1_2 : w1.heap.size < w3.heap.size + 1 + 1 := by omega); (try have hy3_2_0 : w2.heap.size < w3.heap.size := by omega); (try have hn3_2_0 : w2.heap.size ≠ w3.heap.size := by omega); (try have hm3_2_0 : w3.heap.size ≠ w2.heap.size := by omega); (try have hy3_2_1 : w2.heap.size + 1 < w3.heap.size := by omega); (try have hn3_2_1 : w2.heap.size + 1 ≠ w3.heap.size := by omega); (try have hm3_2_1 : w3.heap.size ≠ w2.heap.size + 1 := by omega); (try have hy3_2_2 : w2.heap.size + 1 + 1 < w3.heap.size := by omega); (try have hp3_2_1 : w2.heap.size < w3.heap.size + 1 := by omega); (try have hp3_2_2 : w2.heap.size < w3.heap.size + 1 + 1 := by omega); (try have hg3_g1 : g1 < w3.heap.size := by omega); (try have hi3_g1 : g1 ≠ w3.heap.size := by omega); (try have hj3_g1 : w3.heap.size ≠ g1 := by omega); (try have hk3_g1 : g1 < w3.heap.size + 1 := by omega); (try have hg3_g2 : g2 < w3.heap.size := by omega); (try have hi3_g2 : g2 ≠ w3.heap.size := by omega); (try have hj3_g2 : w3.heap.size ≠ g2 := by omega); (try have hk3_g2 : g2 < w3.heap.size + 1 := by omega); rw [show keepL [(j : Int)] 0 xs = rs by rw [keep_at, Hrs.out]; rfl] at ho3; obtain ⟨A3, c3, rfl, hr3⟩ := ho3.form; have hcap3 := ho3.cap_; have Hr3 := Lib.hid hr3; clear ho3 hr3)
              | (go_at_call 57; refine (putInto_any _ A3 c3 rs (Hr3.out.below (by (repeat' (first | (with_reducible exact Below.refl _ _) | (with_reducible assumption) | (with_reducible refine Below.drew ?_) | (with_reducible refine belowDrewN ?_ _) | (with_reducible refine Below.alloc ?_ ?_ _) | (with_reducible refine Below.setCell ?_ ?_ _) | (with_reducible refine belowStep (by assumption) ?_ ?_) | (with_reducible exact Below.size (by assumption)) | go_size)))) (by omega) _ 2 [x * (p + q) / p, x * (p + q) / q] (Reads.of2 (by (first | (go_size; done) | ((try simp only [World.size_alloc, World.size_setCell, World.size_drew, World.heap_drewN]); omega))) (by (repeat' (first | (exact cellNew (by (first | (go_size; done) | ((try simp only [World.size_alloc, World.heap_drewN]); omega))) rfl) | (refine (hc3 _ _ (by (first | (go_size; done) | ((try simp only [World.size_alloc, World.size_setCell, World.size_drew, World.heap_drewN]); omega)))).trans ?_) | (refine cellOld _ ?_)))) (by (repeat' (first | (exact cellNew (by (first | (go_size; done) | ((try simp only [World.size_alloc, World.heap_drewN]); omega))) rfl) | (refine (hc3 _ _ (by (first | (go_size; done) | ((try simp only [World.size_alloc, World.size_setCell, World.size_drew, World.heap_drewN]); omega)))).trans ?_) | (refine cellOld _ ?_))))) (by simp) hcap3 Rr.out R64.out F64.out (by omega) (by simp) (by simp)).mono ?_; rintro e w4 ⟨v4, rfl, ho4, hb4⟩; have hz4 := hb4.size; (try simp only [World.size_alloc] at hz4); have Ho4 := Lib.hid ho4; clear ho4))
            all_goals
              rw [I.out.2] at Ho4
              go_wp2
              go_ret2
              rw [E.out.1, E.out.2]
              refine ⟨_, ?_, Ho4.out.mono (by (first | (go_size; done) | ((try simp only [World.size_alloc, World.size_setCell, World.size_drew, World.heap_drewN]); omega))), by (repeat' (first | (with_reducible exact Below.refl _ _) | (with_reducible assumption) | (with_reducible refine Below.drew ?_) | (with_reducible refine belowDrewN ?_ _) | (with_reducible refine Below.alloc ?_ ?_ _) | (with_reducible refine Below.setCell ?_ ?_ _) | (with_reducible refine belowStep (by assumption) ?_ ?_) | (with_reducible exact Below.size (by assumption)) | go_size))⟩
              first | rfl | (rw [← I.out.1]; rfl)
          · have h5b := emod_b' h5
            have E := Lib.hid (sb_rq Hx.out h5)
            have H5 := Lib.hid h5
            clear h5
            go_wp2
            go_ret2
            rw [sb_no E.out, E.out]
            exact ret_lnil (by (repeat' (first | (with_reducible exact Below.refl _ _) | (with_reducible assumption) | (with_reducible refine Below.drew ?_) | (with_reducible refine belowDrewN ?_ _) | (with_reducible refine Below.alloc ?_ ?_ _) | (with_reducible refine Below.setCell ?_ ?_ _) | (with_reducible refine belowStep (by assumption) ?_ ?_) | (with_reducible exact Below.size (by assumption)) | go_size)))
        · have h4b := emod_b' h4
          have E := Lib.hid (sb_rp Hx.out h4)
          have H4 := Lib.hid h4
          clear h4
          go_wp2
          go_ret2
          rw [sb_no E.out, E.out]
          exact ret_lnil (by (repeat' (first | (with_reducible exact Below.refl _ _) | (with_reducible assumption) | (with_reducible refine Below.drew ?_) | (with_reducible refine belowDrewN ?_ _) | (with_reducible refine Below.alloc ?_ ?_ _) | (with_reducible refine Below.setCell ?_ ?_ _) | (with_reducible refine belowStep (by assumption) ?_ ?_) | (with_reducible exact Below.size (by assumption)) | go_size)))
      · have E := sb_pq (xs := xs) (i := j) hpq
        rw [sb_no E, E]
        go_enter Try.func17, Try.ntmps17
        go_wp2_with fail
        refine (isExpansion_any _ _ _ _ Hxs.out lxs Hr64.out).mono ?_; rintro e w1 ⟨rfl, hb1⟩; have hz1 := hb1.size; (try simp only [World.size_alloc, World.size_setCell, World.size_drew, World.heap_drewN] at hz1)
        go_wp2_with fail
        refine (isIndex_yes _ _ _ _ _ hi0 hi1 lxs).mono ?_; rintro e w2 ⟨rfl, k2, rfl⟩
        by_cases h1 : 1 ≤ p
        · by_cases h2 : p < q
          · have h3 : 1000 < q := by omega
            clear hpq
            go_wp2
            go_ret2
            exact ret_lnil (by (repeat' (first | (with_reducible exact Below.refl _ _) | (with_reducible assumption) | (with_reducible refine Below.drew ?_) | (with_reducible refine belowDrewN ?_ _) | (with_reducible refine Below.alloc ?_ ?_ _) | (with_reducible refine Below.setCell ?_ ?_ _) | (with_reducible refine belowStep (by assumption) ?_ ?_) | (with_reducible exact Below.size (by assumption)) | go_size)))
          · clear hpq
            go_wp2
            go_ret2
            exact ret_lnil (by (repeat' (first | (with_reducible exact Below.refl _ _) | (with_reducible assumption) | (with_reducible refine Below.drew ?_) | (with_reducible refine belowDrewN ?_ _) | (with_reducible refine Below.alloc ?_ ?_ _) | (with_reducible refine Below.setCell ?_ ?_ _) | (with_reducible refine belowStep (by assumption) ?_ ?_) | (with_reducible exact Below.size (by assumption)) | go_size)))
        · clear hpq
          go_wp2
          go_ret2
          exact ret_lnil (by (repeat' (first | (with_reducible exact Below.refl _ _) | (with_reducible assumption) | (with_reducible refine Below.drew ?_) | (with_reducible refine belowDrewN ?_ _) | (with_reducible refine Below.alloc ?_ ?_ _) | (with_reducible refine Below.setCell ?_ ?_ _) | (with_reducible refine belowStep (by assumption) ?_ ?_) | (with_reducible exact Below.size (by assumption)) | go_size)))
    · have E := sb_idx (p := p) (q := q) (idx_out hi)
      rw [sb_no E, E]
      go_enter Try.func17, Try.ntmps17
      go_wp2_with fail
      refine (isExpansion_any _ _ _ _ Hxs.out lxs Hr64.out).mono ?_; rintro e w1 ⟨rfl, hb1⟩; have hz1 := hb1.size; (try simp only [World.size_alloc, World.size_setCell, World.size_drew, World.heap_drewN] at hz1)
      go_wp2_with fail
      refine (isIndex_no _ _ _ _ _ hi lxs).mono ?_; rintro e w2 ⟨rfl, k2, rfl⟩
      go_wp2
      go_ret2
      exact ret_lnil (by (repeat' (first | (with_reducible exact Below.refl _ _) | (with_reducible assumption) | (with_reducible refine Below.drew ?_) | (with_reducible refine belowDrewN ?_ _) | (with_reducible refine Below.alloc ?_ ?_ _) | (with_reducible refine Below.setCell ?_ ?_ _) | (with_reducible refine belowStep (by assumption) ?_ ?_) | (with_reducible exact Below.size (by assumption)) | go_size)))
set_option maxHeartbeats 4000000 in
theorem spec_splitBy_any (w : World) (i p q : Int) (ri : -9223372036854775808 ≤ i ∧ i ≤ 9223372036854775807) (rp : -9223372036854775808 ≤ p ∧ p ≤ 9223372036854775807) (rq : -9223372036854775808 ≤ q ∧ q ≤ 9223372036854775807) (Axs : Option Addr) (cxs : Nat) (xs : List Int) (hxs : Reads w Axs xs) (lxs : xs.length ≤ 1048576) (hcap : xs.length ≤ cxs) : Calls Try.prog 18 #[.slice Axs xs.length cxs, .int .i64 i, .int .i64 p, .int .i64 q] w (RetRB (sbL xs i p q) (sbB xs i p q) w) := by
  have Hxs := Lib.hid hxs
  clear hxs
  cases hx : expB xs with
  | false =>
    have E := sb_idx (p := p) (q := q) (idx_exp (i := i) hx)
    rw [sb_no E, E]
    go_enter Try.func18, Try.ntmps18
    go_wp2_with fail
    refine (unExpansion_any _ _ _ _ Hxs.out lxs).mono ?_; rintro e w1 ⟨rfl, hb1⟩; have hz1 := hb1.size; (try simp only [World.size_alloc, World.size_setCell, World.size_drew, World.heap_drewN] at hz1)
    go_wp2
    go_ret2
    exact ret_rnil' (by (repeat' (first | (with_reducible exact Below.refl _ _) | (with_reducible assumption) | (with_reducible refine Below.drew ?_) | (with_reducible refine belowDrewN ?_ _) | (with_reducible refine Below.alloc ?_ ?_ _) | (with_reducible refine Below.setCell ?_ ?_ _) | (with_reducible refine belowStep (by assumption) ?_ ?_) | (with_reducible exact Below.size (by assumption)) | go_size)))
  | true =>
    by_cases hi : 0 ≤ i ∧ i < xs.length
    · obtain ⟨hi0, hi1⟩ := hi
      obtain ⟨j, rfl⟩ := Int.eq_ofNat_of_zero_le hi0
      have hj : j < xs.length := by omega
      by_cases hpq : 1 ≤ p ∧ p < q ∧ q ≤ 1000
      · obtain ⟨p1, pq, q1⟩ := hpq
        have hlen := expB_len hx
        have Hsm := Lib.hid (expB_small hx)
        go_enter Try.func18, Try.ntmps18
        go_wp2_with fail
        refine (unExpansion_any _ _ _ _ Hxs.out lxs).mono ?_; rintro e w1 ⟨rfl, hb1⟩; have hz1 := hb1.size; (try simp only [World.size_alloc, World.size_setCell, World.size_drew, World.heap_drewN] at hz1)
        go_wp2_with fail
        refine (l1In_yes _ _ _ _ (by omega) (by omega)).mono ?_; rintro e w2 ⟨rfl, k2, rfl⟩
        go_wp2_with fail
        refine (l1In_yes _ _ _ _ (by omega) (by omega)).mono ?_; rintro e w3 ⟨rfl, k3, rfl⟩
        go_wp2_with fail
        refine (l1In_yes _ _ _ _ (by omega) (by omega)).mono ?_; rintro e w4 ⟨rfl, k4, rfl⟩
        obtain ⟨b, o, x, rfl, hb, hxj, hcell⟩ := (Hxs.out.below hb1).at_ hj
        obtain ⟨x1, x2⟩ := Hsm.out x (List.mem_of_getElem? hxj)
        obtain ⟨m1, m2⟩ := sb_mul x1 x2 p1 pq q1
        have Hx := Lib.hid hxj
        clear hxj
        by_cases h4 : x * (p + q) % p = 0
        · have h4b := emod_b h4
          have H4 := Lib.hid h4
          clear h4
          by_cases h5 : x * (p + q) % q = 0
          · have h5b := emod_b h5
            have H5 := Lib.hid h5
            clear h5
            have E := Lib.hid (sb_in hx Hx.out p1 pq q1 H4.out H5.out)
            have d1 : 0 ≤ x * (p + q) / p := Int.ediv_nonneg (by omega) (by omega)
            have d2 : 0 ≤ x * (p + q) / q := Int.ediv_nonneg (by omega) (by omega)
            have d3 : x * (p + q) / p ≤ 2000000000000 := by have := Int.ediv_le_self p (by omega : 0 ≤ x * (p + q)); omega
            have d4 : x * (p + q) / q ≤ 2000000000000 := by have := Int.ediv_le_self q (by omega : 0 ≤ x * (p + q)); omega
            have hp0 : p ≠ 0 := by omega
            have hq0 : q ≠ 0 := by omega
            have y1 : IntKind.i64.wrap ((x * (p + q)).tdiv p) = x * (p + q) / p := by rw [Int.tdiv_eq_ediv_of_nonneg (by omega)]; exact IntWalk.i64_in _ (by omega)
            have y2 : IntKind.i64.wrap ((x * (p + q)).tdiv q) = x * (p + q) / q := by rw [Int.tdiv_eq_ediv_of_nonneg (by omega)]; exact IntWalk.i64_in _ (by omega)
            go_upto_region 6 with fail
            go_region_with (go_at_call 61; refine (unReplace_any _ j _ _ _ _ xs (Hxs.out.below (by (repeat' (first | (with_reducible exact Below.refl _ _) | (with_reducible assumption) | (with_reducible refine Below.drew ?_) | (with_reducible refine belowDrewN ?_ _) | (with_reducible refine Below.alloc ?_ ?_ _) | (with_reducible refine Below.setCell ?_ ?_ _) | (with_reducible refine belowStep (by assumption) ?_ ?_) | (with_reducible exact Below.size (by assumption)) | go_size)))) lxs hcap hj (by omega)).mono ?_; rintro e w4 ⟨A4, c4, rfl, hr4, hb4⟩; have Hr4 := Lib.hid hr4; clear hr4)
            all_goals
              go_wp2
              go_ret2
              rw [E.out.1, E.out.2]
              exact ⟨_, _, rfl, Hr4.out, by (repeat' (first | (with_reducible exact Below.refl _ _) | (with_reducible assumption) | (with_reducible refine Below.drew ?_) | (with_reducible refine belowDrewN ?_ _) | (with_reducible refine Below.alloc ?_ ?_ _) | (with_reducible refine Below.setCell ?_ ?_ _) | (with_reducible refine belowStep (by assumption) ?_ ?_) | (with_reducible exact Below.size (by assumption)) | go_size))⟩
          · have h5b := emod_b' h5
            have E := Lib.hid (sb_rq Hx.out h5)
            clear h5
            go_wp2
            go_ret2
            rw [sb_no E.out, E.out]
            exact ret_rnil' (by (repeat' (first | (with_reducible exact Below.refl _ _) | (with_reducible assumption) | (with_reducible refine Below.drew ?_) | (with_reducible refine belowDrewN ?_ _) | (with_reducible refine Below.alloc ?_ ?_ _) | (with_reducible refine Below.setCell ?_ ?_ _) | (with_reducible refine belowStep (by assumption) ?_ ?_) | (with_reducible exact Below.size (by assumption)) | go_size)))
        · have h4b := emod_b' h4
          have E := Lib.hid (sb_rp Hx.out h4)
          clear h4
          go_wp2
          go_ret2
          rw [sb_no E.out, E.out]
          exact ret_rnil' (by (repeat' (first | (with_reducible exact Below.refl _ _) | (with_reducible assumption) | (with_reducible refine Below.drew ?_) | (with_reducible refine belowDrewN ?_ _) | (with_reducible refine Below.alloc ?_ ?_ _) | (with_reducible refine Below.setCell ?_ ?_ _) | (with_reducible refine belowStep (by assumption) ?_ ?_) | (with_reducible exact Below.size (by assumption)) | go_size)))
      · have E := sb_pq (xs := xs) (i := j) hpq
        rw [sb_no E, E]
        go_enter Try.func18, Try.ntmps18
        go_wp2_with fail
        refine (unExpansion_any _ _ _ _ Hxs.out lxs).mono ?_; rintro e w1 ⟨rfl, hb1⟩; have hz1 := hb1.size; (try simp only [World.size_alloc, World.size_setCell, World.size_drew, World.heap_drewN] at hz1)
        go_wp2_with fail
        refine (l1In_yes _ _ _ _ (by omega) (by omega)).mono ?_; rintro e w2 ⟨rfl, k2, rfl⟩
        by_cases h1 : 1 ≤ p ∧ p ≤ 1000
        · have h3 : ¬ (p + 1 ≤ q ∧ q ≤ 1000) := by omega
          have H3 := Lib.hid h3
          obtain ⟨h1a, h1b⟩ := h1
          clear hpq h3
          go_wp2_with fail
          refine (l1In_yes _ _ _ _ (by omega) (by omega)).mono ?_; rintro e w3 ⟨rfl, k3, rfl⟩
          go_wp2_with fail
          refine (l1In_no _ _ _ _ H3.out).mono ?_; rintro e w4 ⟨rfl, k4, rfl⟩
          go_wp2
          go_ret2
          exact ret_rnil' (by (repeat' (first | (with_reducible exact Below.refl _ _) | (with_reducible assumption) | (with_reducible refine Below.drew ?_) | (with_reducible refine belowDrewN ?_ _) | (with_reducible refine Below.alloc ?_ ?_ _) | (with_reducible refine Below.setCell ?_ ?_ _) | (with_reducible refine belowStep (by assumption) ?_ ?_) | (with_reducible exact Below.size (by assumption)) | go_size)))
        · have H1 := Lib.hid h1
          clear hpq h1
          go_wp2_with fail
          refine (l1In_no _ _ _ _ H1.out).mono ?_; rintro e w3 ⟨rfl, k3, rfl⟩
          go_wp2
          go_ret2
          exact ret_rnil' (by (repeat' (first | (with_reducible exact Below.refl _ _) | (with_reducible assumption) | (with_reducible refine Below.drew ?_) | (with_reducible refine belowDrewN ?_ _) | (with_reducible refine Below.alloc ?_ ?_ _) | (with_reducible refine Below.setCell ?_ ?_ _) | (with_reducible refine belowStep (by assumption) ?_ ?_) | (with_reducible exact Below.size (by assumption)) | go_size)))
    · have E := sb_idx (p := p) (q := q) (idx_out hi)
      rw [sb_no E, E]
      go_enter Try.func18, Try.ntmps18
      go_wp2_with fail
      refine (unExpansion_any _ _ _ _ Hxs.out lxs).mono ?_; rintro e w1 ⟨rfl, hb1⟩; have hz1 := hb1.size; (try simp only [World.size_alloc, World.size_setCell, World.size_drew, World.heap_drewN] at hz1)
      go_wp2_with fail
      refine (l1In_no _ _ _ _ (by omega)).mono ?_; rintro e w2 ⟨rfl, k2, rfl⟩
      go_wp2
      go_ret2
      exact ret_rnil' (by (repeat' (first | (with_reducible exact Below.refl _ _) | (with_reducible assumption) | (with_reducible refine Below.drew ?_) | (with_reducible refine belowDrewN ?_ _) | (with_reducible refine Below.alloc ?_ ?_ _) | (with_reducible refine Below.setCell ?_ ?_ _) | (with_reducible refine belowStep (by assumption) ?_ ?_) | (with_reducible exact Below.size (by assumption)) | go_size)))
end Go.Proofs.Ytbjblkfibinenaa
