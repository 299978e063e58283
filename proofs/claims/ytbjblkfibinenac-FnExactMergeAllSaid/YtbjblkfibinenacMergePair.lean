
/-
  The contract of the program's merge of two terms.
-/
import Derived.Test.YtbjblkfibinenacSplitB
namespace Go.Proofs.Ytbjblkfibinenac
open Go.RowKit
/-- a merge: whether there is one term for the two, and the list with it -/
def mpB (xs : List Int) (i j : Int) : Bool := expB xs && decide (0 ≤ i) && decide (i < j) && decide (j < xs.length) && decide (termAt xs i * termAt xs j % (termAt xs i + termAt xs j) = 0) && intoB (keepL [i, j] 0 xs) [termAt xs i * termAt xs j / (termAt xs i + termAt xs j)]
def mpL (xs : List Int) (i j : Int) : List Int := if mpB xs i j = true then intoR (keepL [i, j] 0 xs) [termAt xs i * termAt xs j / (termAt xs i + termAt xs j)] else []
theorem into_false {xs fs : List Int} (h : intoB xs fs = false) : intoR xs fs = [] := by
  unfold intoB at h
  unfold intoR
  cases hi : intoL xs fs with
  | none => rfl
  | some ys => rw [hi] at h; simp only at h ⊢; rw [h]; rfl
theorem mp_no {xs : List Int} {i j : Int} (h : mpB xs i j = false) : mpL xs i j = [] := by rw [mpL, h]; rfl
theorem mp_exp {xs : List Int} {i j : Int} (h : expB xs = false) : mpB xs i j = false := by simp [mpB, h]
theorem mp_out {xs : List Int} {i j : Int} (h : ¬ (0 ≤ i ∧ i < j ∧ j < xs.length)) : mpB xs i j = false := by
  unfold mpB
  by_cases h1 : 0 ≤ i
  · by_cases h2 : i < j
    · have : ¬ j < xs.length := fun h3 => h ⟨h1, h2, h3⟩
      simp [this]
    · simp [h2]
  · simp [h1]
theorem mp_rem {xs : List Int} {i j : Nat} {a b : Int} (ha : xs[i]? = some a) (hb : xs[j]? = some b) (h : ¬ a * b % (a + b) = 0) : mpB xs i j = false := by
  unfold mpB
  rw [term_at ha, term_at hb]
  simp only [h, decide_false, Bool.and_false, Bool.false_and]
theorem mp_in {xs : List Int} {i j : Nat} {a b : Int} (hx : expB xs = true) (hij : i < j) (ha : xs[i]? = some a) (hb : xs[j]? = some b) (h : a * b % (a + b) = 0) : mpB xs i j = intoB (keepL [(i : Int), (j : Int)] 0 xs) [a * b / (a + b)] ∧ mpL xs i j = intoR (keepL [(i : Int), (j : Int)] 0 xs) [a * b / (a + b)] := by
  have hj : j < xs.length := (List.getElem?_eq_some_iff.1 hb).1
  have e : mpB xs i j = intoB (keepL [(i : Int), (j : Int)] 0 xs) [a * b / (a + b)] := by
    unfold mpB
    rw [term_at ha, term_at hb, hx]
    have h1 : (i : Int) < j := by omega
    have h2 : (j : Int) < xs.length := by omega
    have h3 : (0 : Int) ≤ i := by omega
    simp only [h, h1, h2, h3, decide_true, Bool.and_self, Bool.true_and]
  refine ⟨e, ?_⟩
  rw [mpL, e, term_at ha, term_at hb]
  cases hr : intoB (keepL [(i : Int), (j : Int)] 0 xs) [a * b / (a + b)] with
  | true => simp
  | false => rw [into_false hr]; rfl
set_option maxHeartbeats 8000000 in
theorem mergePair_any (w : World) (i j : Int) (ri : -9223372036854775808 ≤ i ∧ i ≤ 9223372036854775807) (rj : -9223372036854775808 ≤ j ∧ j ≤ 9223372036854775807) (Axs : Option Addr) (cxs : Nat) (xs : List Int) (hxs : Reads w Axs xs) (lxs : xs.length ≤ 1048576) (r64 : In64 xs) : Calls Try.prog 111 #[.slice Axs xs.length cxs, .int .i64 i, .int .i64 j] w (RetLB (mpL xs i j) (mpB xs i j) w) := by
  have Hr64 := Lib.hid r64
  have Hxs := Lib.hid hxs
  clear r64 hxs
  cases hx : expB xs with
  | false =>
    have E := mp_exp (i := i) (j := j) hx
    rw [mp_no E, E]
    go_enter Try.func111, Try.ntmps111
    go_wp2_with fail
    refine (isExpansion_any _ _ _ _ Hxs.out lxs Hr64.out).mono ?_; rintro e w1 ⟨rfl, hb1⟩; have hz1 := hb1.size; (try simp only [World.size_alloc, World.size_setCell, World.size_drew, World.heap_drewN] at hz1)
    go_wp2
    go_ret2
    exact ret_lnil (by (repeat' (first | (with_reducible exact Below.refl _ _) | (with_reducible assumption) | (with_reducible refine Below.drew ?_) | (with_reducible refine belowDrewN ?_ _) | (with_reducible refine Below.alloc ?_ ?_ _) | (with_reducible refine Below.setCell ?_ ?_ _) | (with_reducible refine belowStep (by assumption) ?_ ?_) | (with_reducible exact Below.size (by assumption)) | go_size)))
  | true =>
    by_cases hi : 0 ≤ i ∧ i < xs.length
    · obtain ⟨hi0, hi1⟩ := hi
      by_cases hj : 0 ≤ j ∧ j < xs.length
      · obtain ⟨hj0, hj1⟩ := hj
        by_cases hij : i < j
        · obtain ⟨i', rfl⟩ := Int.eq_ofNat_of_zero_le hi0
          obtain ⟨j', rfl⟩ := Int.eq_ofNat_of_zero_le hj0
          have hlen := expB_len hx
          have Hsm := Lib.hid (expB_small hx)
          have Hri := Lib.hid (expB_rising hx)
          go_enter Try.func111, Try.ntmps111
          go_wp2_with fail
          refine (isExpansion_any _ _ _ _ Hxs.out lxs Hr64.out).mono ?_; rintro e w1 ⟨rfl, hb1⟩; have hz1 := hb1.size; (try simp only [World.size_alloc, World.size_setCell, World.size_drew, World.heap_drewN] at hz1)
          go_wp2_with fail
          refine (isIndex_yes _ _ _ _ _ hi0 hi1 lxs).mono ?_; rintro e w2 ⟨rfl, k2, rfl⟩
          go_wp2_with fail
          refine (isIndex_yes _ _ _ _ _ hj0 hj1 lxs).mono ?_; rintro e w3 ⟨rfl, k3, rfl⟩
          obtain ⟨b, o, x, y, rfl, hb, hxi, hxj, hcell, hcell2⟩ := (Hxs.out.below hb1).at2 (k := i') (j := j') (by omega) (by omega)
          obtain ⟨x1, x2⟩ := Hsm.out x (List.mem_of_getElem? hxi)
          obtain ⟨y1, y2⟩ := Hsm.out y (List.mem_of_getElem? hxj)
          have m1 := mul_bounds (by omega : 0 ≤ x) x2 (by omega : 0 ≤ y) y2
          have s1 : IntKind.i64.wrap (x * y) = x * y := IntWalk.i64_in _ (by omega)
          have s2 : IntKind.i64.wrap (x + y) = x + y := IntWalk.i64_in _ (by omega)
          have Hxi := Lib.hid hxi
          have Hxj := Lib.hid hxj
          clear hxi hxj
          have hs0 : x + y ≠ 0 := by omega
          by_cases h4 : x * y % (x + y) = 0
          · have h4b := emod_b h4
            have E := Lib.hid (mp_in hx (by omega : i' < j') Hxi.out Hxj.out h4)
            clear h4
            have d1 : 0 ≤ x * y / (x + y) := Int.ediv_nonneg (by omega) (by omega)
            have d3 : x * y / (x + y) ≤ 1000000000000000000 := by have := Int.ediv_le_self (x + y) (by omega : 0 ≤ x * y); omega
            have y3 : IntKind.i64.wrap ((x * y).tdiv (x + y)) = x * y / (x + y) := by rw [Int.tdiv_eq_ediv_of_nonneg (by omega)]; exact IntWalk.i64_in _ (by omega)
            obtain ⟨rs, hrs⟩ : ∃ rs, rs = keepL [(i' : Int), (j' : Int)] 0 xs := ⟨_, rfl⟩
            have hrl : rs.length ≤ xs.length := by rw [hrs]; exact keep_len _ _ _
            have R64 : Hid (In64 rs) := by rw [hrs]; exact In64.of_mem (fun z hz => Hr64.out.mem z (keep_mem _ _ _ _ hz))
            have Rr : Hid (Rising rs) := by rw [hrs]; exact Hri.out.keep _ _
            have F64 : Hid (In64 [x * y / (x + y)]) := In64.of_mem (fun z hz => by rcases List.mem_cons.1 hz with rfl | hz; omega; cases hz)
            have Hrs := Lib.hid hrs
            clear hrs
            go_wp2
            go_quiet (fail)
            go_wp2
            go_upto_region 6 with fail
            go_region_with (first
              | (go_at_call 120; refine (without_any _ _ _ _ (Hxs.out.below (by (repeat' (first | (with_reducible exact Below.refl _ _) | (with_reducible assumption) | (with_reducible refine Below.drew ?_) | (with_reducible refine belowDrewN ?_ _) | (with_reducible refine Below.alloc ?_ ?_ _) | (with_reducible refine Below.setCell ?_ ?_ _) | (with_reducible refine belowStep (by assumption) ?_ ?_) | (with_reducible exact Below.size (by assumption)) | go_size)))) lxs _ 2 [(i' : Int), (j' : Int)] (Reads.of2 (by (first | (go_size; done) | ((try simp only [World.size_alloc, World.size_setCell, World.size_drew, World.heap_drewN]); omega))) (by (repeat' (first | (exact cellNew (by (first | (go_size; done) | ((try simp only [World.size_alloc, World.heap_drewN]); omega))) rfl) | (refine (hc4 _ _ (by (first | (go_size; done) | ((try simp only [World.size_alloc, World.size_setCell, World.size_drew, World.heap_drewN]); omega)))).trans ?_) | (refine cellOld _ ?_)))) (by (repeat' (first | (exact cellNew (by (first | (go_size; done) | ((try simp only [World.size_alloc, World.heap_drewN]); omega))) rfl) | (refine (hc4 _ _ (by (first | (go_size; done) | ((try simp only [World.size_alloc, World.size_setCell, World.size_drew, World.heap_drewN]); omega)))).trans ?_) | (refine cellOld _ ?_))))) (by simp)).mono ?_; rintro e w4 ⟨v4, rfl, ho4, hb4⟩; obtain ⟨hc4, hf4⟩ := bcellB hb4; have hz4 := hb4.size; (try simp only [World.size_alloc, World.heap_drewN] at hc4 hf4 hz4); (try have hy4_r_0 : wr.heap.size < w4.heap.size := by omega); (try have hn4_r_0 : wr.heap.size ≠ w4.heap.size := by omega); (try have hm4_r_0 : w4.heap.size ≠ wr.heap.size := by omega); (try have hy4_r_1 : wr.heap.size + 1 < w4.heap.size := by omega); (try have hn4_r_1 : wr.heap.size + 1 ≠ w4.heap.size := by omega); (try have hm4_r_1 : w4.heap.size ≠ wr.heap.size + 1 := by omega); (try have hy4_r_2 : wr.heap.size + 1 + 1 < w4.heap.size := by omega); (try have hp4_r_1 : wr.heap.size < w4.heap.size + 1 := by omega); (try have hp4_r_2 : wr.heap.size < w4.heap.size + 1 + 1 := by omega); (try have hy4_0_0 : w.heap.size < w4.heap.size := by omega); (try have hn4_0_0 : w.heap.size ≠ w4.heap.size := by omega); (try have hm4_0_0 : w4.heap.size ≠ w.heap.size := by omega); (try have hy4_0_1 : w.heap.size + 1 < w4.heap.size := by omega); (try have hn4_0_1 : w.heap.size + 1 ≠ w4.heap.size := by omega); (try have hm4_0_1 : w4.heap.size ≠ w.heap.size + 1 := by omega); (try have hy4_0_2 : w.heap.size + 1 + 1 < w4.heap.size := by omega); (try have hp4_0_1 : w.heap.size < w4.heap.size + 1 := by omega); (try have hp4_0_2 : w.heap.size < w4.heap.size + 1 + 1 := by omega); (try have hy4_1_0 : w1.heap.size < w4.heap.size := by omega); (try have hn4_1_0 : w1.heap.size ≠ w4.heap.size := by omega); (try have hm4_1_0 : w4.heap.size ≠ w1.heap.size := by omega); (try have hy4_1_1 : w1.heap.size + 1 < w4.heap.size := by omega); (try have hn4_1_1 : w1.heap.size + 1 ≠ w4.heap.size := by omega); (try have hm4_1_1 : w4.heap.size ≠ w1.heap.size + 1 := by omega); (try have hy4_1_2 : w1.heap.size + 1 + 1 < w4.heap.size := by omega); (try have hp4_1_1 : w1.heap.size < w4.heap.size + 1 := by omega); (try have hp4_1_2 : w1.heap.size < w4.heap.size + 1 + 1 := by omega); (try have hy4_2_0 : w2.heap.size < w4.heap.size := by omega); (try have hn4_2_0 : w2.heap.size ≠ w4.heap.size := by omega); (try have hm4_2_0 : w4.heap.size ≠ w2.heap.size := by omega); (try have hy4_2_1 : w2.heap.size + 1 < w4.heap.size := by omega); (try have hn4_2_1 : w2.heap.size + 1 ≠ w4.heap.size := by omega); (try have hm4_2_1 : w4.heap.size ≠ w2.heap.size + 1 := by omega); (try have hy4_2_2 : w2.heap.size + 1 + 1 < w4.heap.size := by omega); (try have hp4_2_1 : w2.heap.size < w4.heap.size + 1 := by omega); (try have hp4_2_2 : w2.heap.size < w4.heap.size + 1 + 1 := by omega); (try have hy4_3_0 : w3.heap.size < w4.heap.size := by omega); (try have hn4_3_0 : w3.heap.size ≠ w4.heap.size := by omega); (try have hm4_3_0 : w4.heap.size ≠ w3.heap.size := by omega); (try have hy4_3_1 : w3.heap.size + 1 < w4.heap.size := by omega); (try have hn4_3_1 : w3.heap.size + 1 ≠ w4.heap.size := by omega); (try have hm4_3_1 : w4.heap.size ≠ w3.heap.size + 1 := by omega); (try have hy4_3_2 : w3.heap.size + 1 + 1 < w4.heap.size := by omega); (try have hp4_3_1 : w3.heap.size < w4.heap.size + 1 := by omega); (try have hp4_3_2 : w3.heap.size < w4.heap.size + 1 + 1 := by omega); (try have hg4_g1 : g1 < w4.heap.size := by omega); (try have hi4_g1 : g1 ≠ w4.heap.size := by omega); (try have hj4_g1 : w4.heap.size ≠ g1 := by omega); (try have hk4_g1 : g1 < w4.heap.size + 1 := by omega); (try have hg4_g2 : g2 < w4.heap.size := by omega); (try have hi4_g2 : g2 ≠ w4.heap.size := by omega); (try have hj4_g2 : w4.heap.size ≠ g2 := by omega); (try have hk4_g2 : g2 < w4.heap.size + 1 := by omega); rw [← Hrs.out] at ho4; obtain ⟨A4, c4, rfl, hr4⟩ := ho4.form; have hcap4 := ho4.cap_; have Hr4 := Lib.hid hr4; clear ho4 hr4)
              | (go_at_call 119; refine (putInto_any _ A4 c4 rs (Hr4.out.below (by (repeat' (first | (with_reducible exact Below.refl _ _) | (with_reducible assumption) | (with_reducible refine Below.drew ?_) | (with_reducible refine belowDrewN ?_ _) | (with_reducible refine Below.alloc ?_ ?_ _) | (with_reducible refine Below.setCell ?_ ?_ _) | (with_reducible refine belowStep (by assumption) ?_ ?_) | (with_reducible exact Below.size (by assumption)) | go_size)))) (by omega) _ 1 [x * y / (x + y)] (Reads.of1 (by (first | (go_size; done) | ((try simp only [World.size_alloc, World.size_setCell, World.size_drew, World.heap_drewN]); omega))) (by (repeat' (first | (exact cellNew (by (first | (go_size; done) | ((try simp only [World.size_alloc, World.heap_drewN]); omega))) rfl) | (refine (hc4 _ _ (by (first | (go_size; done) | ((try simp only [World.size_alloc, World.size_setCell, World.size_drew, World.heap_drewN]); omega)))).trans ?_) | (refine cellOld _ ?_))))) (by simp) hcap4 Rr.out R64.out F64.out (by omega) (by simp) (by simp)).mono ?_; rintro e w5 ⟨v5, rfl, ho5, hb5⟩; have hz5 := hb5.size; (try simp only [World.size_alloc] at hz5); have Ho5 := Lib.hid ho5; clear ho5))
            all_goals
              go_wp2
              go_ret2
              rw [E.out.1, E.out.2, ← Hrs.out]
              exact ⟨_, rfl, Ho5.out.mono (by (first | (go_size; done) | ((try simp only [World.size_alloc, World.size_setCell, World.size_drew, World.heap_drewN]); omega))), by (repeat' (first | (with_reducible exact Below.refl _ _) | (with_reducible assumption) | (with_reducible refine Below.drew ?_) | (with_reducible refine belowDrewN ?_ _) | (with_reducible refine Below.alloc ?_ ?_ _) | (with_reducible refine Below.setCell ?_ ?_ _) | (with_reducible refine belowStep (by assumption) ?_ ?_) | (with_reducible exact Below.size (by assumption)) | go_size))⟩
          · have h4b := emod_b' h4
            have E := Lib.hid (mp_rem Hxi.out Hxj.out h4)
            clear h4
            go_wp2
            go_quiet (fail)
            go_wp2
            go_ret2
            rw [mp_no E.out, E.out]
            exact ret_lnil (by (repeat' (first | (with_reducible exact Below.refl _ _) | (with_reducible assumption) | (with_reducible refine Below.drew ?_) | (with_reducible refine belowDrewN ?_ _) | (with_reducible refine Below.alloc ?_ ?_ _) | (with_reducible refine Below.setCell ?_ ?_ _) | (with_reducible refine belowStep (by assumption) ?_ ?_) | (with_reducible exact Below.size (by assumption)) | go_size)))
        · have E := mp_out (xs := xs) (i := i) (j := j) (by omega)
          rw [mp_no E, E]
          go_enter Try.func111, Try.ntmps111
          go_wp2_with fail
          refine (isExpansion_any _ _ _ _ Hxs.out lxs Hr64.out).mono ?_; rintro e w1 ⟨rfl, hb1⟩; have hz1 := hb1.size; (try simp only [World.size_alloc, World.size_setCell, World.size_drew, World.heap_drewN] at hz1)
          go_wp2_with fail
          refine (isIndex_yes _ _ _ _ _ hi0 hi1 lxs).mono ?_; rintro e w2 ⟨rfl, k2, rfl⟩
          go_wp2_with fail
          refine (isIndex_yes _ _ _ _ _ hj0 hj1 lxs).mono ?_; rintro e w3 ⟨rfl, k3, rfl⟩
          go_wp2
          go_ret2
          exact ret_lnil (by (repeat' (first | (with_reducible exact Below.refl _ _) | (with_reducible assumption) | (with_reducible refine Below.drew ?_) | (with_reducible refine belowDrewN ?_ _) | (with_reducible refine Below.alloc ?_ ?_ _) | (with_reducible refine Below.setCell ?_ ?_ _) | (with_reducible refine belowStep (by assumption) ?_ ?_) | (with_reducible exact Below.size (by assumption)) | go_size)))
      · have E := mp_out (xs := xs) (i := i) (j := j) (by omega)
        rw [mp_no E, E]
        go_enter Try.func111, Try.ntmps111
        go_wp2_with fail
        refine (isExpansion_any _ _ _ _ Hxs.out lxs Hr64.out).mono ?_; rintro e w1 ⟨rfl, hb1⟩; have hz1 := hb1.size; (try simp only [World.size_alloc, World.size_setCell, World.size_drew, World.heap_drewN] at hz1)
        go_wp2_with fail
        refine (isIndex_yes _ _ _ _ _ hi0 hi1 lxs).mono ?_; rintro e w2 ⟨rfl, k2, rfl⟩
        go_wp2_with fail
        refine (isIndex_no _ _ _ _ _ hj lxs).mono ?_; rintro e w3 ⟨rfl, k3, rfl⟩
        go_wp2
        go_ret2
        exact ret_lnil (by (repeat' (first | (with_reducible exact Below.refl _ _) | (with_reducible assumption) | (with_reducible refine Below.drew ?_) | (with_reducible refine belowDrewN ?_ _) | (with_reducible refine Below.alloc ?_ ?_ _) | (with_reducible refine Below.setCell ?_ ?_ _) | (with_reducible refine belowStep (by assumption) ?_ ?_) | (with_reducible exact Below.size (by assumption)) | go_size)))
    · have E := mp_out (xs := xs) (i := i) (j := j) (by omega)
      rw [mp_no E, E]
      go_enter Try.func111, Try.ntmps111
      go_wp2_with fail
      refine (isExpansion_any _ _ _ _ Hxs.out lxs Hr64.out).mono ?_; rintro e w1 ⟨rfl, hb1⟩; have hz1 := hb1.size; (try simp only [World.size_alloc, World.size_setCell, World.size_drew, World.heap_drewN] at hz1)
      go_wp2_with fail
      refine (isIndex_no _ _ _ _ _ hi lxs).mono ?_; rintro e w2 ⟨rfl, k2, rfl⟩
      go_wp2
      go_ret2
      exact ret_lnil (by (repeat' (first | (with_reducible exact Below.refl _ _) | (with_reducible assumption) | (with_reducible refine Below.drew ?_) | (with_reducible refine belowDrewN ?_ _) | (with_reducible refine Below.alloc ?_ ?_ _) | (with_reducible refine Below.setCell ?_ ?_ _) | (with_reducible refine belowStep (by assumption) ?_ ?_) | (with_reducible exact Below.size (by assumption)) | go_size)))
end Go.Proofs.Ytbjblkfibinenac
