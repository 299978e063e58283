import Derived.Test.YtolgjokghecceaaGreatDoorPt5
import Derived.Test.YtolgjokghecceaaGreatDoorPk3
import Derived.Test.YtolgjokghecceaaGreatDoorPk8
import Derived.Test.YtolgjokghecceaaGreatDoorPk5
import Derived.Test.YtolgjokghecceaaGreatDoorPk2
import Derived.Test.YtolgjokghecceaaGreatDoorWalk
import Derived.Test.YtolgjokghecceaaGreatDoorPk17
import Derived.Test.YtolgjokghecceaaGreatDoorPk15

/-
  The contract of the program's merge of two terms.
-/
namespace Go.Proofs.YtolgjokghecceaaGreatDoor
open Go.RowKit
/-- a merge: whether there is one term for the two, and the list with it -/
def mpB (xs : List Int) (i j : Int) : Bool := expB xs && decide (0 ≤ i) && decide (i < j) && decide (j < xs.length) && decide (termAt xs i * termAt xs j % (termAt xs i + termAt xs j) = 0) && intoB (keepL [i, j] 0 xs) [termAt xs i * termAt xs j / (termAt xs i + termAt xs j)]
def mpL (xs : List Int) (i j : Int) : List Int := if mpB xs i j = true then intoR (keepL [i, j] 0 xs) [termAt xs i * termAt xs j / (termAt xs i + termAt xs j)] else []
theorem into_false {xs fs : List Int} (h : intoB xs fs = false) : intoR xs fs = [] := by
  unfold intoB at h
  unfold intoR
  cases hi : intoL xs fs with
  | none => rfl
  | some ys => rw [hi] at h; simp only at h ⊢; rw [h]; rfl
theorem mp_no {xs : List Int} {i j : Int} (h : mpB xs i j = false) : mpL xs i j = [] := by rw [mpL, h]; rfl
theorem mp_exp {xs : List Int} {i j : Int} (h : expB xs = false) : mpB xs i j = false := by simp [mpB, h]
theorem mp_out {xs : List Int} {i j : Int} (h : ¬ (0 ≤ i ∧ i < j ∧ j < xs.length)) : mpB xs i j = false := by
  unfold mpB
  by_cases h1 : 0 ≤ i
  · by_cases h2 : i < j
    · have : ¬ j < xs.length := fun h3 => h ⟨h1, h2, h3⟩
      simp [this]
    · simp [h2]
  · simp [h1]
theorem mp_rem {xs : List Int} {i j : Nat} {a b : Int} (ha : xs[i]? = some a) (hb : xs[j]? = some b) (h : ¬ a * b % (a + b) = 0) : mpB xs i j = false := by
  unfold mpB
  rw [term_at ha, term_at hb]
  simp only [h, decide_false, Bool.and_false, Bool.false_and]
theorem mp_in {xs : List Int} {i j : Nat} {a b : Int} (hx : expB xs = true) (hij : i < j) (ha : xs[i]? = some a) (hb : xs[j]? = some b) (h : a * b % (a + b) = 0) : mpB xs i j = intoB (keepL [(i : Int), (j : Int)] 0 xs) [a * b / (a + b)] ∧ mpL xs i j = intoR (keepL [(i : Int), (j : Int)] 0 xs) [a * b / (a + b)] := by
  have hj : j < xs.length := (List.getElem?_eq_some_iff.1 hb).1
  have e : mpB xs i j = intoB (keepL [(i : Int), (j : Int)] 0 xs) [a * b / (a + b)] := by
    unfold mpB
    rw [term_at ha, term_at hb, hx]
    have h1 : (i : Int) < j := by omega
    have h2 : (j : Int) < xs.length := by omega
    have h3 : (0 : Int) ≤ i := by omega
    simp only [h, h1, h2, h3, decide_true, Bool.and_self, Bool.true_and]
  refine ⟨e, ?_⟩
  rw [mpL, e, term_at ha, term_at hb]
  cases hr : intoB (keepL [(i : Int), (j : Int)] 0 xs) [a * b / (a + b)] with
  | true => simp
  | false => rw [into_false hr]; rfl
set_option maxHeartbeats 8000000 in
theorem mergePair_any (w : World) (i j : Int) (ri : -9223372036854775808 ≤ i ∧ i ≤ 9223372036854775807) (rj : -9223372036854775808 ≤ j ∧ j ≤ 9223372036854775807) (Axs : Option Addr) (cxs : Nat) (xs : List Int) (hxs : Reads w Axs xs) (lxs : xs.length ≤ 1048576) (r64 : In64 xs) : Calls Tryz.prog 71 #[.slice Axs xs.length cxs, .int .i64 i, .int .i64 j] w (RetLB (mpL xs i j) (mpB xs i j) w) := by
  have Hr64 := Lib.hid r64
  have Hxs := Lib.hid hxs
  clear r64 hxs
  cases hx : expB xs with
  | false =>
    have E := mp_exp (i := i) (j := j) hx
    rw [mp_no E, E]
    go_enter Tryz.func71, Tryz.ntmps71
    go_wp2_with fail
    refine (isExpansion_any _ _ _ _ Hxs.out lxs Hr64.out).mono ?_; rintro e w1 ⟨rfl, hb1⟩; have hz1 := hb1.size; (try simp only [World.size_alloc, World.size_setCell, World.size_drew, World.heap_drewN] at hz1)
    go_wp2
    go_ret2
    exact ret_lnil (by (repeat' (first | (with_reducible exact Below.refl _ _) | (with_reducible assumption) | (with_reducible refine Below.drew ?_) | (with_reducible refine belowDrewN ?_ _) | (with_reducible refine Below.alloc ?_ ?_ _) | (with_reducible refine Below.setCell ?_ ?_ _) | (with_reducible refine belowStep (by assumption) ?_ ?_) | (with_reducible exact Below.size (by assumption)) | go_size)))
  | true =>
    by_cases hi : 0 ≤ i ∧ i < xs.length
    · obtain ⟨hi0, hi1⟩ := hi
      by_cases hj : 0 ≤ j ∧ j < xs.length
      · obtain ⟨hj0, hj1⟩ := hj
        by_cases hij : i < j
        · obtain ⟨i', rfl⟩ := Int.eq_ofNat_of_zero_le hi0
          obtain ⟨j', rfl⟩ := Int.eq_ofNat_of_zero_le hj0
          have hlen := expB_len hx
          have Hsm := Lib.hid (expB_small hx)
          have Hri := Lib.hid (expB_rising hx)
          go_enter Tryz.func71, Tryz.ntmps71
          go_wp2_with fail
          refine (isExpansion_any _ _ _ _ Hxs.out lxs Hr64.out).mono ?_; rintro e w1 ⟨rfl, hb1⟩; have hz1 := hb1.size; (try simp only [World.size_alloc, World.size_setCell, World.size_drew, World.heap_drewN] at hz1)
          go_wp2_with fail
          refine (isIndex_yes _ _ _ _ _ hi0 hi1 lxs).mono ?_; rintro e w2 ⟨rfl, k2, rfl⟩
          go_wp2_with fail
          refine (isIndex_yes _ _ _ _ _ hj0 hj1 lxs).mono ?_; rintro e w3 ⟨rfl, k3, rfl⟩
          obtain ⟨b, o, x, y, rfl, hb, hxi, hxj, hcell, hcell2⟩ := (Hxs.out.below hb1).at2 (k := i') (j := j') (by omega) (by omega)
          obtain ⟨x1, x2⟩ := Hsm.out x (List.mem_of_getElem? hxi)
          obtain ⟨y1, y2⟩ := Hsm.out y (List.mem_of_getElem? hxj)
          have m1 := mul_bounds (by omega : 0 ≤ x) x2 (by omega : 0 ≤ y) y2
          have s1 : IntKind.i64.wrap (x * y) = x * y := IntWalk.i64_in _ (by omega)
          have s2 : IntKind.i64.wrap (x + y) = x + y := IntWalk.i64_in _ (by omega)
          have Hxi := Lib.hid hxi
          have Hxj := Lib.hid hxj
          clear hxi hxj
          have hs0 : x + y ≠ 0 := by omega
          by_cases h4 : x * y % (x + y) = 0
          · have h4b := emod_b h4
            have E := Lib.hid (mp_in hx (by omega : i' < j') Hxi.out Hxj.out h4)
            clear h4
            have d1 : 0 ≤ x * y / (x + y) := Int.ediv_nonneg (by omega) (by omega)
            have d3 : x * y / (x + y) ≤ 1000000000000000000 := by have := Int.ediv_le_self (x + y) (by omega : 0 ≤ x * y); omega
            have y3 : IntKind.i64.wrap ((x * y).tdiv (x + y)) = x * y / (x + y) := by rw [Int.tdiv_eq_ediv_of_nonneg (by omega)]; exact IntWalk.i64_in _ (by omega)
            obtain ⟨rs, hrs⟩ : ∃ rs, rs = keepL [(i' : Int), (j' : Int)] 0 xs := ⟨_, rfl⟩
            have hrl : rs.length ≤ xs.length := by rw [hrs]; exact keep_len _ _ _
            have R64 : Hid (In64 rs) := by rw [hrs]; exact In64.of_mem (fun z hz => Hr64.out.mem z (keep_mem _ _ _ _ hz))
            have Rr : Hid (Rising rs) := by rw [hrs]; exact Hri.out.keep _ _
            have F64 : Hid (In64 [x * y / (x + y)]) := In64.of_mem (fun z hz => by rcases List.mem_cons.1 hz with rfl | hz; omega; cases hz)
            have Hrs := Lib.hid hrs
            clear hrs
            go_wp2
            go_quiet (fail)
            go_wp2
            go_upto_region 6 with fail
            go_region_with (first
              | (go_at_call 92; refine (without_any _ _ _ _ (Hxs.out.below (by (repeat' (first | (with_reducible exact Below.refl _ _) | (with_reducible assumption) | (with_reducible refine Below.drew ?_) | (with_reducible refine belowDrewN ?_ _) | (with_reducible refine Below.alloc ?_ ?_ _) | (with_reducible refine Below.setCell ?_ ?_ _) | (with_reducible refine belowStep (by assumption) ?_ ?_) | (with_reducible exact Below.size (by assumption)) | go_size)))) lxs _ 2 [(i' : Int), (j' : Int)] (Reads.of2 (by (first | (go_size; done) | ((try simp only [World.size_alloc, World.size_setCell, World.size_drew, World.heap_drewN]); omega))) (by (repeat' (first | (exact cellNew (by (first | (go_size; done) | ((try simp only [World.size_alloc, World.size_setCell, World.size_drew, World.heap_drewN]); omega))) rfl) | (refine (hc4 _ _ (by (first | (go_size; done) | ((try simp only [World.size_alloc, World.size_setCell, World.size_drew, World.heap_drewN]); omega)))).trans ?_) | (refine cellOld _ ?_)))) (by (repeat' (first | (exact cellNew (by (first | (go_size; done) | ((try simp only [World.size_alloc, World.size_setCell, World.size_drew, World.heap_drewN]); omega))) rfl) | (refine (hc4 _ _ (by (first | (go_size; done) | ((try simp only [World.size_alloc, World.size_setCell, World.size_drew, World.heap_drewN]); omega)))).trans ?_) | (refine cellOld _ ?_))))) (by simp)).mono ?_; rintro e w4 ⟨v4, rfl, ho4, hb4⟩; obtain ⟨hc4, hf4⟩ := bcellB hb4; have hz4 := hb4.size; (try simp only [World.size_alloc, World.size_setCell, World.size_drew, World.heap_drewN] at hc4 hf4 hz4); (try have hy4_r_0 : wr.heap.size < w4.heap.size := by omega); (try have hn4_r_0 : wr.heap.size ≠ w4.heap.size := by omega); (try have hm4_r_0 : w4.heap.size ≠ wr.heap.size := by omega); (try have hy4_r_1 : wr.heap.size + 1 < w4.heap.size := by omega); (try have hn4_r_1 : wr.heap.size + 1 ≠ w4.heap.size := by omega); (try have hm4_r_1 : w4.heap.size ≠ wr.heap.size + 1 := by omega); (try have hy4_r_2 : wr.heap.size + 1 + 1 < w4.heap.size := by omega); (try have hp4_r_1 : wr.heap.size < w4.heap.size + 1 := by omega); (try have hp4_r_2 : wr.heap.size < w4.heap.size + 1 + 1 := by omega); (try have hy4_0_0 : w.heap.size < w4.heap.size := by omega); (try have hn4_0_0 : w.heap.size ≠ w4.heap.size := by omega); (try have hm4_0_0 : w4.heap.size ≠ w.heap.size := by omega); (try have hy4_0_1 : w.heap.size + 1 < w4.heap.size := by omega); (try have hn4_0_1 : w.heap.size + 1 ≠ w4.heap.size := by omega); (try have hm4_0_1 : w4.heap.size ≠ w.heap.size + 1 := by omega); (try have hy4_0_2 : w.heap.size + 1 + 1 < w4.heap.size := by omega); (try have hp4_0_1 : w.heap.size < w4.heap.size + 1 := by omega); (try have hp4_0_2 : w.heap.size < w4.heap.size + 1 + 1 := by omega); (try have hy4_1_0 : w1.heap.size < w4.heap.size := by omega); (try have hn4_1_0 : w1.heap.size ≠ w4.heap.size := by omega); (try have hm4_1_0 : w4.heap.size ≠ w1.heap.size := by omega); (try have hy4_1_1 : w1.heap.size + 1 < w4.heap.size := by omega); (try have hn4_1_1 : w1.heap.size + 1 ≠ w4.heap.size := by omega); (try have hm4_1_1 : w4.heap.size ≠ w1.heap.size + 1 := by omega); (try have hy4_1_2 : w1.heap.size + 1 + 1 < w4.heap.size := by omega); (try have hp4_1_1 : w1.heap.size < w4.heap.size + 1 := by omega); (try have hp4_1_2 : w1.heap.size < w4.heap.size + 1 + 1 := by omega); (try have hy4_2_0 : w2.heap.size < w4.heap.size := by omega); (try have hn4_2_0 : w2.heap.size ≠ w4.heap.size := by omega); (try have hm4_2_0 : w4.heap.size ≠ w2.heap.size := by omega); (try have hy4_2_1 : w2.heap.size + 1 < w4.heap.size := by omega); (try have hn4_2_1 : w2.heap.size + 1 ≠ w4.heap.size := by omega); (try have hm4_2_1 : w4.heap.size ≠ w2.heap.size + 1 := by omega); (try have hy4_2_2 : w2.heap.size + 1 + 1 < w4.heap.size := by omega); (try have hp4_2_1 : w2.heap.size < w4.heap.size + 1 := by omega); (try have hp4_2_2 : w2.heap.size < w4.heap.size + 1 + 1 := by omega); (try have hy4_3_0 : w3.heap.size < w4.heap.size := by omega); (try have hn4_3_0 : w3.heap.size ≠ w4.heap.size := by omega); (try have hm4_3_0 : w4.heap.size ≠ w3.heap.size := by omega); (try have hy4_3_1 : w3.heap.size + 1 < w4.heap.size := by omega); (try have hn4_3_1 : w3.heap.size + 1 ≠ w4.heap.size := by omega); (try have hm4_3_1 : w4.heap.size ≠ w3.heap.size + 1 := by omega); (try have hy4_3_2 : w3.heap.size + 1 + 1 < w4.heap.size := by omega); (try have hp4_3_1 : w3.heap.size < w4.heap.size + 1 := by omega); (try have hp4_3_2 : w3.heap.size < w4.heap.size + 1 + 1 := by omega); (try have hg4_g1 : g1 < w4.heap.size := by omega); (try have hi4_g1 : g1 ≠ w4.heap.size := by omega); (try have hj4_g1 : w4.heap.size ≠ g1 := by omega); (try have hk4_g1 : g1 < w4.heap.size + 1 := by omega); (try have hg4_g2 : g2 < w4.heap.size := by omega); (try have hi4_g2 : g2 ≠ w4.heap.size := by omega); (try have hj4_g2 : w4.heap.size ≠ g2 := by omega); (try have hk4_g2 : g2 < w4.heap.size + 1 := by omega); rw [← Hrs.out] at ho4; obtain ⟨A4, c4, rfl, hr4⟩ := ho4.form; have hcap4 := ho4.cap_; have Hr4 := Lib.hid hr4; clear ho4 hr4)
              | (go_at_call 91; refine (putInto_any _ A4 c4 rs (Hr4.out.below (by (repeat' (first | (with_reducible exact Below.refl _ _) | (with_reducible assumption) | (with_reducible refine Below.drew ?_) | (with_reducible refine belowDrewN ?_ _) | (with_reducible refine Below.alloc ?_ ?_ _) | (with_reducible refine Below.setCell ?_ ?_ _) | (with_reducible refine belowStep (by assumption) ?_ ?_) | (with_reducible exact Below.size (by assumption)) | go_size)))) (by omega) _ 1 [x * y / (x + y)] (Reads.of1 (by (first | (go_size; done) | ((try simp only [World.size_alloc, World.size_setCell, World.size_drew, World.heap_drewN]); omega))) (by (repeat' (first | (exact cellNew (by (first | (go_size; done) | ((try simp only [World.size_alloc, World.size_setCell, World.size_drew, World.heap_drewN]); omega))) rfl) | (refine (hc4 _ _ (by (first | (go_size; done) | ((try simp only [World.size_alloc, World.size_setCell, World.size_drew, World.heap_drewN]); omega)))).trans ?_) | (refine cellOld _ ?_))))) (by simp) hcap4 Rr.out R64.out F64.out (by omega) (by simp) (by simp)).mono ?_; rintro e w5 ⟨v5, rfl, ho5, hb5⟩; have hz5 := hb5.size; (try simp only [World.size_alloc, World.size_drew, World.heap_drewN] at hz5); have Ho5 := Lib.hid ho5; clear ho5))
            all_goals
              go_wp2
              go_ret2
              rw [E.out.1, E.out.2, ← Hrs.out]
              exact ⟨_, rfl, Ho5.out.mono (by (first | (go_size; done) | ((try simp only [World.size_alloc, World.size_setCell, World.size_drew, World.heap_drewN]); omega))), by (repeat' (first | (with_reducible exact Below.refl _ _) | (with_reducible assumption) | (with_reducible refine Below.drew ?_) | (with_reducible refine belowDrewN ?_ _) | (with_reducible refine Below.alloc ?_ ?_ _) | (with_reducible refine Below.setCell ?_ ?_ _) | (with_reducible refine belowStep (by assumption) ?_ ?_) | (with_reducible exact Below.size (by assumption)) | go_size))⟩
          · have h4b := emod_b' h4
            have E := Lib.hid (mp_rem Hxi.out Hxj.out h4)
            clear h4
            go_wp2
            go_quiet (fail)
            go_wp2
            go_ret2
            rw [mp_no E.out, E.out]
            exact ret_lnil (by (repeat' (first | (with_reducible exact Below.refl _ _) | (with_reducible assumption) | (with_reducible refine Below.drew ?_) | (with_reducible refine belowDrewN ?_ _) | (with_reducible refine Below.alloc ?_ ?_ _) | (with_reducible refine Below.setCell ?_ ?_ _) | (with_reducible refine belowStep (by assumption) ?_ ?_) | (with_reducible exact Below.size (by assumption)) | go_size)))
        · have E := mp_out (xs := xs) (i := i) (j := j) (by omega)
          rw [mp_no E, E]
          go_enter Tryz.func71, Tryz.ntmps71
          go_wp2_with fail
          refine (isExpansion_any _ _ _ _ Hxs.out lxs Hr64.out).mono ?_; rintro e w1 ⟨rfl, hb1⟩; have hz1 := hb1.size; (try simp only [World.size_alloc, World.size_setCell, World.size_drew, World.heap_drewN] at hz1)
          go_wp2_with fail
          refine (isIndex_yes _ _ _ _ _ hi0 hi1 lxs).mono ?_; rintro e w2 ⟨rfl, k2, rfl⟩
          go_wp2_with fail
          refine (isIndex_yes _ _ _ _ _ hj0 hj1 lxs).mono ?_; rintro e w3 ⟨rfl, k3, rfl⟩
          go_wp2
          go_ret2
          exact ret_lnil (by (repeat' (first | (with_reducible exact Below.refl _ _) | (with_reducible assumption) | (with_reducible refine Below.drew ?_) | (with_reducible refine belowDrewN ?_ _) | (with_reducible refine Below.alloc ?_ ?_ _) | (with_reducible refine Below.setCell ?_ ?_ _) | (with_reducible refine belowStep (by assumption) ?_ ?_) | (with_reducible exact Below.size (by assumption)) | go_size)))
      · have E := mp_out (xs := xs) (i := i) (j := j) (by omega)
        rw [mp_no E, E]
        go_enter Tryz.func71, Tryz.ntmps71
        go_wp2_with fail
        refine (isExpansion_any _ _ _ _ Hxs.out lxs Hr64.out).mono ?_; rintro e w1 ⟨rfl, hb1⟩; have hz1 := hb1.size; (try simp only [World.size_alloc, World.size_setCell, World.size_drew, World.heap_drewN] at hz1)
        go_wp2_with fail
        refine (isIndex_yes _ _ _ _ _ hi0 hi1 lxs).mono ?_; rintro e w2 ⟨rfl, k2, rfl⟩
        go_wp2_with fail
        refine (isIndex_no _ _ _ _ _ hj lxs).mono ?_; rintro e w3 ⟨rfl, k3, rfl⟩
        go_wp2
        go_ret2
        exact ret_lnil (by (repeat' (first | (with_reducible exact Below.refl _ _) | (with_reducible assumption) | (with_reducible refine Below.drew ?_) | (with_reducible refine belowDrewN ?_ _) | (with_reducible refine Below.alloc ?_ ?_ _) | (with_reducible refine Below.setCell ?_ ?_ _) | (with_reducible refine belowStep (by assumption) ?_ ?_) | (with_reducible exact Below.size (by assumption)) | go_size)))
    · have E := mp_out (xs := xs) (i := i) (j := j) (by omega)
      rw [mp_no E, E]
      go_enter Tryz.func71, Tryz.ntmps71
      go_wp2_with fail
      refine (isExpansion_any _ _ _ _ Hxs.out lxs Hr64.out).mono ?_; rintro e w1 ⟨rfl, hb1⟩; have hz1 := hb1.size; (try simp only [World.size_alloc, World.size_setCell, World.size_drew, World.heap_drewN] at hz1)
      go_wp2_with fail
      refine (isIndex_no _ _ _ _ _ hi lxs).mono ?_; rintro e w2 ⟨rfl, k2, rfl⟩
      go_wp2
      go_ret2
      exact ret_lnil (by (repeat' (first | (with_reducible exact Below.refl _ _) | (with_reducible assumption) | (with_reducible refine Below.drew ?_) | (with_reducible refine belowDrewN ?_ _) | (with_reducible refine Below.alloc ?_ ?_ _) | (with_reducible refine Below.setCell ?_ ?_ _) | (with_reducible refine belowStep (by assumption) ?_ ?_) | (with_reducible exact Below.size (by assumption)) | go_size)))
end Go.Proofs.YtolgjokghecceaaGreatDoor


/-
  The contract of the model's merge of two terms of an expansion.
-/
namespace Go.Proofs.YtolgjokghecceaaGreatDoor
open Go.RowKit
theorem into_one {rs : List Int} (hr : Rising rs) (f : Int) : intoB rs [f] = (!hasB rs f && expB (putL rs f)) ∧ intoR rs [f] = if (!hasB rs f && expB (putL rs f)) = true then putL rs f else [] := by
  cases h : hasB rs f with
  | true =>
    obtain ⟨a, b⟩ := into_none (into_yes (fs := []) h)
    rw [a, b]
    simp
  | false =>
    have e : intoL rs [f] = some (putL rs f) := by
      rw [into_no h, put_no hr (by rw [h]; simp)]
      rfl
    obtain ⟨a, b⟩ := into_some e
    rw [a, b]
    simp
theorem merge_gcd {x y : Int} (hx : 1 ≤ x) (hy : 1 ≤ y) : (x * y % (x + y) = 0 → (1 * y + 1 * x) / gcdI (1 * y + 1 * x) (x * y) = 1 ∧ (x * y) / gcdI (1 * y + 1 * x) (x * y) = x * y / (x + y)) ∧ (¬ x * y % (x + y) = 0 → (1 * y + 1 * x) / gcdI (1 * y + 1 * x) (x * y) ≠ 1) := by
  have es : 1 * y + 1 * x = x + y := by omega
  rw [es]
  have hp := mul_pos1 hx hy
  have hg := gcdI_pos (x + y) (x * y) (by omega)
  constructor
  · intro h
    have hd : x + y ∣ x * y := Int.dvd_of_emod_eq_zero h
    have e : gcdI (x + y) (x * y) = x + y := by
      unfold gcdI
      rw [Int.gcd_eq_left_iff_dvd (by omega) |>.2 hd]
    rw [e]
    exact ⟨Int.ediv_self (by omega), rfl⟩
  · intro h e
    have h1 := Int.ediv_mul_cancel (gcdI_dvdL (x + y) (x * y))
    rw [e, Int.one_mul] at h1
    have h2 := gcdI_dvdR (x + y) (x * y)
    rw [h1] at h2
    exact h (Int.emod_eq_zero_of_dvd h2)
theorem has_two (i j k : Nat) : hasB [(i : Int), (j : Int)] (k : Int) = (decide (k = i) || decide (k = j)) := by
  rw [Bool.eq_iff_iff, hasB_iff]
  simp
  omega
end Go.Proofs.YtolgjokghecceaaGreatDoor


/-
  Plain facts on merging: the first pair that can be merged, and what is left when all is merged.
-/
namespace Go.Proofs.YtolgjokghecceaaGreatDoor
open Go.RowKit
def mfJ (xs : List Int) (i : Nat) : Nat → Nat → Option (List Int)
  | 0, _ => none
  | k + 1, j => if mpB xs i j = true then some (mpL xs i j) else mfJ xs i k (j + 1)
def mfI (xs : List Int) : Nat → Nat → Option (List Int)
  | 0, _ => none
  | k + 1, i => match mfJ xs i (xs.length - (i + 1)) (i + 1) with
    | some ys => some ys
    | none => mfI xs k (i + 1)
/-- the first merge that can be -/
def mf (xs : List Int) : Option (List Int) := mfI xs xs.length 0
theorem mfJ_yes {xs : List Int} {i k j : Nat} (h : mpB xs i j = true) : mfJ xs i (k + 1) j = some (mpL xs i j) := if_pos h
theorem mfJ_no {xs : List Int} {i k j : Nat} (h : mpB xs i j = false) : mfJ xs i (k + 1) j = mfJ xs i k (j + 1) := if_neg (by rw [h]; simp)
theorem mfI_some {xs ys : List Int} {i k : Nat} (h : mfJ xs i (xs.length - (i + 1)) (i + 1) = some ys) : mfI xs (k + 1) i = some ys := by rw [mfI, h]
theorem mfI_none {xs : List Int} {i k : Nat} (h : mfJ xs i (xs.length - (i + 1)) (i + 1) = none) : mfI xs (k + 1) i = mfI xs k (i + 1) := by rw [mfI, h]
theorem mfJ_is {xs ys : List Int} {i : Nat} : ∀ (k j : Nat), mfJ xs i k j = some ys → ∃ j', j ≤ j' ∧ mpB xs i (j' : Nat) = true ∧ ys = mpL xs i (j' : Nat)
  | 0, j, h => by cases h
  | k + 1, j, h => by
    cases hb : mpB xs i j with
    | true => rw [mfJ_yes hb] at h; injection h with h; exact ⟨j, Nat.le_refl _, hb, h.symm⟩
    | false =>
      rw [mfJ_no hb] at h
      obtain ⟨j', h1, h2⟩ := mfJ_is k (j + 1) h
      exact ⟨j', by omega, h2⟩
theorem mfI_is {xs ys : List Int} : ∀ (k i : Nat), mfI xs k i = some ys → ∃ i' j' : Nat, i' < j' ∧ mpB xs i' j' = true ∧ ys = mpL xs i' j'
  | 0, i, h => by cases h
  | k + 1, i, h => by
    cases hj : mfJ xs i (xs.length - (i + 1)) (i + 1) with
    | some zs =>
      rw [mfI_some hj] at h
      injection h with h
      subst h
      obtain ⟨j', h1, h2⟩ := mfJ_is _ _ hj
      exact ⟨i, j', by omega, h2⟩
    | none =>
      rw [mfI_none hj] at h
      exact mfI_is k (i + 1) h
theorem keep_two_len {xs : List Int} {i j : Nat} (hij : i < j) : ∀ k, k ≤ xs.length → (keepL [(i : Int), (j : Int)] 0 (xs.take k)).length + ((if i < k then 1 else 0) + (if j < k then 1 else 0)) = k
  | 0, _ => by simp [keepL]
  | k + 1, hk => by
    have ih := keep_two_len (xs := xs) hij k (by omega)
    obtain ⟨x, hx⟩ : ∃ x, xs[k]? = some x := ⟨_, List.getElem?_eq_getElem (by omega)⟩
    rw [keep_take hx, has_two, List.length_append]
    by_cases h1 : k = i
    · have a1 : ¬ i < k := by omega
      have a2 : i < k + 1 := by omega
      have a3 : ¬ j < k := by omega
      have a4 : ¬ j < k + 1 := by omega
      rw [if_neg a1, if_neg a3] at ih
      rw [if_pos a2, if_neg a4]
      simp [h1] at ih ⊢
      omega
    · by_cases h2 : k = j
      · have a1 : i < k := by omega
        have a2 : i < k + 1 := by omega
        have a3 : ¬ j < k := by omega
        have a4 : j < k + 1 := by omega
        rw [if_pos a1, if_neg a3] at ih
        rw [if_pos a2, if_pos a4]
        simp [h2] at ih ⊢
        omega
      · have e1 : (if i < k + 1 then 1 else 0) = (if i < k then 1 else 0) := by
          by_cases h3 : i < k
          · rw [if_pos h3, if_pos (by omega)]
          · rw [if_neg h3, if_neg (by omega)]
        have e2 : (if j < k + 1 then 1 else 0) = (if j < k then 1 else 0) := by
          by_cases h3 : j < k
          · rw [if_pos h3, if_pos (by omega)]
          · rw [if_neg h3, if_neg (by omega)]
        rw [e1, e2]
        simp [h1, h2]
        omega
/-- a merge has one term less, and is an expansion -/
theorem mp_less {xs : List Int} {i j : Nat} (hij : i < j) (h : mpB xs i j = true) : expB (mpL xs i j) = true ∧ (mpL xs i j).length + 1 = xs.length := by
  have h0 := h
  unfold mpB at h0
  simp only [Bool.and_eq_true, decide_eq_true_eq] at h0
  obtain ⟨⟨⟨⟨⟨hx, _⟩, _⟩, hj⟩, _⟩, hi⟩ := h0
  have hjl : j < xs.length := by omega
  have hk := keep_two_len (xs := xs) hij xs.length (Nat.le_refl _)
  rw [List.take_length, if_pos (by omega), if_pos hjl] at hk
  have hr := (expB_rising hx).keep [(i : Int), (j : Int)] 0
  have e := h
  obtain ⟨f1, f2⟩ := into_one hr (termAt xs i * termAt xs j / (termAt xs i + termAt xs j))
  rw [mpL, if_pos h, f2]
  rw [f1] at hi
  rw [if_pos hi]
  simp only [Bool.and_eq_true, Bool.not_eq_true'] at hi
  refine ⟨hi.2, ?_⟩
  rw [put_no hr (by rw [hi.1]; simp), ins_len _ _ _ (pos_le _ _)]
  omega
theorem mf_less {xs ys : List Int} (h : mf xs = some ys) : expB ys = true ∧ ys.length + 1 = xs.length := by
  obtain ⟨i, j, hij, hb, rfl⟩ := mfI_is _ _ h
  exact mp_less hij hb
/-- so many merges at most -/
def mall : Nat → List Int → List Int
  | 0, xs => xs
  | k + 1, xs => match mf xs with
    | some ys => mall k ys
    | none => xs
theorem mall_none {k : Nat} {xs : List Int} (h : mf xs = none) : mall k xs = xs := by
  cases k with
  | zero => rfl
  | succ k => rw [mall, h]
theorem mall_some {k : Nat} {xs ys : List Int} (h : mf xs = some ys) : mall (k + 1) xs = mall k ys := by rw [mall, h]
def maO (xs : List Int) : Option (List Int) := if expB xs = true then some (mall xs.length xs) else none
theorem mall_len : ∀ (k : Nat) (xs : List Int), (mall k xs).length ≤ xs.length
  | 0, xs => Nat.le_refl _
  | k + 1, xs => by
    cases h : mf xs with
    | none => rw [mall_none h]; exact Nat.le_refl _
    | some ys =>
      rw [mall_some h]
      have := mall_len k ys
      have := (mf_less h).2
      omega
theorem maO_len (xs : List Int) : ((maO xs).getD []).length ≤ 24 := by
  unfold maO
  split
  · rename_i h
    have := mall_len xs.length xs
    have := expB_len h
    simp only [Option.getD_some]
    omega
  · simp
end Go.Proofs.YtolgjokghecceaaGreatDoor


/-
  The library's contracts of slices.Clone at empty lists, at the seat of the last law on methods (elsewhere the seat's Shelf has them).
-/
namespace Go.Proofs
open Go.RowKit Go.Lib Go.Shelf in
theorem Tryz.slices_Clone_int_nil (n c : Nat) (w : World) :
    Calls Tryz.prog 46 #[.slice none n c] w fun e w' => e = .returned (.slice none 0 0) ∧ w' = w := Any.slices_Clone_int_nil Tryz.laysNm215 n c w
open Go.RowKit Go.Lib Go.Shelf in
theorem Tryz.slices_Clone_int_zero (a : Addr) (c : Nat) (w : World) :
    Calls Tryz.prog 46 #[.slice (some a) 0 c] w fun e w' => ∃ v', e = .returned v' ∧ w'.ownsRow w.heap.size 3 1 v' 0 [] ∧ v' ≠ .slice none 0 0 ∧ Below w.heap.size w w' := Any.slices_Clone_int_zero Tryz.laysNm215 a c w
end Go.Proofs
