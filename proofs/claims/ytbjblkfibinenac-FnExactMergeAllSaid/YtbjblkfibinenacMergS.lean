
/-
  The contract of the model's merge of two terms of an expansion.
-/
import Derived.Test.YtbjblkfibinenacMergePair
import Derived.Test.YtbjblkfibinenacOwn
import Derived.Test.YtbjblkfibinenacIfExp
import Derived.Test.YtbjblkfibinenacArith
import Derived.Test.YtbjblkfibinenacHas
import Derived.Test.YtbjblkfibinenacWalk
import Derived.Test.YtbjblkfibinenacPro
namespace Go.Proofs.Ytbjblkfibinenac
open Go.RowKit
theorem into_one {rs : List Int} (hr : Rising rs) (f : Int) : intoB rs [f] = (!hasB rs f && expB (putL rs f)) ∧ intoR rs [f] = if (!hasB rs f && expB (putL rs f)) = true then putL rs f else [] := by
  cases h : hasB rs f with
  | true =>
    obtain ⟨a, b⟩ := into_none (into_yes (fs := []) h)
    rw [a, b]
    simp
  | false =>
    have e : intoL rs [f] = some (putL rs f) := by
      rw [into_no h, put_no hr (by rw [h]; simp)]
      rfl
    obtain ⟨a, b⟩ := into_some e
    rw [a, b]
    simp
theorem merge_gcd {x y : Int} (hx : 1 ≤ x) (hy : 1 ≤ y) : (x * y % (x + y) = 0 → (1 * y + 1 * x) / gcdI (1 * y + 1 * x) (x * y) = 1 ∧ (x * y) / gcdI (1 * y + 1 * x) (x * y) = x * y / (x + y)) ∧ (¬ x * y % (x + y) = 0 → (1 * y + 1 * x) / gcdI (1 * y + 1 * x) (x * y) ≠ 1) := by
  have es : 1 * y + 1 * x = x + y := by omega
  rw [es]
  have hp := mul_pos1 hx hy
  have hg := gcdI_pos (x + y) (x * y) (by omega)
  constructor
  · intro h
    have hd : x + y ∣ x * y := Int.dvd_of_emod_eq_zero h
    have e : gcdI (x + y) (x * y) = x + y := by
      unfold gcdI
      rw [Int.gcd_eq_left_iff_dvd (by omega) |>.2 hd]
    rw [e]
    exact ⟨Int.ediv_self (by omega), rfl⟩
  · intro h e
    have h1 := Int.ediv_mul_cancel (gcdI_dvdL (x + y) (x * y))
    rw [e, Int.one_mul] at h1
    have h2 := gcdI_dvdR (x + y) (x * y)
    rw [h1] at h2
    exact h (Int.emod_eq_zero_of_dvd h2)
theorem has_two (i j k : Nat) : hasB [(i : Int), (j : Int)] (k : Int) = (decide (k = i) || decide (k = j)) := by
  rw [Bool.eq_iff_iff, hasB_iff]
  simp
  omega
set_option maxRecDepth 100000 in
set_option maxHeartbeats 8000000 in
theorem spec_mergePair_in (w : World) (i j : Nat) (Axs : Option Addr) (cxs : Nat) (xs : List Int) (hxs : Reads w Axs xs) (lxs : xs.length ≤ 1048576) (hx : expB xs = true) (hij : i < j) (hj : j < xs.length) : Calls Try.prog 110 #[.slice Axs xs.length cxs, .int .i64 (i : Int), .int .i64 (j : Int)] w (RetRB (mpL xs i j) (mpB xs i j) w) := by
  have Hxs := Lib.hid hxs
  have hlen := expB_len hx
  have Hri := Lib.hid (expB_rising hx)
  obtain ⟨b0, o, x, y, rfl, hb0, hxi, hxj, c1, c2⟩ := hxs.at2 (k := i) (j := j) (by omega) hj
  obtain ⟨x1, x2⟩ := expB_small hx x (List.mem_of_getElem? hxi)
  obtain ⟨y1, y2⟩ := expB_small hx y (List.mem_of_getElem? hxj)
  obtain ⟨m1, m2⟩ := merge_gcd x1 y1
  have HA := Lib.hid fun (w : World) => unAdd_any 1 x 1 y w (by omega) (by omega) x1 x2 (by omega) (by omega) y1 y2
  have HU := Lib.hid fun (v : Int) (w : World) => unUnit_any v w
  have HX := Lib.hid hx
  have ij1 : (1 : Int) ≤ (j : Int) := by omega
  have ij2 : (j : Int) ≤ (xs.length : Int) - 1 := by omega
  have ij3 : (i : Int) ≤ (j : Int) - 1 := by omega
  have ij4 : (i : Int) < (xs.length : Int) := by omega
  have ij5 : (j : Int) < (xs.length : Int) := by omega
  have Hxi := Lib.hid hxi
  have Hxj := Lib.hid hxj
  have M1 := Lib.hid m1
  have M2 := Lib.hid m2
  have hN0 : 0 ≤ (1 * y + 1 * x) / gcdI (1 * y + 1 * x) (x * y) := Int.ediv_nonneg (by omega) (gcdI_nonneg _ _)
  clear hxs hxi hxj m1 m2 hx
  generalize hNN : (1 * y + 1 * x) / gcdI (1 * y + 1 * x) (x * y) = N at *
  generalize hDD : (x * y) / gcdI (1 * y + 1 * x) (x * y) = D at *
  clear hNN hDD
  go_enter Try.func110, Try.ntmps110
  go_wp2_with fail
  refine (unExpansion_any _ _ _ _ (Hxs.out.below (by (repeat' (first | (with_reducible exact Below.refl _ _) | (with_reducible assumption) | (with_reducible refine Below.drew ?_) | (with_reducible refine belowDrewN ?_ _) | (with_reducible refine Below.alloc ?_ ?_ _) | (with_reducible refine Below.setCell ?_ ?_ _) | (with_reducible refine belowStep (by assumption) ?_ ?_) | (with_reducible exact Below.size (by assumption)) | go_size)))) lxs).mono ?_; rintro e w1 ⟨rfl, hb1⟩
  rw [HX.out]
  have hz1 := hb1.size
  have HC : Hid (∀ w' : World, Below (b0 + 1) w1 w' → w'.cell? ⟨b0, o + i, none⟩ = some (.int .i64 x) ∧ w'.cell? ⟨b0, o + j, none⟩ = some (.int .i64 y)) := Lib.hid fun w' h => ⟨(h.cell (p := ⟨b0, o + i, none⟩) (by show b0 < b0 + 1; omega)).trans ((hb1.cell (p := ⟨b0, o + i, none⟩) hb0).trans c1), (h.cell (p := ⟨b0, o + j, none⟩) (by show b0 < b0 + 1; omega)).trans ((hb1.cell (p := ⟨b0, o + j, none⟩) hb0).trans c2)⟩
  have hb01 : b0 + 1 ≤ w1.heap.size := by omega
  go_upto_region 3 with (go_at_call 54; refine ((l1In_yes _ _ _ _ (by omega) (by omega)).mono fun _ _ h => h.ret).mono ?_; rintro e w2 ⟨rfl, hb2⟩; have hz2 := hb2.size)
  go_cut [8] (fun s8 wx => ∃ g : Nat, s8 = .pointer (some ⟨g, 0, none⟩) ∧ w2.heap.size ≤ g ∧ TwoAt wx g N D ∧ Below w2.heap.size w2 wx)
  case first =>
    go_region_held3 (fun w' => w'.cell? ⟨b0, o + i, none⟩ = some (.int .i64 x) ∧ w'.cell? ⟨b0, o + j, none⟩ = some (.int .i64 y)) (exact HC.out _ (by (repeat' (first | (with_reducible exact Below.refl _ _) | (with_reducible assumption) | (with_reducible refine Below.drew ?_) | (with_reducible refine belowDrewN ?_ _) | (with_reducible refine Below.alloc ?_ ?_ _) | (with_reducible refine Below.setCell ?_ ?_ _) | (with_reducible refine belowStep (by assumption) ?_ ?_) | (with_reducible exact Below.size (by assumption)) | go_size)))) (first
      | (go_at_call_of 77 (Value.int IntKind.i64 x); refine (HU.out x _).mono ?_; rintro e w3 ⟨rfl, hb3⟩; obtain ⟨hc3, hf3⟩ := bcellB hb3; have hz3 := hb3.size; (try simp only [World.size_alloc, World.size_drew] at hc3 hf3 hz3); (try have hy3_00 : w.heap.size < w3.heap.size := by omega); (try have hn3_00 : w.heap.size ≠ w3.heap.size := by omega); (try have hm3_00 : w3.heap.size ≠ w.heap.size := by omega); (try have hp3_00 : w.heap.size < w3.heap.size + 1 := by omega); (try have hy3_01 : w.heap.size + 1 < w3.heap.size := by omega); (try have hn3_01 : w.heap.size + 1 ≠ w3.heap.size := by omega); (try have hm3_01 : w3.heap.size ≠ w.heap.size + 1 := by omega); (try have hp3_01 : w.heap.size + 1 < w3.heap.size + 1 := by omega); (try have hy3_10 : w2.heap.size < w3.heap.size := by omega); (try have hn3_10 : w2.heap.size ≠ w3.heap.size := by omega); (try have hm3_10 : w3.heap.size ≠ w2.heap.size := by omega); (try have hp3_10 : w2.heap.size < w3.heap.size + 1 := by omega); (try have hy3_11 : w2.heap.size + 1 < w3.heap.size := by omega); (try have hn3_11 : w2.heap.size + 1 ≠ w3.heap.size := by omega); (try have hm3_11 : w3.heap.size ≠ w2.heap.size + 1 := by omega); (try have hp3_11 : w2.heap.size + 1 < w3.heap.size + 1 := by omega); (try have hy3_20 : w4.heap.size < w3.heap.size := by omega); (try have hn3_20 : w4.heap.size ≠ w3.heap.size := by omega); (try have hm3_20 : w3.heap.size ≠ w4.heap.size := by omega); (try have hp3_20 : w4.heap.size < w3.heap.size + 1 := by omega); (try have hy3_21 : w4.heap.size + 1 < w3.heap.size := by omega); (try have hn3_21 : w4.heap.size + 1 ≠ w3.heap.size := by omega); (try have hm3_21 : w3.heap.size ≠ w4.heap.size + 1 := by omega); (try have hp3_21 : w4.heap.size + 1 < w3.heap.size + 1 := by omega))
      | (go_at_call_of 77 (Value.int IntKind.i64 y); refine (HU.out y _).mono ?_; rintro e w4 ⟨rfl, hb4⟩; obtain ⟨hc4, hf4⟩ := bcellB hb4; have hz4 := hb4.size; (try simp only [World.size_alloc] at hc4 hf4 hz4); (try have hy4_00 : w.heap.size < w4.heap.size := by omega); (try have hn4_00 : w.heap.size ≠ w4.heap.size := by omega); (try have hm4_00 : w4.heap.size ≠ w.heap.size := by omega); (try have hp4_00 : w.heap.size < w4.heap.size + 1 := by omega); (try have hy4_01 : w.heap.size + 1 < w4.heap.size := by omega); (try have hn4_01 : w.heap.size + 1 ≠ w4.heap.size := by omega); (try have hm4_01 : w4.heap.size ≠ w.heap.size + 1 := by omega); (try have hp4_01 : w.heap.size + 1 < w4.heap.size + 1 := by omega); (try have hy4_10 : w2.heap.size < w4.heap.size := by omega); (try have hn4_10 : w2.heap.size ≠ w4.heap.size := by omega); (try have hm4_10 : w4.heap.size ≠ w2.heap.size := by omega); (try have hp4_10 : w2.heap.size < w4.heap.size + 1 := by omega); (try have hy4_11 : w2.heap.size + 1 < w4.heap.size := by omega); (try have hn4_11 : w2.heap.size + 1 ≠ w4.heap.size := by omega); (try have hm4_11 : w4.heap.size ≠ w2.heap.size + 1 := by omega); (try have hp4_11 : w2.heap.size + 1 < w4.heap.size + 1 := by omega); (try have hy4_20 : w3.heap.size < w4.heap.size := by omega); (try have hn4_20 : w3.heap.size ≠ w4.heap.size := by omega); (try have hm4_20 : w4.heap.size ≠ w3.heap.size := by omega); (try have hp4_20 : w3.heap.size < w4.heap.size + 1 := by omega); (try have hy4_21 : w3.heap.size + 1 < w4.heap.size := by omega); (try have hn4_21 : w3.heap.size + 1 ≠ w4.heap.size := by omega); (try have hm4_21 : w4.heap.size ≠ w3.heap.size + 1 := by omega); (try have hp4_21 : w3.heap.size + 1 < w4.heap.size + 1 := by omega))
      | (go_at_call 113; refine (HA.out _).mono ?_; rintro e w5 ⟨rfl, hb5⟩; obtain ⟨hc5, hf5⟩ := bcellB hb5; have hz5 := hb5.size; (try simp only [World.size_alloc] at hc5 hf5 hz5); (try have hy5_00 : w.heap.size < w5.heap.size := by omega); (try have hn5_00 : w.heap.size ≠ w5.heap.size := by omega); (try have hm5_00 : w5.heap.size ≠ w.heap.size := by omega); (try have hp5_00 : w.heap.size < w5.heap.size + 1 := by omega); (try have hy5_01 : w.heap.size + 1 < w5.heap.size := by omega); (try have hn5_01 : w.heap.size + 1 ≠ w5.heap.size := by omega); (try have hm5_01 : w5.heap.size ≠ w.heap.size + 1 := by omega); (try have hp5_01 : w.heap.size + 1 < w5.heap.size + 1 := by omega); (try have hy5_10 : w2.heap.size < w5.heap.size := by omega); (try have hn5_10 : w2.heap.size ≠ w5.heap.size := by omega); (try have hm5_10 : w5.heap.size ≠ w2.heap.size := by omega); (try have hp5_10 : w2.heap.size < w5.heap.size + 1 := by omega); (try have hy5_11 : w2.heap.size + 1 < w5.heap.size := by omega); (try have hn5_11 : w2.heap.size + 1 ≠ w5.heap.size := by omega); (try have hm5_11 : w5.heap.size ≠ w2.heap.size + 1 := by omega); (try have hp5_11 : w2.heap.size + 1 < w5.heap.size + 1 := by omega); (try have hy5_20 : w3.heap.size < w5.heap.size := by omega); (try have hn5_20 : w3.heap.size ≠ w5.heap.size := by omega); (try have hm5_20 : w5.heap.size ≠ w3.heap.size := by omega); (try have hp5_20 : w3.heap.size < w5.heap.size + 1 := by omega); (try have hy5_21 : w3.heap.size + 1 < w5.heap.size := by omega); (try have hn5_21 : w3.heap.size + 1 ≠ w5.heap.size := by omega); (try have hm5_21 : w5.heap.size ≠ w3.heap.size + 1 := by omega); (try have hp5_21 : w3.heap.size + 1 < w5.heap.size + 1 := by omega); (try have hy5_30 : w4.heap.size < w5.heap.size := by omega); (try have hn5_30 : w4.heap.size ≠ w5.heap.size := by omega); (try have hm5_30 : w5.heap.size ≠ w4.heap.size := by omega); (try have hp5_30 : w4.heap.size < w5.heap.size + 1 := by omega); (try have hy5_31 : w4.heap.size + 1 < w5.heap.size := by omega); (try have hn5_31 : w4.heap.size + 1 ≠ w5.heap.size := by omega); (try have hm5_31 : w5.heap.size ≠ w4.heap.size + 1 := by omega); (try have hp5_31 : w4.heap.size + 1 < w5.heap.size + 1 := by omega)))
    all_goals go_wp2_with fail
    all_goals go_meet
    all_goals exact ⟨_, rfl, by (first | (go_size; done) | ((try simp only [World.size_alloc, World.size_setCell, World.size_drew, World.heap_drewN]); omega)), by (refine ⟨?_, ?_, ?_, ?_, ?_⟩ <;> first | (simp only [World.size_alloc, World.size_setCell]; omega) | (first | (simp [*]; done) | (simp [go_sem, *]; done))), by (repeat' (first | (with_reducible exact Below.refl _ _) | (with_reducible assumption) | (with_reducible refine Below.drew ?_) | (with_reducible refine belowDrewN ?_ _) | (with_reducible refine Below.alloc ?_ ?_ _) | (with_reducible refine Below.setCell ?_ ?_ _) | (with_reducible refine belowStep (by assumption) ?_ ?_) | (with_reducible exact Below.size (by assumption)) | go_size))⟩
  case rest =>
    obtain ⟨w6, rfl⟩ : ∃ w6 : World, w6 = wc := ⟨_, rfl⟩
    obtain ⟨g, rfl, hg2, hT, hb6⟩ := hcut
    have HT := Lib.hid hT
    have hz6 := hb6.size
    have hb6w : Below w.heap.size w w6 := by (repeat' (first | (with_reducible exact Below.refl _ _) | (with_reducible assumption) | (with_reducible refine Below.drew ?_) | (with_reducible refine belowDrewN ?_ _) | (with_reducible refine Below.alloc ?_ ?_ _) | (with_reducible refine Below.setCell ?_ ?_ _) | (with_reducible refine belowStep (by assumption) ?_ ?_) | (with_reducible exact Below.size (by assumption)) | go_size))
    have HR6 := Lib.hid (Hxs.out.below hb6w)
    have hgl : g < w6.heap.size := hT.2.2.2.2
    clear hT HC hb6 hb1
    go_wp2
    go_loopw [9, 43] (fun v9 v43 wr => ∃ (k : Nat) (A : Option Addr) (c : Nat), k ≤ xs.length ∧ v43 = .int .i64 (k : Int) ∧ v9 = .slice A (keepL [(i : Int), (j : Int)] 0 (xs.take k)).length c ∧ OwnI wr w6.heap.size (.slice A (keepL [(i : Int), (j : Int)] 0 (xs.take k)).length c) (keepL [(i : Int), (j : Int)] 0 (xs.take k)) ∧ Below w6.heap.size w6 wr) (fun _ v43 _ => xs.length - (intOf v43).toNat)
    case atStart => exact ⟨0, none, 0, Nat.zero_le _, rfl, rfl, OwnI.empty _ _, by (repeat' (first | (with_reducible exact Below.refl _ _) | (with_reducible assumption) | (with_reducible refine Below.drew ?_) | (with_reducible refine belowDrewN ?_ _) | (with_reducible refine Below.alloc ?_ ?_ _) | (with_reducible refine Below.setCell ?_ ?_ _) | (with_reducible refine belowStep (by assumption) ?_ ?_) | (with_reducible exact Below.size (by assumption)) | go_size))⟩
    case round =>
      obtain ⟨k, A, c, hk, rfl, rfl, ho, hbr⟩ := hrel
      have hzr := hbr.size
      have Ho := Lib.hid ho
      have hkl := keep_len [(i : Int), (j : Int)] (xs.take k) 0
      have htl : (xs.take k).length ≤ 24 := by rw [List.length_take]; omega
      clear ho
      by_cases hlt : k < xs.length
      · obtain ⟨b, o', z, eb, hb, hz, hcell⟩ := (HR6.out.below hbr).at_ hlt
        injection eb with eb
        injection eb with e1 e2
        subst e1 e2
        have hkt := keep_take (ls := [(i : Int), (j : Int)]) hz
        rw [has_two] at hkt
        have hki : (k : Int) < (xs.length : Int) := by omega
        clear hz
        by_cases h1 : k = i
        · have HK : Hid (keepL [(i : Int), (j : Int)] 0 (xs.take (k + 1)) = keepL [(i : Int), (j : Int)] 0 (xs.take k)) := Lib.hid (by rw [hkt]; simp [h1])
          have n1 : ((k : Int) != (i : Int)) = false := by simp [h1]
          clear hkt h1
          go_wp2
          go_roundw
          case rel => exact ⟨k + 1, A, c, by omega, by go_num, by rw [HK.out], by rw [HK.out]; exact Ho.out, by (repeat' (first | (with_reducible exact Below.refl _ _) | (with_reducible assumption) | (with_reducible refine Below.drew ?_) | (with_reducible refine belowDrewN ?_ _) | (with_reducible refine Below.alloc ?_ ?_ _) | (with_reducible refine Below.setCell ?_ ?_ _) | (with_reducible refine belowStep (by assumption) ?_ ?_) | (with_reducible exact Below.size (by assumption)) | go_size))⟩
          case measure => simp [intOf]; omega
        · have n1 : ((k : Int) != (i : Int)) = true := by simp; omega
          by_cases h2 : k = j
          · have HK : Hid (keepL [(i : Int), (j : Int)] 0 (xs.take (k + 1)) = keepL [(i : Int), (j : Int)] 0 (xs.take k)) := Lib.hid (by rw [hkt]; simp [h2])
            have n2 : ((k : Int) != (j : Int)) = false := by simp [h2]
            clear hkt h2
            go_wp2
            go_roundw
            case rel => exact ⟨k + 1, A, c, by omega, by go_num, by rw [HK.out], by rw [HK.out]; exact Ho.out, by (repeat' (first | (with_reducible exact Below.refl _ _) | (with_reducible assumption) | (with_reducible refine Below.drew ?_) | (with_reducible refine belowDrewN ?_ _) | (with_reducible refine Below.alloc ?_ ?_ _) | (with_reducible refine Below.setCell ?_ ?_ _) | (with_reducible refine belowStep (by assumption) ?_ ?_) | (with_reducible exact Below.size (by assumption)) | go_size))⟩
            case measure => simp [intOf]; omega
          · have n2 : ((k : Int) != (j : Int)) = true := by simp; omega
            have HK : Hid (keepL [(i : Int), (j : Int)] 0 (xs.take (k + 1)) = keepL [(i : Int), (j : Int)] 0 (xs.take k) ++ [z]) := Lib.hid (by rw [hkt]; simp [h1, h2])
            clear hkt
            generalize keepL [(i : Int), (j : Int)] 0 (xs.take k) = rs at *
            go_wp2_with (at_builtin; refine wpList_app _ (o := ⟨some 59, _, _, _, _, _⟩) (ys := [z]) rfl _ _ rfl rfl (Ho.out.below (by (repeat' (first | (with_reducible exact Below.refl _ _) | (with_reducible assumption) | (with_reducible refine Below.drew ?_) | (with_reducible refine belowDrewN ?_ _) | (with_reducible refine Below.alloc ?_ ?_ _) | (with_reducible refine Below.setCell ?_ ?_ _) | (with_reducible refine belowStep (by assumption) ?_ ?_) | (with_reducible exact Below.size (by assumption)) | go_size)))) (1) (1) (by first | (simp; done) | (simp; omega)) rfl (Reads.one _ z) (by (try simp only [List.length_nil, List.length_cons]); omega) (by first | exact Nat.le_refl _ | ((try simp only [World.size_alloc]); omega)) ?_; intro v3 w3 ho3 hb3 hg3 ht3; clear hg3 ht3; have hz3 := hb3.size; (try simp only [World.size_alloc] at hz3))
            obtain ⟨A3, c3, rfl, hr3⟩ := ho3.form
            go_roundw
            case rel => exact ⟨k + 1, A3, c3, by omega, by go_num, by rw [HK.out], by rw [HK.out]; exact ho3, by (repeat' (first | (with_reducible exact Below.refl _ _) | (with_reducible assumption) | (with_reducible refine Below.drew ?_) | (with_reducible refine belowDrewN ?_ _) | (with_reducible refine Below.alloc ?_ ?_ _) | (with_reducible refine Below.setCell ?_ ?_ _) | (with_reducible refine belowStep (by assumption) ?_ ?_) | (with_reducible exact Below.size (by assumption)) | go_size))⟩
            case measure => simp [intOf]; omega
      · obtain rfl : k = xs.length := by omega
        have Rr := Lib.hid (Hri.out.keep [(i : Int), (j : Int)] 0)
        have HTk : Hid (keepL [(i : Int), (j : Int)] 0 (xs.take xs.length) = keepL [(i : Int), (j : Int)] 0 xs) := Lib.hid (by rw [List.take_length])
        rw [HTk.out] at hkl Ho
        rw [HTk.out]
        obtain ⟨Aq, cq, eq1, hr⟩ := Ho.out.form
        injection eq1 with eq2 eq3 eq4
        subst eq2 eq4
        have Hr := Lib.hid hr
        obtain ⟨q1, q2, q3, q4, q5⟩ := HT.out.below hbr
        clear hr
        by_cases hdiv : x * y % (x + y) = 0
        · obtain ⟨eN, eD⟩ := M1.out hdiv
          subst eN
          have EI := mp_in HX.out hij Hxi.out Hxj.out hdiv
          rw [← eD] at EI
          generalize keepL [(i : Int), (j : Int)] 0 xs = rs at *
          obtain ⟨f1, f2⟩ := into_one Rr.out D
          rw [f1, f2] at EI
          have E := Lib.hid EI
          clear EI f1 f2 eD hdiv
          cases hh : hasB rs D with
          | true =>
            have E2 : Hid (mpB xs i j = false ∧ mpL xs i j = []) := Lib.hid (by rw [E.out.1, E.out.2, hh]; simp)
            have HH : Hid (∀ w : World, Reads w A rs → Calls Try.prog 117 #[.slice A rs.length c, .int .i64 D] w (RetQ (.bool true) w)) := Lib.hid fun w h => by
              have := l1Has_any w D A c rs h (by omega)
              rw [hh] at this
              exact this
            go_wp2_with (go_at_call 117; refine (HH.out _ (Hr.out.below (by (repeat' (first | (with_reducible exact Below.refl _ _) | (with_reducible assumption) | (with_reducible refine Below.drew ?_) | (with_reducible refine belowDrewN ?_ _) | (with_reducible refine Below.alloc ?_ ?_ _) | (with_reducible refine Below.setCell ?_ ?_ _) | (with_reducible refine belowStep (by assumption) ?_ ?_) | (with_reducible exact Below.size (by assumption)) | go_size))))).mono ?_; rintro e w1 ⟨rfl, k1, rfl⟩)
            go_ret2
            rw [E2.out.1, E2.out.2]
            exact ⟨none, 0, rfl, Reads.nil, by (repeat' (first | (with_reducible exact Below.refl _ _) | (with_reducible assumption) | (with_reducible refine Below.drew ?_) | (with_reducible refine belowDrewN ?_ _) | (with_reducible refine Below.alloc ?_ ?_ _) | (with_reducible refine Below.setCell ?_ ?_ _) | (with_reducible refine belowStep (by assumption) ?_ ?_) | (with_reducible exact Below.size (by assumption)) | go_size))⟩
          | false =>
            have HH : Hid (∀ w : World, Reads w A rs → Calls Try.prog 117 #[.slice A rs.length c, .int .i64 D] w (RetQ (.bool false) w)) := Lib.hid fun w h => by
              have := l1Has_any w D A c rs h (by omega)
              rw [hh] at this
              exact this
            have E2 : Hid (mpB xs i j = expB (putL rs D) ∧ mpL xs i j = if expB (putL rs D) = true then putL rs D else []) := Lib.hid (by rw [E.out.1, E.out.2, hh]; simp)
            have hpl := put_len rs D
            go_wp2_with (go_at_call 117; refine (HH.out _ (Hr.out.below (by (repeat' (first | (with_reducible exact Below.refl _ _) | (with_reducible assumption) | (with_reducible refine Below.drew ?_) | (with_reducible refine belowDrewN ?_ _) | (with_reducible refine Below.alloc ?_ ?_ _) | (with_reducible refine Below.setCell ?_ ?_ _) | (with_reducible refine belowStep (by assumption) ?_ ?_) | (with_reducible exact Below.size (by assumption)) | go_size))))).mono ?_; rintro e w1 ⟨rfl, k1, rfl⟩)
            refine (l1Put_own _ D w6.heap.size A c rs (Ho.out.below (by (repeat' (first | (with_reducible exact Below.refl _ _) | (with_reducible assumption) | (with_reducible refine Below.drew ?_) | (with_reducible refine belowDrewN ?_ _) | (with_reducible refine Below.alloc ?_ ?_ _) | (with_reducible refine Below.setCell ?_ ?_ _) | (with_reducible refine belowStep (by assumption) ?_ ?_) | (with_reducible exact Below.size (by assumption)) | go_size)))) (by omega) (by (first | (go_size; done) | ((try simp only [World.size_alloc, World.size_setCell, World.size_drew, World.heap_drewN]); omega)))).mono ?_; rintro e w7 ⟨v7, rfl, ho7, hb7⟩
            have hz7 := hb7.size
            (try simp only [World.heap_drewN] at hz7)
            have hb7w : Below w.heap.size w w7 := by (repeat' (first | (with_reducible exact Below.refl _ _) | (with_reducible assumption) | (with_reducible refine Below.drew ?_) | (with_reducible refine belowDrewN ?_ _) | (with_reducible refine Below.alloc ?_ ?_ _) | (with_reducible refine Below.setCell ?_ ?_ _) | (with_reducible refine belowStep (by assumption) ?_ ?_) | (with_reducible exact Below.size (by assumption)) | go_size))
            obtain ⟨A7, c7, rfl, hr7⟩ := ho7.form
            have Hr7 := Lib.hid hr7
            clear ho7 hr7
            generalize putL rs D = zs at *
            cases hx2 : expB zs with
            | true =>
              rw [hx2] at E2
              go_wp2_with fail
              refine (unList_yes _ A7 _ zs Hr7.out (by omega) hx2).mono ?_; rintro e w8 ⟨rfl, hb8⟩
              have hz8 := hb8.size
              go_wp2
              go_ret2
              rw [E2.out.1, E2.out.2]
              exact ⟨_, _, rfl, Hr7.out.below hb8, by (repeat' (first | (with_reducible exact Below.refl _ _) | (with_reducible assumption) | (with_reducible refine Below.drew ?_) | (with_reducible refine belowDrewN ?_ _) | (with_reducible refine Below.alloc ?_ ?_ _) | (with_reducible refine Below.setCell ?_ ?_ _) | (with_reducible refine belowStep (by assumption) ?_ ?_) | (with_reducible exact Below.size (by assumption)) | go_size))⟩
            | false =>
              rw [hx2] at E2
              go_wp2_with fail
              refine (unList_no _ A7 _ zs Hr7.out (by omega) hx2).mono ?_; rintro e w8 ⟨rfl, hb8⟩
              have hz8 := hb8.size
              go_wp2
              go_ret2
              rw [E2.out.1, E2.out.2]
              exact ⟨none, 0, rfl, Reads.nil, by (repeat' (first | (with_reducible exact Below.refl _ _) | (with_reducible assumption) | (with_reducible refine Below.drew ?_) | (with_reducible refine belowDrewN ?_ _) | (with_reducible refine Below.alloc ?_ ?_ _) | (with_reducible refine Below.setCell ?_ ?_ _) | (with_reducible refine belowStep (by assumption) ?_ ?_) | (with_reducible exact Below.size (by assumption)) | go_size))⟩
        · have hN1 := M2.out hdiv
          have hN2 : (N != 1) = true := by simp [hN1]
          have hN3 : ¬ N = 1 := hN1
          have EI := mp_rem Hxi.out Hxj.out hdiv
          have E2 : Hid (mpB xs i j = false ∧ mpL xs i j = []) := Lib.hid ⟨EI, mp_no EI⟩
          clear EI hN1 hdiv
          go_wp2
          go_ret2
          rw [E2.out.1, E2.out.2]
          exact ⟨none, 0, rfl, Reads.nil, by (repeat' (first | (with_reducible exact Below.refl _ _) | (with_reducible assumption) | (with_reducible refine Below.drew ?_) | (with_reducible refine belowDrewN ?_ _) | (with_reducible refine Below.alloc ?_ ?_ _) | (with_reducible refine Below.setCell ?_ ?_ _) | (with_reducible refine belowStep (by assumption) ?_ ?_) | (with_reducible exact Below.size (by assumption)) | go_size))⟩
end Go.Proofs.Ytbjblkfibinenac
