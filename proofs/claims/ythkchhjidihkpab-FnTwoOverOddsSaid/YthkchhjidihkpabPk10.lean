import Derived.Test.YthkchhjidihkpabPk6
import Derived.Test.YthkchhjidihkpabPk9
import Derived.Test.YthkchhjidihkpabPk2
import Derived.Test.YthkchhjidihkpabPk1
import Derived.Maps.RangeWalk
import Derived.Maps.OwnSet
import Derived.Test.YthkchhjidihkpabPk3
import Derived.Laws.Bits64b

/-
  Contract of ExpandOver in the model.
-/
namespace Go.Proofs.Ythkchhjidihkpab
open Go.RowKit
/-- the expansion over a number -/
def ovT (N : Nat) (l : List Nat) : List Int := ints (l.map (fun d => N / d))
def ovO (n d N : Int) : Option (List Int) := if goodB n d = true ∧ numB N = true ∧ N % d = 0 then (dfO N (N / d * n)).bind (fun l => if expB (ovT N.toNat l) = true then some (ovT N.toNat l) else none) else none
theorem ovO_bad {n d N : Int} (h : goodB n d = false) : ovO n d N = none := by unfold ovO; rw [if_neg (fun e => by rw [h] at e; cases e.1)]
theorem ovO_num {n d N : Int} (h : numB N = false) : ovO n d N = none := by unfold ovO; rw [if_neg (fun e => by rw [h] at e; cases e.2.1)]
theorem ovO_rem {n d N : Int} (h : ¬ N % d = 0) : ovO n d N = none := by unfold ovO; rw [if_neg (fun e => h e.2.2)]
theorem ovO_none {n d N : Int} (h : dfO N (N / d * n) = none) : ovO n d N = none := by unfold ovO; rw [h]; split <;> rfl
theorem ovO_some {n d : Int} {N : Nat} {l : List Nat} (hg : goodB n d = true) (hn : numB (N : Int) = true) (hr : (N : Int) % d = 0) (h : dfO (N : Int) (N / d * n) = some l) : ovO n d N = if expB (ovT N l) = true then some (ovT N l) else none := by unfold ovO; rw [if_pos ⟨hg, hn, hr⟩, h]; rfl
theorem ovT_len (N : Nat) (l : List Nat) : (ovT N l).length = l.length := by unfold ovT; rw [ints_len, List.length_map]
theorem ovO_len (n d N : Int) : ((ovO n d N).getD []).length ≤ 24 := by
  unfold ovO
  split
  · cases dfO N (N / d * n) with
    | none => simp
    | some l =>
      rw [Option.bind_some]
      split
      · rename_i h; exact expB_len h
      · simp
  · simp
theorem ovT_at {N : Nat} {l : List Nat} {k d : Nat} (h : l[k]? = some d) : (ovT N l)[k]? = some ((N / d : Nat) : Int) := by unfold ovT ints; rw [List.map_map, List.getElem?_map, h]; rfl
theorem ovT_take {N : Nat} {l : List Nat} {k d : Nat} (h : l[k]? = some d) : ovT N (l.take (k + 1)) = ovT N (l.take k) ++ [((N / d : Nat) : Int)] := by
  unfold ovT ints
  rw [List.take_add_one, h]
  simp
theorem pick_mem {N S : Nat} (d : Nat) (h : d ∈ pick (dsc N N) S) : 1 ≤ d ∧ d ≤ N := by
  have := (dsc_mem N N d).1 ((pick_sub _ _).subset h)
  omega
/-- the quotient, where the number is a multiple -/
theorem quo_of {N D : Nat} (h1 : 1 ≤ N) (hD : 1 ≤ D) (h : N % D = 0) : 1 ≤ N / D ∧ N / D ≤ N ∧ ((N : Int) % (D : Int) = 0) ∧ ((N : Int) / (D : Int) = ((N / D : Nat) : Int)) := by
  have hd := Nat.le_of_dvd h1 (Nat.dvd_of_mod_eq_zero h)
  refine ⟨Nat.div_pos hd hD, Nat.div_le_self N D, ?_, (Int.natCast_ediv N D).symm⟩
  rw [← Int.natCast_emod, h]
  rfl
theorem remv2 {n p : Nat} : ((n : Int).tmod (p : Int) = ((n % p : Nat) : Int)) ∧ ((n : Int) % (p : Int) = ((n % p : Nat) : Int)) ∧ ((n : Int).tdiv (p : Int) = ((n / p : Nat) : Int)) ∧ ((n : Int) / (p : Int) = ((n / p : Nat) : Int)) := by
  refine ⟨?_, (Int.natCast_emod n p).symm, ?_, (Int.natCast_ediv n p).symm⟩
  · rw [Int.tmod_eq_emod_of_nonneg (by omega), Int.natCast_emod]
  · rw [Int.tdiv_eq_ediv_of_nonneg (by omega), Int.natCast_ediv]
theorem ovT_big {N : Nat} {l : List Nat} (_ : ∀ d ∈ l, 1 ≤ d ∧ d ≤ N) (hN : N ≤ 2000) : In64 (ovT N l) := In64.of_mem fun x hx => by
  unfold ovT ints at hx
  rw [List.map_map] at hx
  obtain ⟨d, hd, rfl⟩ := List.mem_map.1 hx
  have : N / d ≤ N := Nat.div_le_self N d
  show -9223372036854775808 ≤ ((N / d : Nat) : Int) ∧ ((N / d : Nat) : Int) ≤ _
  generalize N / d = q at *
  omega
set_option maxRecDepth 100000 in
set_option maxHeartbeats 8000000 in
theorem prOver_any (n d N : Int) (w : World) (hg : goodB n d = true) (hN : numB N = true) : Calls Try.prog 62 #[.agg #[.int .i64 n, .int .i64 d], .int .i64 N] w (RetRB ((ovO n d N).getD []) (ovO n d N).isSome w) := by
  obtain ⟨N, rfl, h1, h2⟩ := numB_nat hN
  obtain ⟨g1, g2, g3, g4⟩ := good_bounds hg
  obtain ⟨a, rfl⟩ := Int.eq_ofNat_of_zero_le g1
  obtain ⟨D, rfl⟩ := Int.eq_ofNat_of_zero_le (show 0 ≤ d by omega)
  have hD1 : 1 ≤ D := by omega
  have hne : (D : Int) ≠ 0 := by omega
  obtain ⟨e1, e2, e3, e4⟩ := @remv2 N D
  have HG := Lib.hid hg
  have HNB := Lib.hid hN
  clear hg hN
  by_cases hm : N % D = 0
  · obtain ⟨q1, q2, q3, q4⟩ := quo_of h1 hD1 hm
    have HQ3 := Lib.hid q3
    have HQ4 := Lib.hid q4
    rw [hm] at e1 e2
    clear q3 q4 hm
    obtain ⟨e5, e6, e7, e8⟩ := @remv2 100000 (N / D)
    have hle1 : ∀ x, x = 100000 / (N / D) → (a ≤ x ↔ N / D * a ≤ 100000) := fun x hx => by rw [hx, Nat.le_div_iff_mul_le (by omega), Nat.mul_comm]
    have HLE := Lib.hid hle1
    have hx0 : 100000 / (N / D) ≤ 100000 := Nat.div_le_self _ _
    have HIN : Hid (∀ x, N / D * a ≤ x → 0 ≤ x) := Lib.hid fun _ _ => Nat.zero_le _
    have hmul : a * (N / D) ≤ 2000000000000 := Nat.le_trans (Nat.mul_le_mul (show a ≤ 1000000000 by omega) (show N / D ≤ 2000 by omega)) (by decide)
    have HS : Hid (((N : Int) / (D : Int)) * (a : Int) = ((N / D * a : Nat) : Int)) := Lib.hid (by rw [HQ4.out, Int.natCast_mul])
    have hSa : (a : Int) * ((N / D : Nat) : Int) = ((N / D * a : Nat) : Int) := by rw [Int.natCast_mul, Int.mul_comm]
    have hcm : a * (N / D) = N / D * a := Nat.mul_comm _ _
    rw [hcm] at hmul
    clear hle1 e5 e6 hcm
    obtain ⟨Q, hQ⟩ : ∃ Q, Q = N / D := ⟨_, rfl⟩
    rw [← hQ] at q1 q2 e3 e4 e7 e8 HLE hx0 hmul HS hSa HQ4 HIN
    obtain ⟨X, hX⟩ : ∃ X, X = 100000 / Q := ⟨_, rfl⟩
    rw [← hX] at hx0
    have e9 : (100000 : Int) / (Q : Int) = (X : Int) := by rw [hX]; exact Eq.symm (Int.natCast_ediv 100000 Q)
    have e10 : (100000 : Int).tdiv (Q : Int) = (X : Int) := by rw [Int.tdiv_eq_ediv_of_nonneg (by omega)]; exact e9
    clear e7 e8
    obtain ⟨S, hSd⟩ : ∃ S, S = Q * a := ⟨_, rfl⟩
    rw [← hSd] at hmul HS hSa HLE
    have hXle := HLE.out X hX
    have hQne : (Q : Int) ≠ 0 := by omega
    have hwS : IntKind.i64.wrap ((a : Int) * (Q : Int)) = (S : Int) := by rw [hSa]; exact IntWalk.i64_in _ (by omega)
    have HDF : Hid (dfO (N : Int) ((N : Int) / (D : Int) * (a : Int)) = dfO (N : Int) (S : Int)) := Lib.hid (by rw [HS.out])
    clear HLE hX hQ hSd HIN HS HQ4
    by_cases hax : a ≤ X
    · have hS100 : S ≤ 100000 := hXle.1 hax
      have hax' : ¬ (X : Int) < (a : Int) := by omega
      have hbx : decide ((X : Int) < (a : Int)) = false := decide_eq_false hax'
      clear hXle
      have hsg := sig_small h2
      by_cases hsig : sig N < S
      · have E : Hid (ovO (a : Int) (D : Int) (N : Int) = none) := Lib.hid (ovO_none (by rw [HDF.out]; exact dfO_no (by rw [ways_none hsig]; omega)))
        have hsig' : (sig N : Int) < (S : Int) := by omega
        have HSG := Lib.hid fun (w : World) => prSum_any N w h2
        generalize sig N = sm at *
        go_enter Try.func62, Try.ntmps62
        go_wp2
        go_quiet (fail)
        go_wp2
        go_quiet (fail)
        go_wp2_with fail
        refine (HSG.out _).mono ?_; rintro e w3 ⟨rfl, hb3⟩; have hz3 := hb3.size; (try simp only [World.size_alloc, World.heap_drewN] at hz3)
        go_wp2
        go_ret2
        rw [E.out]
        exact ⟨none, 0, rfl, Reads.nil, by (repeat' (first | (with_reducible exact Below.refl _ _) | (with_reducible assumption) | (with_reducible refine Below.drew ?_) | (with_reducible refine belowDrewN ?_ _) | (with_reducible refine Below.alloc ?_ ?_ _) | (with_reducible refine Below.setCell ?_ ?_ _) | (with_reducible refine belowStep (by assumption) ?_ ?_) | (with_reducible exact Below.size (by assumption)) | go_size))⟩
      · have hsig' : ¬ (sig N : Int) < (S : Int) := by omega
        have HSG := Lib.hid fun (w : World) => prSum_any N w h2
        have HW : Hid (∀ w A c, Reads w A (ints (asc N N)) → (ints (asc N N)).length ≤ c → Calls Try.prog 99 #[.slice A (ints (asc N N)).length c, .int .i64 (S : Int)] w (RetLB (ints (pick (dsc N N) S)) (decide (0 < ways (dsc N N) S)) w)) := Lib.hid fun w A c h hc => by
          have := prFor_any (asc N N) S w A c h (asc_small h2) (by have := asc_len N N; omega) (by rw [← ints_len]; exact hc) hS100
          rwa [show (asc N N).reverse = dsc N N from by unfold asc; exact List.reverse_reverse _, ← ints_len] at this
        have hSB : askB (S : Int) = true := (askB_iff _).2 ⟨by omega, by omega⟩
        have EV := Lib.hid fun (h : 0 < ways (dsc N N) S) => ovO_some (n := (a : Int)) (d := (D : Int)) HG.out HNB.out HQ3.out (by rw [HDF.out]; exact dfO_yes HNB.out hSB h)
        have EB := Lib.hid fun (h : ¬ 0 < ways (dsc N N) S) => ovO_none (n := (a : Int)) (d := (D : Int)) (N := (N : Int)) (by rw [HDF.out]; exact dfO_no h)
        have hlen := pick_len (dsc N N) S
        have hln2 := dsc_len N N
        have HM := Lib.hid (fun d (h : d ∈ pick (dsc N N) S) => pick_mem d h)
        generalize sig N = sm at *
        clear hSB
        by_cases hw : 0 < ways (dsc N N) S
        · have E := Lib.hid (EV.out hw)
          rw [decide_eq_true hw] at HW
          clear EV EB hw
          have hl1 : (pick (dsc N N) S).length ≤ 2000 := by omega
          clear hlen hln2
          generalize pick (dsc N N) S = l at *
          go_enter Try.func62, Try.ntmps62
          go_wp2
          go_quiet (fail)
          go_wp2
          go_quiet (fail)
          go_wp2_with fail
          refine (HSG.out _).mono ?_; rintro e w3 ⟨rfl, hb3⟩; have hz3 := hb3.size; (try simp only [World.size_alloc, World.heap_drewN] at hz3)
          go_wp2_with fail
          refine (prDivisors_any N _ h2).mono ?_; rintro e w4 ⟨v4, rfl, ho4, hb4⟩; obtain ⟨A4, c4, rfl, hr4⟩ := ho4.form
          have hz4 := hb4.size
          have hcp := ho4.cap_
          go_wp2_with fail
          refine (HW.out _ _ _ hr4 hcp).mono ?_; rintro e w5 ⟨v5, rfl, ho5, hb5⟩; obtain ⟨A5, c5, rfl, hr5⟩ := ho5.form
          have hz5 := hb5.size
          have R5 := Lib.hid hr5
          have hbw : Below w.heap.size w w5 := by (repeat' (first | (with_reducible exact Below.refl _ _) | (with_reducible assumption) | (with_reducible refine Below.drew ?_) | (with_reducible refine belowDrewN ?_ _) | (with_reducible refine Below.alloc ?_ ?_ _) | (with_reducible refine Below.setCell ?_ ?_ _) | (with_reducible refine belowStep (by assumption) ?_ ?_) | (with_reducible exact Below.size (by assumption)) | go_size))
          have hle := ints_len l
          have hle1 : (ints l).length ≤ l.length := by omega
          have hle2 : l.length ≤ (ints l).length := by omega
          clear ho4 hr4 ho5 hr5 hle hcp
          go_wp2
          go_loopw [9, 49] (fun v9 v49 wr => ∃ k : Nat, k ≤ l.length ∧ v49 = .int .i64 (k : Int) ∧ OwnI wr w5.heap.size v9 (ovT N (l.take k)) ∧ Below w5.heap.size w5 wr) (fun _ v49 _ => l.length - (intOf v49).toNat)
          case atStart => exact ⟨0, Nat.zero_le _, rfl, OwnI.empty _ _, by (repeat' (first | (with_reducible exact Below.refl _ _) | (with_reducible assumption) | (with_reducible refine Below.drew ?_) | (with_reducible refine belowDrewN ?_ _) | (with_reducible refine Below.alloc ?_ ?_ _) | (with_reducible refine Below.setCell ?_ ?_ _) | (with_reducible refine belowStep (by assumption) ?_ ?_) | (with_reducible exact Below.size (by assumption)) | go_size))⟩
          case round =>
            obtain ⟨k, hk, rfl, ho, hbr⟩ := hrel
            have hzr := hbr.size
            have Ho := Lib.hid ho
            have hol := ovT_len N (l.take k)
            rw [List.length_take] at hol
            have hol2 : (ovT N (l.take k)).length ≤ 2000 := by omega
            clear ho hol
            by_cases hlt : k < l.length
            · obtain ⟨b9, o9, x, rfl, hbb, hx, hcell⟩ := (R5.out.below hbr).at_ (show k < (ints l).length by omega)
              obtain ⟨d, rfl, hdx⟩ := ints_at hx
              obtain ⟨d1, d2⟩ := HM.out d (List.mem_of_getElem? hdx)
              have ET := Lib.hid (ovT_take (N := N) hdx)
              have hki : (k : Int) < ((ints l).length : Int) := by omega
              obtain ⟨_, _, f3, f4⟩ := @remv2 N d
              have hdn : (d : Int) ≠ 0 := by omega
              have hq : N / d ≤ N := Nat.div_le_self N d
              clear hx hdx
              generalize ovT N (l.take k) = ts at *
              generalize N / d = q at *
              go_wp2_with (at_builtin; refine wpList_app _ (o := ⟨some 58, _, _, _, _, _⟩) (ys := [(q : Int)]) rfl _ _ rfl rfl (OwnI.below Ho.out ((Below.refl _ _).alloc (Nat.le_refl _) _)) (1) (1) (by first | (simp; done) | (simp; omega)) rfl (Reads.one _ (q : Int)) (by (try simp only [List.length_nil, List.length_cons]); omega) (by first | exact Nat.le_refl _ | ((try simp only [World.size_alloc]); omega)) ?_; intro v6 w6 ho6 hb6 hg6 ht6; clear hg6 ht6; have hz6 := hb6.size; (try simp only [World.size_alloc] at hz6))
              go_roundw
              case rel => exact ⟨k + 1, by omega, by go_num, by rw [ET.out]; exact ho6, by (repeat' (first | (with_reducible exact Below.refl _ _) | (with_reducible assumption) | (with_reducible refine Below.drew ?_) | (with_reducible refine belowDrewN ?_ _) | (with_reducible refine Below.alloc ?_ ?_ _) | (with_reducible refine Below.setCell ?_ ?_ _) | (with_reducible refine belowStep (by assumption) ?_ ?_) | (with_reducible exact Below.size (by assumption)) | go_size))⟩
              case measure => simp [intOf]; omega
            · obtain rfl : k = l.length := by omega
              have hki : ¬ ((l.length : Nat) : Int) < ((ints l).length : Int) := by omega
              have ho := Ho.out
              rw [List.take_length] at ho
              obtain ⟨A7, c7, rfl, hr7⟩ := ho.form
              have R7 := Lib.hid hr7
              have ht1 := ovT_len N l
              have ht2 : (ovT N l).length ≤ 1048576 := by omega
              clear ho hr7 Ho hol2 ht1
              cases he : expB (ovT N l) with
              | true =>
                have E2 := E.out
                rw [if_pos he] at E2
                have E3 := Lib.hid E2
                have HU := Lib.hid fun (w : World) (h : Reads w A7 (ovT N l)) => unList_yes w A7 c7 (ovT N l) h ht2 he
                clear E E2 he
                generalize ovT N l = ts at *
                go_wp2_with fail
                refine (HU.out _ R7.out).mono ?_; rintro e w8 ⟨rfl, hb8⟩; have hz8 := hb8.size; (try simp only [World.size_alloc, World.size_setCell, World.size_drew, World.heap_drewN] at hz8)
                go_wp2
                go_ret2
                rw [E3.out]
                exact ⟨A7, c7, rfl, R7.out.below hb8, by (repeat' (first | (with_reducible exact Below.refl _ _) | (with_reducible assumption) | (with_reducible refine Below.drew ?_) | (with_reducible refine belowDrewN ?_ _) | (with_reducible refine Below.alloc ?_ ?_ _) | (with_reducible refine Below.setCell ?_ ?_ _) | (with_reducible refine belowStep (by assumption) ?_ ?_) | (with_reducible exact Below.size (by assumption)) | go_size))⟩
              | false =>
                have E2 := E.out
                rw [if_neg (by rw [he]; decide)] at E2
                have E3 := Lib.hid E2
                have HU := Lib.hid fun (w : World) (h : Reads w A7 (ovT N l)) => unList_no w A7 c7 (ovT N l) h ht2 he
                clear E E2 he
                generalize ovT N l = ts at *
                go_wp2_with fail
                refine (HU.out _ R7.out).mono ?_; rintro e w8 ⟨rfl, hb8⟩; have hz8 := hb8.size; (try simp only [World.size_alloc, World.size_setCell, World.size_drew, World.heap_drewN] at hz8)
                go_wp2
                go_ret2
                rw [E3.out]
                exact ⟨none, 0, rfl, Reads.nil, by (repeat' (first | (with_reducible exact Below.refl _ _) | (with_reducible assumption) | (with_reducible refine Below.drew ?_) | (with_reducible refine belowDrewN ?_ _) | (with_reducible refine Below.alloc ?_ ?_ _) | (with_reducible refine Below.setCell ?_ ?_ _) | (with_reducible refine belowStep (by assumption) ?_ ?_) | (with_reducible exact Below.size (by assumption)) | go_size))⟩
        · have E := Lib.hid (EB.out hw)
          rw [decide_eq_false hw] at HW
          clear EV EB hw
          go_enter Try.func62, Try.ntmps62
          go_wp2
          go_quiet (fail)
          go_wp2
          go_quiet (fail)
          go_wp2_with fail
          refine (HSG.out _).mono ?_; rintro e w3 ⟨rfl, hb3⟩; have hz3 := hb3.size; (try simp only [World.size_alloc, World.heap_drewN] at hz3)
          go_wp2_with fail
          refine (prDivisors_any N _ h2).mono ?_; rintro e w4 ⟨v4, rfl, ho4, hb4⟩; obtain ⟨A4, c4, rfl, hr4⟩ := ho4.form
          have hz4 := hb4.size
          have hcp := ho4.cap_
          go_wp2_with fail
          refine (HW.out _ _ _ hr4 hcp).mono ?_; rintro e w5 ⟨v5, rfl, ho5, hb5⟩
          have hz5 := hb5.size
          go_wp2
          go_ret2
          rw [E.out]
          exact ⟨none, 0, rfl, Reads.nil, by (repeat' (first | (with_reducible exact Below.refl _ _) | (with_reducible assumption) | (with_reducible refine Below.drew ?_) | (with_reducible refine belowDrewN ?_ _) | (with_reducible refine Below.alloc ?_ ?_ _) | (with_reducible refine Below.setCell ?_ ?_ _) | (with_reducible refine belowStep (by assumption) ?_ ?_) | (with_reducible exact Below.size (by assumption)) | go_size))⟩
    · have hS100 : ¬ S ≤ 100000 := fun h => hax (hXle.2 h)
      have hax' : (X : Int) < (a : Int) := by omega
      have hbx : decide ((X : Int) < (a : Int)) = true := decide_eq_true hax'
      have E : Hid (ovO (a : Int) (D : Int) (N : Int) = none) := Lib.hid (ovO_none (by rw [HDF.out]; exact dfO_s (by unfold askB; rw [decide_eq_false (show ¬ (S : Int) ≤ 100000 by omega), Bool.and_false])))
      go_enter Try.func62, Try.ntmps62
      go_wp2
      go_quiet (fail)
      go_wp2
      go_ret2
      rw [E.out]
      exact ⟨none, 0, rfl, Reads.nil, by (repeat' (first | (with_reducible exact Below.refl _ _) | (with_reducible assumption) | (with_reducible refine Below.drew ?_) | (with_reducible refine belowDrewN ?_ _) | (with_reducible refine Below.alloc ?_ ?_ _) | (with_reducible refine Below.setCell ?_ ?_ _) | (with_reducible refine belowStep (by assumption) ?_ ?_) | (with_reducible exact Below.size (by assumption)) | go_size))⟩
  · have E : Hid (ovO (a : Int) (D : Int) (N : Int) = none) := Lib.hid (ovO_rem (by rw [e2]; omega))
    have hr1 : N % D ≤ N := Nat.mod_le N D
    generalize N % D = r at *
    have hb1 : ((r : Int) != 0) = true := by simp; omega
    have hb2 : (r : Int) ≠ 0 := by omega
    go_enter Try.func62, Try.ntmps62
    go_wp2
    go_quiet (fail)
    go_wp2
    go_ret2
    rw [E.out]
    exact ⟨none, 0, rfl, Reads.nil, by (repeat' (first | (with_reducible exact Below.refl _ _) | (with_reducible assumption) | (with_reducible refine Below.drew ?_) | (with_reducible refine belowDrewN ?_ _) | (with_reducible refine Below.alloc ?_ ?_ _) | (with_reducible refine Below.setCell ?_ ?_ _) | (with_reducible refine belowStep (by assumption) ?_ ?_) | (with_reducible exact Below.size (by assumption)) | go_size))⟩
end Go.Proofs.Ythkchhjidihkpab


/-
  What is reached, as a map: facts on a map that is filled in an order that nobody knows.
-/
namespace Go.Proofs.Ythkchhjidihkpab
open Go.RowKit
open Go.Maps (Keyed IsMap)
abbrev KL (x : Int) : Lit := .int .i64 x
theorem KL_key (x : Int) : WideAt.IsKeyLit (KL x) := trivial
theorem KL_inj {x y : Int} (h : KL x = KL y) : x = y := by injection h
theorem KL_ne {x y : Int} (h : x ≠ y) : KL x ≠ KL y := fun e => h (KL_inj e)
theorem KL_same (x y : Int) : (KL x).sameKey (KL y) = decide (x = y) := by
  by_cases h : x = y
  · subst h; rw [WideAt.sameKey_self (KL_key x)]; simp
  · rw [Go.Maps.sameKey_ne (KL_ne h)]; simp [h]
/-- the sources that have been taken with the divisor d -/
def Done (P : List Nat) (d : Nat) (left : Lit → Bool) (s : Nat) : Prop := d ≤ s ∧ 0 < ways P (s - d) ∧ left (KL ((s - d : Nat) : Int)) = false
/-- the map of all that is reached up to S -/
structure Fin (R : Value → Option (DataW Unit × List MemPlace)) (G : List Nat → Nat → Value → Prop) (D : DataW Unit) (P : List Nat) (S : Nat) : Prop where
  has : ∀ x : Int, Go.Maps.has D (KL x) = true ↔ (0 ≤ x ∧ x ≤ S ∧ 0 < ways P x.toNat)
  val : ∀ s : Nat, s ≤ S → 0 < ways P s → ∃ v ps dt, R v = some (dt, ps) ∧ (∀ zd, D.atKey (KL s) zd = dt) ∧ G P s v
/-- .. on the way -/
structure Mid (R : Value → Option (DataW Unit × List MemPlace)) (G : List Nat → Nat → Value → Prop) (D : DataW Unit) (P : List Nat) (d S : Nat) (left : Lit → Bool) : Prop where
  has : ∀ x : Int, Go.Maps.has D (KL x) = true ↔ (0 ≤ x ∧ x ≤ S ∧ (0 < ways P x.toNat ∨ Done P d left x.toNat))
  val : ∀ s : Nat, s ≤ S → (0 < ways P s ∨ Done P d left s) → ∃ v ps dt, R v = some (dt, ps) ∧ (∀ zd, D.atKey (KL s) zd = dt) ∧ (Done P d left s → G (d :: P) s v) ∧ (¬ Done P d left s → G P s v)
section
variable {R : Value → Option (DataW Unit × List MemPlace)} {G G' : List Nat → Nat → Value → Prop} {D : DataW Unit} {P : List Nat} {d S s0 : Nat} {left : Lit → Bool}
theorem Fin.world (h : Fin R G D P S) (hG : ∀ P s v, G P s v → G' P s v) : Fin R G' D P S :=
  ⟨h.has, fun s hs hw => by obtain ⟨v, ps, dt, a, b, c⟩ := h.val s hs hw; exact ⟨v, ps, dt, a, b, hG _ _ _ c⟩⟩
theorem Mid.world (h : Mid R G D P d S left) (hG : ∀ P s v, G P s v → G' P s v) : Mid R G' D P d S left :=
  ⟨h.has, fun s hs hw => by obtain ⟨v, ps, dt, a, b, c, e⟩ := h.val s hs hw; exact ⟨v, ps, dt, a, b, fun h => hG _ _ _ (c h), fun h => hG _ _ _ (e h)⟩⟩
theorem mid_start (h : Fin R G D P S) : Mid R G D P d S (Go.Maps.has D) := by
  have hd : ∀ s : Nat, s ≤ S → ¬ Done P d (Go.Maps.has D) s := fun s hs ⟨a, b, c⟩ => by
    rw [(h.has _).2 ⟨by omega, by omega, by simpa using b⟩] at c
    cases c
  refine ⟨fun x => ?_, fun s hs hw => ?_⟩
  · rw [h.has x]
    constructor
    · rintro ⟨a, b, c⟩; exact ⟨a, b, .inl c⟩
    · rintro ⟨a, b, c | c⟩
      · exact ⟨a, b, c⟩
      · exact absurd c (hd _ (by omega))
  · rcases hw with hw | hw
    · obtain ⟨v, ps, dt, a, b, c⟩ := h.val s hs hw
      exact ⟨v, ps, dt, a, b, fun h => absurd h (hd s hs), fun _ => c⟩
    · exact absurd hw (hd s hs)
theorem done_next (s : Nat) : Done P d (fun z => left z && !z.sameKey (KL s0)) s ↔ (Done P d left s ∨ (d ≤ s ∧ 0 < ways P (s - d) ∧ s - d = s0)) := by
  unfold Done
  dsimp only
  rw [KL_same]
  constructor
  · rintro ⟨a, b, c⟩
    by_cases h : s - d = s0
    · exact .inr ⟨a, b, h⟩
    · refine .inl ⟨a, b, ?_⟩
      have : decide (((s - d : Nat) : Int) = (s0 : Int)) = false := decide_eq_false (by omega)
      rw [this] at c
      simpa using c
  · rintro (⟨a, b, c⟩ | ⟨a, b, c⟩)
    · exact ⟨a, b, by rw [c]; rfl⟩
    · refine ⟨a, b, ?_⟩
      rw [decide_eq_true (by omega)]
      simp
theorem mid_skip (h : Mid R G D P d S left) (hs : S < s0 + d) : Mid R G D P d S (fun z => left z && !z.sameKey (KL s0)) := by
  have hd : ∀ s : Nat, s ≤ S → (Done P d (fun z => left z && !z.sameKey (KL s0)) s ↔ Done P d left s) := fun s h1 => by
    rw [done_next]
    constructor
    · rintro (a | ⟨a, b, c⟩)
      · exact a
      · omega
    · exact .inl
  refine ⟨fun x => ?_, fun s h1 hw => ?_⟩
  · rw [h.has x]
    constructor
    · rintro ⟨a, b, c⟩; exact ⟨a, b, c.imp id (hd _ (by omega)).2⟩
    · rintro ⟨a, b, c⟩; exact ⟨a, b, c.imp id (hd _ (by omega)).1⟩
  · obtain ⟨v, ps, dt, a, b, c, e⟩ := h.val s h1 (hw.imp id (hd s h1).1)
    exact ⟨v, ps, dt, a, b, fun h => c ((hd s h1).1 h), fun h9 => e (fun h8 => h9 ((hd s h1).2 h8))⟩
theorem mid_put (h : Mid R G D P d S left) (hm : IsMap D) (hs : s0 + d ≤ S) (hw : 0 < ways P s0) {v : Value} {dt : DataW Unit} {ps : List MemPlace} (hv : R v = some (dt, ps)) (hg : G (d :: P) (s0 + d) v) :
    Mid R G (D.put (KL ((s0 + d : Nat) : Int)) dt) P d S (fun z => left z && !z.sameKey (KL s0)) := by
  have hd0 : Done P d (fun z => left z && !z.sameKey (KL s0)) (s0 + d) := (done_next _).2 (.inr ⟨by omega, by rw [Nat.add_sub_cancel]; exact hw, by omega⟩)
  have hd : ∀ s : Nat, s ≠ s0 + d → (Done P d (fun z => left z && !z.sameKey (KL s0)) s ↔ Done P d left s) := fun s h1 => by
    rw [done_next]
    constructor
    · rintro (a | ⟨a, b, c⟩)
      · exact a
      · omega
    · exact .inl
  refine ⟨fun x => ?_, fun s h1 hw => ?_⟩
  · by_cases hx : x = ((s0 + d : Nat) : Int)
    · subst hx
      rw [Go.Maps.has_put_same hm (KL_key _)]
      exact ⟨fun _ => ⟨by omega, by omega, .inr hd0⟩, fun _ => rfl⟩
    · rw [Go.Maps.has_put_other (KL_ne hx), h.has x]
      constructor
      · rintro ⟨a, b, c⟩; exact ⟨a, b, c.imp id (hd _ (by omega)).2⟩
      · rintro ⟨a, b, c⟩; exact ⟨a, b, c.imp id (hd _ (by omega)).1⟩
  · by_cases hx : s = s0 + d
    · subst hx
      exact ⟨v, ps, dt, hv, fun zd => Go.Maps.atKey_put_same hm (KL_key _) dt zd, fun _ => hg, fun h9 => absurd hd0 h9⟩
    · obtain ⟨v', ps', dt', a, b, c, e⟩ := h.val s h1 (hw.imp id (hd s hx).1)
      exact ⟨v', ps', dt', a, fun zd => by rw [Go.Maps.atKey_put_other (KL_ne (by omega))]; exact b zd, fun h => c ((hd s hx).1 h), fun h9 => e (fun h8 => h9 ((hd s hx).2 h8))⟩
theorem mid_end (h : Mid R G D P d S left) (hl : ∀ kl, left kl = false) (stay : ∀ s v, G P s v → ¬ (d ≤ s ∧ 0 < ways P (s - d)) → G (d :: P) s v) : Fin R G D (d :: P) S := by
  have hd : ∀ s : Nat, Done P d left s ↔ (d ≤ s ∧ 0 < ways P (s - d)) := fun s => ⟨fun ⟨a, b, _⟩ => ⟨a, b⟩, fun ⟨a, b⟩ => ⟨a, b, hl _⟩⟩
  have hw : ∀ s : Nat, 0 < ways (d :: P) s ↔ (0 < ways P s ∨ Done P d left s) := fun s => by
    rw [hd, ways]
    by_cases h1 : d ≤ s
    · rw [if_pos h1]
      constructor
      · intro h2
        by_cases h3 : 0 < ways P s
        · exact .inl h3
        · exact .inr ⟨h1, by omega⟩
      · rintro (h2 | ⟨_, h2⟩) <;> omega
    · rw [if_neg h1]
      constructor
      · intro h2; exact .inl (by omega)
      · rintro (h2 | ⟨h2, _⟩)
        · omega
        · exact absurd h2 h1
  refine ⟨fun x => ?_, fun s h1 h2 => ?_⟩
  · rw [h.has x, hw]
  · obtain ⟨v, ps, dt, a, b, c, e⟩ := h.val s h1 ((hw s).1 h2)
    refine ⟨v, ps, dt, a, b, ?_⟩
    by_cases h3 : Done P d left s
    · exact c h3
    · exact stay s v (e h3) (fun h4 => h3 ((hd s).2 h4))
end
section
variable {P : Program} (w : World) {ops : Array Oper} {rest : List Oper} {o : Oper} {a : Act} {Q : Exit → Act → World → Prop}
/-- a look-up, whatever the elements -/
theorem wpList_lookup_any (hg : o.guard = none) (m x : Operand) (t : TypeId) (hop : o.op = Op.lookup t m x false)
    (k e : TypeId) (K : Keyed P k) (ht : P.underlying t = some (.map k e)) (R : Value → Option (DataW Unit × List MemPlace)) {z : Value} (hz : (zeroValue e).run P w = .ok z w) (zd : DataW Unit) (zp : List MemPlace) (hzd : R z = some (zd, zp)) (b n : Nat) (D : DataW Unit)
    (hm : a.eval m = .map (some b)) (hown : w.ownsMap P k R b n D) (key : Value) (kl : Lit) (hx : a.eval x = key) (hkey : keyOf P k key = some kl)
    (hK : ∀ v ps, R v = some (D.atKey kl zd, ps) → wpList P ops Q rest (a.put o.dst v) w) :
    wpList P ops Q (o :: rest) a w := by
  refine wpList_plain hg fun K' hK' => ?_
  obtain ⟨v, ps, hrun, hv⟩ := hown.lookup K ht hz hzd hkey
  unfold Oper.wp
  simp [execOp, hop, hm, hx, hrun, Result.andThen]
  exact hK' _ _ (hK v ps hv)
end
theorem wpList_insert_any {H : Type} {P : Program} (w : World) {ops : Array Oper} {rest : List Oper} {o : Oper} {a : Act} {Q : Exit → Act → World → Prop}
    (hg : o.guard = none) (m x v : Operand) (t : TypeId) (hop : o.op = Op.insert t m x v)
    (k e : TypeId) (K : Keyed P k) (ht : P.underlying t = some (.map k e)) (R : Value → Option (DataW H × List MemPlace)) (b n : Nat) (D : DataW H)
    (hm : a.eval m = .map (some b)) (hown : w.ownsMap P k R b n D) (hn : n < maxLen) (key val : Value) (kl : Lit) (hx : a.eval x = key) (hv : a.eval v = val) (hkey : keyOf P k key = some kl)
    (d : DataW H) (ps : List MemPlace) (hval : R val = some (d, ps))
    (hK : ∀ w', w'.ownsMap P k R b (n + 1) (D.put kl d) → w.grownBy w' (some b) → wpList P ops Q rest (a.put o.dst undef) w') :
    wpList P ops Q (o :: rest) a w := by
  refine wpList_plain hg fun K' hK' => ?_
  obtain ⟨w', hrun, r1, r2⟩ := hown.update K ht hn hkey hval
  unfold Oper.wp
  simp [execOp, hop, hm, hx, hv, hrun, Result.andThen]
  exact hK' _ _ (hK w' r1 r2)
end Go.Proofs.Ythkchhjidihkpab


/-
  Contracts of the cursor that draws inputs from bytes: what it hands out lies in its range, whatever the bytes are.
-/
namespace Go.Proofs.Ythkchhjidihkpab
open Go.RowKit
/-- bytes that may be read -/
def ReadsB (w : World) (A : Option Addr) (len : Nat) : Prop := 0 < len → ∃ b o, A = some ⟨b, o, none⟩ ∧ b < w.heap.size ∧ ∀ i, i < len → ∃ v : Int, w.cell? ⟨b, o + i, none⟩ = some (.int .u8 v) ∧ 0 ≤ v ∧ v ≤ 255
theorem ReadsB.below {w w' : World} {A : Option Addr} {len : Nat} (h : ReadsB w A len) (hb : Below w.heap.size w w') : ReadsB w' A len := fun h0 => by
  obtain ⟨b, o, e, hlt, hc⟩ := h h0
  refine ⟨b, o, e, Nat.lt_of_lt_of_le hlt hb.size, fun i hi => ?_⟩
  obtain ⟨v, h1, h2⟩ := hc i hi
  exact ⟨v, (hb.cell (p := ⟨b, o + i, none⟩) hlt).trans h1, h2⟩
/-- the cursor's three cells, and that its count has gone at most to n; its bytes are older than it -/
def Cur (w0 w : World) (g n : Nat) : Prop := w0.heap.size ≤ g ∧ g < w.heap.size ∧ Below w0.heap.size w0 w ∧ ∃ (A : Option Addr) (len c : Nat) (k s : Int),
  w.cell? ⟨g, 0, none⟩ = some (.slice A len c) ∧ len ≤ 1048576 ∧ ReadsB w0 A len ∧ w.cell? ⟨g, 1, none⟩ = some (.int .i64 k) ∧ 0 ≤ k ∧ k ≤ n ∧ w.cell? ⟨g, 2, none⟩ = some (.int .u64 s) ∧ w.frozen? ⟨g, 1, none⟩ = false ∧ w.frozen? ⟨g, 2, none⟩ = false
def DrawN (w0 w : World) (g n : Nat) (lo hi : Int) (e : Ending) (w' : World) : Prop := ∃ x : Int, e = .returned (.int .i64 x) ∧ lo ≤ x ∧ x ≤ hi ∧ Cur w0 w' g n ∧ w.grownBy w' (some g)
theorem grownDrewN {a w : World} {row : Option Nat} (h : a.grownBy w row) (k : Nat) : a.grownBy (w.drewN k) row := ⟨h.os, h.tape, h.output, h.size, h.block⟩
theorem Cur.step {w0 w : World} {g n : Nat} {k : Int} (h : Cur w0 w g n) (hk : w.cell? ⟨g, 1, none⟩ = some (.int .i64 k)) (hkn : k ≤ n) (k0 : 0 ≤ k) (a b : Nat) (s : Int) :
    Cur w0 ((((w.drewN a).setCell ⟨g, 1, none⟩ (.int .i64 (k + 1))).setCell ⟨g, 2, none⟩ (.int .u64 s)).drewN b) g (n + 1) ∧ w.grownBy ((((w.drewN a).setCell ⟨g, 1, none⟩ (.int .i64 (k + 1))).setCell ⟨g, 2, none⟩ (.int .u64 s)).drewN b) (some g) := by
  obtain ⟨hg0, hg, hb0, A, len, c, k', s', h0, hl, hr, h1, k0, k1, h2, f1, f2⟩ := h
  have G : w.grownBy ((((w.drewN a).setCell ⟨g, 1, none⟩ (.int .i64 (k + 1))).setCell ⟨g, 2, none⟩ (.int .u64 s)).drewN b) (some g) :=
    grownDrewN (grownSet (grownSet (grownDrewN (World.grownBy.refl w (some g)) a) rfl 1 _) rfl 2 _) b
  refine ⟨⟨hg0, by simpa using hg, hb0.grown G (by have := hb0.size; omega) (fun j hj => by injection hj with hj; omega), A, len, c, k + 1, s, ?_, hl, hr, ?_, by omega, by omega, ?_, ?_, ?_⟩, G⟩
  all_goals simp [go_sem, *]
theorem and255 (x : Int) (h0 : 0 ≤ x) (h1 : x < 18446744073709551616) : 0 ≤ wrap64 (bits BinOp.and IntKind.u64 x 255) ∧ wrap64 (bits BinOp.and IntKind.u64 x 255) ≤ 255 := by
  obtain ⟨a, rfl⟩ := Int.eq_ofNat_of_zero_le h0
  have h := bits_and_u64_nat a 255 (by omega) (by omega)
  have h2 : a &&& 255 ≤ 255 := Nat.and_le_right
  rw [show ((255 : Nat) : Int) = 255 from rfl] at h
  rw [h]
  unfold wrap64
  omega
theorem shr40 (x : Int) : 0 ≤ IntKind.u64.wrap x / 1099511627776 ∧ IntKind.u64.wrap x / 1099511627776 < 18446744073709551616 := by
  have h : 0 ≤ IntKind.u64.wrap x ∧ IntKind.u64.wrap x < 18446744073709551616 := by
    rw [IntKind.wrap_u64]; omega
  omega
set_option maxHeartbeats 2000000 in
theorem next_any (w0 w : World) (g n : Nat) (hn : n ≤ 1000000000) (h : Cur w0 w g n) : Calls Try.prog 117 #[.pointer (some ⟨g, 0, none⟩)] w (DrawN w0 w g (n + 1) 0 255) := by
  have HC := Lib.hid h
  obtain ⟨hg0, hg, hb0, A, len, c, k, s, h0, hl, hr, h1, k0, k1, h2, f1, f2⟩ := h
  by_cases hlt : k < len
  · obtain ⟨j, rfl⟩ := Int.eq_ofNat_of_zero_le k0
    obtain ⟨b, o, rfl, hb, hc⟩ := (hr.below hb0) (by omega)
    obtain ⟨v, hv, v0, v1⟩ := hc j (by omega)
    have Hr := Lib.hid hr
    have Hc := Lib.hid hc
    clear hr hc
    have hj : (j : Int) < (len : Int) := hlt
    have hj1 : (j : Int) + 1 ≤ (len : Int) := by omega
    go_enter Try.func117, Try.ntmps117
    go_wp2
    go_quiet (fail)
    go_wp2
    go_quiet (fail)
    go_wp2
    go_quiet (fail)
    go_wp2
    go_ret
    have HS := HC.out.step h1 k1 k0
    exact ⟨_, rfl, v0, v1, (HS _ _ _).1, (HS _ _ _).2⟩
  · have hj : (len : Int) ≤ k := by omega
    have hj1 : ¬ k + 1 ≤ (len : Int) := by omega
    go_enter Try.func117, Try.ntmps117
    go_wp2
    go_quiet (fail)
    go_wp2
    go_quiet (fail)
    go_wp2
    go_ret
    have HS := HC.out.step h1 k1 k0
    exact ⟨_, rfl, (and255 _ (shr40 _).1 (shr40 _).2).1, (and255 _ (shr40 _).1 (shr40 _).2).2, (HS _ _ _).1, (HS _ _ _).2⟩
theorem mod_in {x n : Int} (h : 1 ≤ n) : 0 ≤ x % n ∧ x % n ≤ n - 1 := by
  have := Int.emod_nonneg x (by omega : n ≠ 0)
  have := Int.emod_lt_of_pos x (by omega : 0 < n)
  omega
theorem Cur.more {w0 w : World} {g n m : Nat} (h : Cur w0 w g n) (hm : n ≤ m) : Cur w0 w g m := by
  obtain ⟨hg0, hg, hb0, A, len, c, k, s, h0, hl, hr, h1, k0, k1, r⟩ := h
  exact ⟨hg0, hg, hb0, A, len, c, k, s, h0, hl, hr, h1, k0, by omega, r⟩
set_option maxHeartbeats 2000000 in
theorem pick_any (w0 w : World) (g n : Nat) (hn : n ≤ 1000000) (m : Int) (hm : m ≤ 1000000000) (h : Cur w0 w g n) : Calls Try.prog 77 #[.pointer (some ⟨g, 0, none⟩), .int .i64 m] w (DrawN w0 w g (n + 2) 0 (max 0 (m - 1))) := by
  have HC := Lib.hid h
  clear h
  by_cases h1 : m ≤ 1
  · go_enter Try.func77, Try.ntmps77
    go_wp2
    go_ret
    exact ⟨0, rfl, by omega, by omega, HC.out.more (by omega), World.grownBy.refl w _⟩
  · have h1' : 1 < m := by omega
    clear h1
    by_cases h2 : 200 < m
    · go_enter Try.func77, Try.ntmps77
      go_wp2_with fail
      refine (next_any w0 _ _ n (by omega) HC.out).mono ?_; rintro e w1 ⟨x, rfl, x0, x1, hc1, hg1⟩
      have HC1 := Lib.hid hc1
      have Hg1 := Lib.hid hg1
      clear hc1 hg1
      go_wp2_with fail
      refine (next_any w0 _ _ (n + 1) (by omega) HC1.out).mono ?_; rintro e w2 ⟨y, rfl, y0, y1, hc2, hg2⟩
      have HC2 := Lib.hid hc2
      have Hg2 := Lib.hid hg2
      have hmd := mod_in (x := x * 256 + y) (n := m) (by omega)
      clear hc2 hg2
      go_wp2
      go_ret
      exact ⟨_, rfl, hmd.1, by omega, HC2.out, Hg1.out.trans Hg2.out⟩
    · go_enter Try.func77, Try.ntmps77
      go_wp2_with fail
      refine (next_any w0 _ _ n (by omega) HC.out).mono ?_; rintro e w1 ⟨x, rfl, x0, x1, hc1, hg1⟩
      have HC1 := Lib.hid hc1
      have Hg1 := Lib.hid hg1
      have hmd := mod_in (x := x) (n := m) (by omega)
      clear hc1 hg1
      go_wp2
      go_ret
      exact ⟨_, rfl, hmd.1, by omega, HC1.out.more (by omega), Hg1.out⟩
end Go.Proofs.Ythkchhjidihkpab
