
/-
  Contract of ExpandOver in the model.
-/
import Derived.Test.YtbjblkfibinenadForS
import Derived.Test.YtbjblkfibinenadIfExp
namespace Go.Proofs.Ytbjblkfibinenad
open Go.RowKit
/-- the expansion over a number -/
def ovT (N : Nat) (l : List Nat) : List Int := ints (l.map (fun d => N / d))
def ovO (n d N : Int) : Option (List Int) := if goodB n d = true ∧ numB N = true ∧ N % d = 0 then (dfO N (N / d * n)).bind (fun l => if expB (ovT N.toNat l) = true then some (ovT N.toNat l) else none) else none
theorem ovO_bad {n d N : Int} (h : goodB n d = false) : ovO n d N = none := by unfold ovO; rw [if_neg (fun e => by rw [h] at e; cases e.1)]
theorem ovO_num {n d N : Int} (h : numB N = false) : ovO n d N = none := by unfold ovO; rw [if_neg (fun e => by rw [h] at e; cases e.2.1)]
theorem ovO_rem {n d N : Int} (h : ¬ N % d = 0) : ovO n d N = none := by unfold ovO; rw [if_neg (fun e => h e.2.2)]
theorem ovO_none {n d N : Int} (h : dfO N (N / d * n) = none) : ovO n d N = none := by unfold ovO; rw [h]; split <;> rfl
theorem ovO_some {n d : Int} {N : Nat} {l : List Nat} (hg : goodB n d = true) (hn : numB (N : Int) = true) (hr : (N : Int) % d = 0) (h : dfO (N : Int) (N / d * n) = some l) : ovO n d N = if expB (ovT N l) = true then some (ovT N l) else none := by unfold ovO; rw [if_pos ⟨hg, hn, hr⟩, h]; rfl
theorem ovT_len (N : Nat) (l : List Nat) : (ovT N l).length = l.length := by unfold ovT; rw [ints_len, List.length_map]
theorem ovO_len (n d N : Int) : ((ovO n d N).getD []).length ≤ 24 := by
  unfold ovO
  split
  · cases dfO N (N / d * n) with
    | none => simp
    | some l =>
      rw [Option.bind_some]
      split
      · rename_i h; exact expB_len h
      · simp
  · simp
theorem ovT_at {N : Nat} {l : List Nat} {k d : Nat} (h : l[k]? = some d) : (ovT N l)[k]? = some ((N / d : Nat) : Int) := by unfold ovT ints; rw [List.map_map, List.getElem?_map, h]; rfl
theorem ovT_take {N : Nat} {l : List Nat} {k d : Nat} (h : l[k]? = some d) : ovT N (l.take (k + 1)) = ovT N (l.take k) ++ [((N / d : Nat) : Int)] := by
  unfold ovT ints
  rw [List.take_add_one, h]
  simp
theorem pick_mem {N S : Nat} (d : Nat) (h : d ∈ pick (dsc N N) S) : 1 ≤ d ∧ d ≤ N := by
  have := (dsc_mem N N d).1 ((pick_sub _ _).subset h)
  omega
/-- the quotient, where the number is a multiple -/
theorem quo_of {N D : Nat} (h1 : 1 ≤ N) (hD : 1 ≤ D) (h : N % D = 0) : 1 ≤ N / D ∧ N / D ≤ N ∧ ((N : Int) % (D : Int) = 0) ∧ ((N : Int) / (D : Int) = ((N / D : Nat) : Int)) := by
  have hd := Nat.le_of_dvd h1 (Nat.dvd_of_mod_eq_zero h)
  refine ⟨Nat.div_pos hd hD, Nat.div_le_self N D, ?_, (Int.natCast_ediv N D).symm⟩
  rw [← Int.natCast_emod, h]
  rfl
theorem remv2 {n p : Nat} : ((n : Int).tmod (p : Int) = ((n % p : Nat) : Int)) ∧ ((n : Int) % (p : Int) = ((n % p : Nat) : Int)) ∧ ((n : Int).tdiv (p : Int) = ((n / p : Nat) : Int)) ∧ ((n : Int) / (p : Int) = ((n / p : Nat) : Int)) := by
  refine ⟨?_, (Int.natCast_emod n p).symm, ?_, (Int.natCast_ediv n p).symm⟩
  · rw [Int.tmod_eq_emod_of_nonneg (by omega), Int.natCast_emod]
  · rw [Int.tdiv_eq_ediv_of_nonneg (by omega), Int.natCast_ediv]
theorem ovT_big {N : Nat} {l : List Nat} (_ : ∀ d ∈ l, 1 ≤ d ∧ d ≤ N) (hN : N ≤ 2000) : In64 (ovT N l) := In64.of_mem fun x hx => by
  unfold ovT ints at hx
  rw [List.map_map] at hx
  obtain ⟨d, hd, rfl⟩ := List.mem_map.1 hx
  have : N / d ≤ N := Nat.div_le_self N d
  show -9223372036854775808 ≤ ((N / d : Nat) : Int) ∧ ((N / d : Nat) : Int) ≤ _
  generalize N / d = q at *
  omega
set_option maxRecDepth 100000 in
set_option maxHeartbeats 8000000 in
theorem prOver_any (n d N : Int) (w : World) (hg : goodB n d = true) (hN : numB N = true) : Calls Try.prog 32 #[.agg #[.int .i64 n, .int .i64 d], .int .i64 N] w (RetRB ((ovO n d N).getD []) (ovO n d N).isSome w) := by
  obtain ⟨N, rfl, h1, h2⟩ := numB_nat hN
  obtain ⟨g1, g2, g3, g4⟩ := good_bounds hg
  obtain ⟨a, rfl⟩ := Int.eq_ofNat_of_zero_le g1
  obtain ⟨D, rfl⟩ := Int.eq_ofNat_of_zero_le (show 0 ≤ d by omega)
  have hD1 : 1 ≤ D := by omega
  have hne : (D : Int) ≠ 0 := by omega
  obtain ⟨e1, e2, e3, e4⟩ := @remv2 N D
  have HG := Lib.hid hg
  have HNB := Lib.hid hN
  clear hg hN
  by_cases hm : N % D = 0
  · obtain ⟨q1, q2, q3, q4⟩ := quo_of h1 hD1 hm
    have HQ3 := Lib.hid q3
    have HQ4 := Lib.hid q4
    rw [hm] at e1 e2
    clear q3 q4 hm
    obtain ⟨e5, e6, e7, e8⟩ := @remv2 100000 (N / D)
    have hle1 : ∀ x, x = 100000 / (N / D) → (a ≤ x ↔ N / D * a ≤ 100000) := fun x hx => by rw [hx, Nat.le_div_iff_mul_le (by omega), Nat.mul_comm]
    have HLE := Lib.hid hle1
    have hx0 : 100000 / (N / D) ≤ 100000 := Nat.div_le_self _ _
    have HIN : Hid (∀ x, N / D * a ≤ x → 0 ≤ x) := Lib.hid fun _ _ => Nat.zero_le _
    have hmul : a * (N / D) ≤ 2000000000000 := Nat.le_trans (Nat.mul_le_mul (show a ≤ 1000000000 by omega) (show N / D ≤ 2000 by omega)) (by decide)
    have HS : Hid (((N : Int) / (D : Int)) * (a : Int) = ((N / D * a : Nat) : Int)) := Lib.hid (by rw [HQ4.out, Int.natCast_mul])
    have hSa : (a : Int) * ((N / D : Nat) : Int) = ((N / D * a : Nat) : Int) := by rw [Int.natCast_mul, Int.mul_comm]
    have hcm : a * (N / D) = N / D * a := Nat.mul_comm _ _
    rw [hcm] at hmul
    clear hle1 e5 e6 hcm
    obtain ⟨Q, hQ⟩ : ∃ Q, Q = N / D := ⟨_, rfl⟩
    rw [← hQ] at q1 q2 e3 e4 e7 e8 HLE hx0 hmul HS hSa HQ4 HIN
    obtain ⟨X, hX⟩ : ∃ X, X = 100000 / Q := ⟨_, rfl⟩
    rw [← hX] at hx0
    have e9 : (100000 : Int) / (Q : Int) = (X : Int) := by rw [hX]; exact Eq.symm (Int.natCast_ediv 100000 Q)
    have e10 : (100000 : Int).tdiv (Q : Int) = (X : Int) := by rw [Int.tdiv_eq_ediv_of_nonneg (by omega)]; exact e9
    clear e7 e8
    obtain ⟨S, hSd⟩ : ∃ S, S = Q * a := ⟨_, rfl⟩
    rw [← hSd] at hmul HS hSa HLE
    have hXle := HLE.out X hX
    have hQne : (Q : Int) ≠ 0 := by omega
    have hwS : IntKind.i64.wrap ((a : Int) * (Q : Int)) = (S : Int) := by rw [hSa]; exact IntWalk.i64_in _ (by omega)
    have HDF : Hid (dfO (N : Int) ((N : Int) / (D : Int) * (a : Int)) = dfO (N : Int) (S : Int)) := Lib.hid (by rw [HS.out])
    clear HLE hX hQ hSd HIN HS HQ4
    by_cases hax : a ≤ X
    · have hS100 : S ≤ 100000 := hXle.1 hax
      have hax' : ¬ (X : Int) < (a : Int) := by omega
      have hbx : decide ((X : Int) < (a : Int)) = false := decide_eq_false hax'
      clear hXle
      have hsg := sig_small h2
      by_cases hsig : sig N < S
      · have E : Hid (ovO (a : Int) (D : Int) (N : Int) = none) := Lib.hid (ovO_none (by rw [HDF.out]; exact dfO_no (by rw [ways_none hsig]; omega)))
        have hsig' : (sig N : Int) < (S : Int) := by omega
        have HSG := Lib.hid fun (w : World) => prSum_any N w h2
        generalize sig N = sm at *
        go_enter Try.func32, Try.ntmps32
        go_wp2
        go_quiet (fail)
        go_wp2
        go_quiet (fail)
        go_wp2_with fail
        refine (HSG.out _).mono ?_; rintro e w3 ⟨rfl, hb3⟩; have hz3 := hb3.size; (try simp only [World.size_alloc, World.heap_drewN] at hz3)
        go_wp2
        go_ret2
        rw [E.out]
        exact ⟨none, 0, rfl, Reads.nil, by (repeat' (first | (with_reducible exact Below.refl _ _) | (with_reducible assumption) | (with_reducible refine Below.drew ?_) | (with_reducible refine belowDrewN ?_ _) | (with_reducible refine Below.alloc ?_ ?_ _) | (with_reducible refine Below.setCell ?_ ?_ _) | (with_reducible refine belowStep (by assumption) ?_ ?_) | (with_reducible exact Below.size (by assumption)) | go_size))⟩
      · have hsig' : ¬ (sig N : Int) < (S : Int) := by omega
        have HSG := Lib.hid fun (w : World) => prSum_any N w h2
        have HW : Hid (∀ w A c, Reads w A (ints (asc N N)) → (ints (asc N N)).length ≤ c → Calls Try.prog 57 #[.slice A (ints (asc N N)).length c, .int .i64 (S : Int)] w (RetLB (ints (pick (dsc N N) S)) (decide (0 < ways (dsc N N) S)) w)) := Lib.hid fun w A c h hc => by
          have := prFor_any (asc N N) S w A c h (asc_small h2) (by have := asc_len N N; omega) (by rw [← ints_len]; exact hc) hS100
          rwa [show (asc N N).reverse = dsc N N from by unfold asc; exact List.reverse_reverse _, ← ints_len] at this
        have hSB : askB (S : Int) = true := (askB_iff _).2 ⟨by omega, by omega⟩
        have EV := Lib.hid fun (h : 0 < ways (dsc N N) S) => ovO_some (n := (a : Int)) (d := (D : Int)) HG.out HNB.out HQ3.out (by rw [HDF.out]; exact dfO_yes HNB.out hSB h)
        have EB := Lib.hid fun (h : ¬ 0 < ways (dsc N N) S) => ovO_none (n := (a : Int)) (d := (D : Int)) (N := (N : Int)) (by rw [HDF.out]; exact dfO_no h)
        have hlen := pick_len (dsc N N) S
        have hln2 := dsc_len N N
        have HM := Lib.hid (fun d (h : d ∈ pick (dsc N N) S) => pick_mem d h)
        generalize sig N = sm at *
        clear hSB
        by_cases hw : 0 < ways (dsc N N) S
        · have E := Lib.hid (EV.out hw)
          rw [decide_eq_true hw] at HW
          clear EV EB hw
          have hl1 : (pick (dsc N N) S).length ≤ 2000 := by omega
          clear hlen hln2
          generalize pick (dsc N N) S = l at *
          go_enter Try.func32, Try.ntmps32
          go_wp2
          go_quiet (fail)
          go_wp2
          go_quiet (fail)
          go_wp2_with fail
          refine (HSG.out _).mono ?_; rintro e w3 ⟨rfl, hb3⟩; have hz3 := hb3.size; (try simp only [World.size_alloc, World.heap_drewN] at hz3)
          go_wp2_with fail
          refine (prDivisors_any N _ h2).mono ?_; rintro e w4 ⟨v4, rfl, ho4, hb4⟩; obtain ⟨A4, c4, rfl, hr4⟩ := ho4.form
          have hz4 := hb4.size
          have hcp := ho4.cap_
          go_wp2_with fail
          refine (HW.out _ _ _ hr4 hcp).mono ?_; rintro e w5 ⟨v5, rfl, ho5, hb5⟩; obtain ⟨A5, c5, rfl, hr5⟩ := ho5.form
          have hz5 := hb5.size
          have R5 := Lib.hid hr5
          have hbw : Below w.heap.size w w5 := by (repeat' (first | (with_reducible exact Below.refl _ _) | (with_reducible assumption) | (with_reducible refine Below.drew ?_) | (with_reducible refine belowDrewN ?_ _) | (with_reducible refine Below.alloc ?_ ?_ _) | (with_reducible refine Below.setCell ?_ ?_ _) | (with_reducible refine belowStep (by assumption) ?_ ?_) | (with_reducible exact Below.size (by assumption)) | go_size))
          have hle := ints_len l
          have hle1 : (ints l).length ≤ l.length := by omega
          have hle2 : l.length ≤ (ints l).length := by omega
          clear ho4 hr4 ho5 hr5 hle hcp
          go_wp2
          go_loopw [9, 49] (fun v9 v49 wr => ∃ k : Nat, k ≤ l.length ∧ v49 = .int .i64 (k : Int) ∧ OwnI wr w5.heap.size v9 (ovT N (l.take k)) ∧ Below w5.heap.size w5 wr) (fun _ v49 _ => l.length - (intOf v49).toNat)
          case atStart => exact ⟨0, Nat.zero_le _, rfl, OwnI.empty _ _, by (repeat' (first | (with_reducible exact Below.refl _ _) | (with_reducible assumption) | (with_reducible refine Below.drew ?_) | (with_reducible refine belowDrewN ?_ _) | (with_reducible refine Below.alloc ?_ ?_ _) | (with_reducible refine Below.setCell ?_ ?_ _) | (with_reducible refine belowStep (by assumption) ?_ ?_) | (with_reducible exact Below.size (by assumption)) | go_size))⟩
          case round =>
            obtain ⟨k, hk, rfl, ho, hbr⟩ := hrel
            have hzr := hbr.size
            have Ho := Lib.hid ho
            have hol := ovT_len N (l.take k)
            rw [List.length_take] at hol
            have hol2 : (ovT N (l.take k)).length ≤ 2000 := by omega
            clear ho hol
            by_cases hlt : k < l.length
            · obtain ⟨b9, o9, x, rfl, hbb, hx, hcell⟩ := (R5.out.below hbr).at_ (show k < (ints l).length by omega)
              obtain ⟨d, rfl, hdx⟩ := ints_at hx
              obtain ⟨d1, d2⟩ := HM.out d (List.mem_of_getElem? hdx)
              have ET := Lib.hid (ovT_take (N := N) hdx)
              have hki : (k : Int) < ((ints l).length : Int) := by omega
              obtain ⟨_, _, f3, f4⟩ := @remv2 N d
              have hdn : (d : Int) ≠ 0 := by omega
              have hq : N / d ≤ N := Nat.div_le_self N d
              clear hx hdx
              generalize ovT N (l.take k) = ts at *
              generalize N / d = q at *
              go_wp2_with (at_builtin; refine wpList_app _ (o := ⟨some 58, _, _, _, _, _⟩) (ys := [(q : Int)]) rfl _ _ rfl rfl (OwnI.below Ho.out ((Below.refl _ _).alloc (Nat.le_refl _) _)) (1) (1) (by first | (simp; done) | (simp; omega)) rfl (Reads.one _ (q : Int)) (by (try simp only [List.length_nil, List.length_cons]); omega) (by first | exact Nat.le_refl _ | ((try simp only [World.size_alloc]); omega)) ?_; intro v6 w6 ho6 hb6 hg6 ht6; clear hg6 ht6; have hz6 := hb6.size; (try simp only [World.size_alloc] at hz6))
              go_roundw
              case rel => exact ⟨k + 1, by omega, by go_num, by rw [ET.out]; exact ho6, by (repeat' (first | (with_reducible exact Below.refl _ _) | (with_reducible assumption) | (with_reducible refine Below.drew ?_) | (with_reducible refine belowDrewN ?_ _) | (with_reducible refine Below.alloc ?_ ?_ _) | (with_reducible refine Below.setCell ?_ ?_ _) | (with_reducible refine belowStep (by assumption) ?_ ?_) | (with_reducible exact Below.size (by assumption)) | go_size))⟩
              case measure => simp [intOf]; omega
            · obtain rfl : k = l.length := by omega
              have hki : ¬ ((l.length : Nat) : Int) < ((ints l).length : Int) := by omega
              have ho := Ho.out
              rw [List.take_length] at ho
              obtain ⟨A7, c7, rfl, hr7⟩ := ho.form
              have R7 := Lib.hid hr7
              have ht1 := ovT_len N l
              have ht2 : (ovT N l).length ≤ 1048576 := by omega
              clear ho hr7 Ho hol2 ht1
              cases he : expB (ovT N l) with
              | true =>
                have E2 := E.out
                rw [if_pos he] at E2
                have E3 := Lib.hid E2
                have HU := Lib.hid fun (w : World) (h : Reads w A7 (ovT N l)) => unList_yes w A7 c7 (ovT N l) h ht2 he
                clear E E2 he
                generalize ovT N l = ts at *
                go_wp2_with fail
                refine (HU.out _ R7.out).mono ?_; rintro e w8 ⟨rfl, hb8⟩; have hz8 := hb8.size; (try simp only [World.size_alloc, World.size_setCell, World.size_drew, World.heap_drewN] at hz8)
                go_wp2
                go_ret2
                rw [E3.out]
                exact ⟨A7, c7, rfl, R7.out.below hb8, by (repeat' (first | (with_reducible exact Below.refl _ _) | (with_reducible assumption) | (with_reducible refine Below.drew ?_) | (with_reducible refine belowDrewN ?_ _) | (with_reducible refine Below.alloc ?_ ?_ _) | (with_reducible refine Below.setCell ?_ ?_ _) | (with_reducible refine belowStep (by assumption) ?_ ?_) | (with_reducible exact Below.size (by assumption)) | go_size))⟩
              | false =>
                have E2 := E.out
                rw [if_neg (by rw [he]; decide)] at E2
                have E3 := Lib.hid E2
                have HU := Lib.hid fun (w : World) (h : Reads w A7 (ovT N l)) => unList_no w A7 c7 (ovT N l) h ht2 he
                clear E E2 he
                generalize ovT N l = ts at *
                go_wp2_with fail
                refine (HU.out _ R7.out).mono ?_; rintro e w8 ⟨rfl, hb8⟩; have hz8 := hb8.size; (try simp only [World.size_alloc, World.size_setCell, World.size_drew, World.heap_drewN] at hz8)
                go_wp2
                go_ret2
                rw [E3.out]
                exact ⟨none, 0, rfl, Reads.nil, by (repeat' (first | (with_reducible exact Below.refl _ _) | (with_reducible assumption) | (with_reducible refine Below.drew ?_) | (with_reducible refine belowDrewN ?_ _) | (with_reducible refine Below.alloc ?_ ?_ _) | (with_reducible refine Below.setCell ?_ ?_ _) | (with_reducible refine belowStep (by assumption) ?_ ?_) | (with_reducible exact Below.size (by assumption)) | go_size))⟩
        · have E := Lib.hid (EB.out hw)
          rw [decide_eq_false hw] at HW
          clear EV EB hw
          go_enter Try.func32, Try.ntmps32
          go_wp2
          go_quiet (fail)
          go_wp2
          go_quiet (fail)
          go_wp2_with fail
          refine (HSG.out _).mono ?_; rintro e w3 ⟨rfl, hb3⟩; have hz3 := hb3.size; (try simp only [World.size_alloc, World.heap_drewN] at hz3)
          go_wp2_with fail
          refine (prDivisors_any N _ h2).mono ?_; rintro e w4 ⟨v4, rfl, ho4, hb4⟩; obtain ⟨A4, c4, rfl, hr4⟩ := ho4.form
          have hz4 := hb4.size
          have hcp := ho4.cap_
          go_wp2_with fail
          refine (HW.out _ _ _ hr4 hcp).mono ?_; rintro e w5 ⟨v5, rfl, ho5, hb5⟩
          have hz5 := hb5.size
          go_wp2
          go_ret2
          rw [E.out]
          exact ⟨none, 0, rfl, Reads.nil, by (repeat' (first | (with_reducible exact Below.refl _ _) | (with_reducible assumption) | (with_reducible refine Below.drew ?_) | (with_reducible refine belowDrewN ?_ _) | (with_reducible refine Below.alloc ?_ ?_ _) | (with_reducible refine Below.setCell ?_ ?_ _) | (with_reducible refine belowStep (by assumption) ?_ ?_) | (with_reducible exact Below.size (by assumption)) | go_size))⟩
    · have hS100 : ¬ S ≤ 100000 := fun h => hax (hXle.2 h)
      have hax' : (X : Int) < (a : Int) := by omega
      have hbx : decide ((X : Int) < (a : Int)) = true := decide_eq_true hax'
      have E : Hid (ovO (a : Int) (D : Int) (N : Int) = none) := Lib.hid (ovO_none (by rw [HDF.out]; exact dfO_s (by unfold askB; rw [decide_eq_false (show ¬ (S : Int) ≤ 100000 by omega), Bool.and_false])))
      go_enter Try.func32, Try.ntmps32
      go_wp2
      go_quiet (fail)
      go_wp2
      go_ret2
      rw [E.out]
      exact ⟨none, 0, rfl, Reads.nil, by (repeat' (first | (with_reducible exact Below.refl _ _) | (with_reducible assumption) | (with_reducible refine Below.drew ?_) | (with_reducible refine belowDrewN ?_ _) | (with_reducible refine Below.alloc ?_ ?_ _) | (with_reducible refine Below.setCell ?_ ?_ _) | (with_reducible refine belowStep (by assumption) ?_ ?_) | (with_reducible exact Below.size (by assumption)) | go_size))⟩
  · have E : Hid (ovO (a : Int) (D : Int) (N : Int) = none) := Lib.hid (ovO_rem (by rw [e2]; omega))
    have hr1 : N % D ≤ N := Nat.mod_le N D
    generalize N % D = r at *
    have hb1 : ((r : Int) != 0) = true := by simp; omega
    have hb2 : (r : Int) ≠ 0 := by omega
    go_enter Try.func32, Try.ntmps32
    go_wp2
    go_quiet (fail)
    go_wp2
    go_ret2
    rw [E.out]
    exact ⟨none, 0, rfl, Reads.nil, by (repeat' (first | (with_reducible exact Below.refl _ _) | (with_reducible assumption) | (with_reducible refine Below.drew ?_) | (with_reducible refine belowDrewN ?_ _) | (with_reducible refine Below.alloc ?_ ?_ _) | (with_reducible refine Below.setCell ?_ ?_ _) | (with_reducible refine belowStep (by assumption) ?_ ?_) | (with_reducible exact Below.size (by assumption)) | go_size))⟩
end Go.Proofs.Ytbjblkfibinenad
