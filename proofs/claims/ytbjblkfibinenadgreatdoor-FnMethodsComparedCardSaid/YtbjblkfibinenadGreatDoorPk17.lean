import Derived.Test.YtbjblkfibinenadGreatDoorPk14
import Derived.Test.YtbjblkfibinenadGreatDoorPk15
import Derived.Test.YtbjblkfibinenadGreatDoorPk16
import Derived.Test.YtbjblkfibinenadGreatDoorPk3
import Derived.Test.YtbjblkfibinenadGreatDoorPk4
import Derived.Test.YtbjblkfibinenadGreatDoorPk10

/-
  The contract of what every method has in common: which fractions it requires, and that its result is an expansion.
-/
namespace Go.Proofs.YtbjblkfibinenadGreatDoor
open Go.RowKit
open Go.Maps Go.WideMaps
/-- the terms in order, if they are an expansion -/
def exO (o : Option (List Int)) : Option (List Int) := o.bind fun xs => if expB (srt xs) = true then some (srt xs) else none
theorem exO_none : exO none = none := rfl
theorem exO_yes {xs : List Int} (h : expB (srt xs) = true) : exO (some xs) = some (srt xs) := by simp [exO, h]
theorem exO_no {xs : List Int} (h : expB (srt xs) = false) : exO (some xs) = none := by simp [exO, h]
/-- of a method: a new list of terms, if it finds one -/
def RetM (o : Option (List Int)) (w : World) (e : Ending) (w' : World) : Prop := ∃ v b, e = .returned (.tuple #[v, .bool b]) ∧ b = o.isSome ∧ (∀ xs, o = some xs → OwnI w' w.heap.size v xs) ∧ Below w.heap.size w w'
def pexO (n d : Int) (o : Option (List Int)) : Option (List Int) := if proB n d = true then exO o else none
set_option maxRecDepth 100000 in
set_option maxHeartbeats 4000000 in
theorem expandBy_any (s : ByteArray) (hs : s.size ≤ maxLen) (T K : Nat) (hD : ∀ zd, mD.atKey (.string s.data.toList) zd = .lit (.int .i64 (T : Int)))
    (n d : Int) (mo : Option (List Int)) (w : World) (rn : -9223372036854775808 ≤ n ∧ n ≤ 9223372036854775807) (rd : -9223372036854775808 ≤ d ∧ d ≤ 9223372036854775807)
    (hmeth : ∀ (j : Nat) (w : World), (method (j + 1) T (.agg #[]) "loop.example/g01107/impl.termsOf").run Tryz.prog w = .ok (K, .agg #[]) w) (hent : ∀ (args : Array Value) (w : World), Sem.run Tryz.prog (callFunc K args) w = .ok (.enter K args) w)
    (hK : proB n d = true → ∀ w, Calls Tryz.prog K #[.agg #[], .agg #[.int .i64 n, .int .i64 d]] w (RetM mo w)) (hne : ∀ xs, mo = some xs → xs ≠ [] ∧ xs.length ≤ 1000 ∧ In64 xs) :
    Calls Tryz.prog 25 #[.string s, .agg #[.int .i64 n, .int .i64 d]] w (RetLB ((pexO n d mo).getD []) (pexO n d mo).isSome w) := by
  have HD := Lib.hid hD
  have HK := Lib.hid hK
  have HN := Lib.hid hne
  have HM := Lib.hid hmeth
  have HE := Lib.hid hent
  clear hD hK hne hmeth hent
  have T0 := Lib.hid (TwoAt.new w n d 27)
  have hz : ∀ w : World, (zeroValue 52).run Tryz.prog w = .ok .nilIface w := fun w => by kernel_rfl
  go_enter Tryz.func25, Tryz.ntmps25
  go_wp2_with fail
  refine (methods_any _).mono ?_; rintro e w1 ⟨b, rfl, hm1, hb1⟩
  have hz1 := hb1.size
  simp only [World.size_alloc] at hz1
  have hlook := look_meth hm1 hs T HD.out (hz _)
  obtain ⟨t1, t2, t3, t4, t5⟩ := T0.out.below hb1
  clear hz
  cases h : proB n d with
  | false =>
    have E : Hid (pexO n d mo = none) := Lib.hid (by unfold pexO; rw [h]; rfl)
    go_wp2_with (go_at_call 24; refine (isProper_any _ _ _ rn rd).mono ?_; rintro e w2 ⟨rfl, hb2⟩; obtain ⟨hc2, hf2⟩ := bcellB hb2; have hz2 := hb2.size; (try simp only [World.size_alloc, World.size_setCell, World.size_drew, World.heap_drewN] at hc2 hf2 hz2); (try have hy2_r_0 : wr.heap.size < w2.heap.size := by omega); (try have hn2_r_0 : wr.heap.size ≠ w2.heap.size := by omega); (try have hm2_r_0 : w2.heap.size ≠ wr.heap.size := by omega); (try have hy2_r_1 : wr.heap.size + 1 < w2.heap.size := by omega); (try have hn2_r_1 : wr.heap.size + 1 ≠ w2.heap.size := by omega); (try have hm2_r_1 : w2.heap.size ≠ wr.heap.size + 1 := by omega); (try have hy2_r_2 : wr.heap.size + 1 + 1 < w2.heap.size := by omega); (try have hp2_r_1 : wr.heap.size < w2.heap.size + 1 := by omega); (try have hp2_r_2 : wr.heap.size < w2.heap.size + 1 + 1 := by omega); (try have hy2_0_0 : w.heap.size < w2.heap.size := by omega); (try have hn2_0_0 : w.heap.size ≠ w2.heap.size := by omega); (try have hm2_0_0 : w2.heap.size ≠ w.heap.size := by omega); (try have hy2_0_1 : w.heap.size + 1 < w2.heap.size := by omega); (try have hn2_0_1 : w.heap.size + 1 ≠ w2.heap.size := by omega); (try have hm2_0_1 : w2.heap.size ≠ w.heap.size + 1 := by omega); (try have hy2_0_2 : w.heap.size + 1 + 1 < w2.heap.size := by omega); (try have hp2_0_1 : w.heap.size < w2.heap.size + 1 := by omega); (try have hp2_0_2 : w.heap.size < w2.heap.size + 1 + 1 := by omega); (try have hy2_1_0 : w1.heap.size < w2.heap.size := by omega); (try have hn2_1_0 : w1.heap.size ≠ w2.heap.size := by omega); (try have hm2_1_0 : w2.heap.size ≠ w1.heap.size := by omega); (try have hy2_1_1 : w1.heap.size + 1 < w2.heap.size := by omega); (try have hn2_1_1 : w1.heap.size + 1 ≠ w2.heap.size := by omega); (try have hm2_1_1 : w2.heap.size ≠ w1.heap.size + 1 := by omega); (try have hy2_1_2 : w1.heap.size + 1 + 1 < w2.heap.size := by omega); (try have hp2_1_1 : w1.heap.size < w2.heap.size + 1 := by omega); (try have hp2_1_2 : w1.heap.size < w2.heap.size + 1 + 1 := by omega); (try have hg2_g1 : g1 < w2.heap.size := by omega); (try have hi2_g1 : g1 ≠ w2.heap.size := by omega); (try have hj2_g1 : w2.heap.size ≠ g1 := by omega); (try have hk2_g1 : g1 < w2.heap.size + 1 := by omega); (try have hg2_g2 : g2 < w2.heap.size := by omega); (try have hi2_g2 : g2 ≠ w2.heap.size := by omega); (try have hj2_g2 : w2.heap.size ≠ g2 := by omega); (try have hk2_g2 : g2 < w2.heap.size + 1 := by omega))
    go_ret2
    rw [E.out]
    exact ⟨_, rfl, OwnI.empty _ _, by (repeat' (first | (with_reducible exact Below.refl _ _) | (with_reducible assumption) | (with_reducible refine Below.drew ?_) | (with_reducible refine belowDrewN ?_ _) | (with_reducible refine Below.alloc ?_ ?_ _) | (with_reducible refine Below.setCell ?_ ?_ _) | (with_reducible refine belowStep (by assumption) ?_ ?_) | (with_reducible exact Below.size (by assumption)) | go_size))⟩
  | true =>
    have E : Hid (pexO n d mo = exO mo) := Lib.hid (by unfold pexO; rw [h]; rfl)
    have HKT := Lib.hid (HK.out h)
    go_wp2_with (go_at_call 24; refine (isProper_any _ _ _ rn rd).mono ?_; rintro e w2 ⟨rfl, hb2⟩; obtain ⟨hc2, hf2⟩ := bcellB hb2; have hz2 := hb2.size; (try simp only [World.size_alloc, World.size_setCell, World.size_drew, World.heap_drewN] at hc2 hf2 hz2); (try have hy2_r_0 : wr.heap.size < w2.heap.size := by omega); (try have hn2_r_0 : wr.heap.size ≠ w2.heap.size := by omega); (try have hm2_r_0 : w2.heap.size ≠ wr.heap.size := by omega); (try have hy2_r_1 : wr.heap.size + 1 < w2.heap.size := by omega); (try have hn2_r_1 : wr.heap.size + 1 ≠ w2.heap.size := by omega); (try have hm2_r_1 : w2.heap.size ≠ wr.heap.size + 1 := by omega); (try have hy2_r_2 : wr.heap.size + 1 + 1 < w2.heap.size := by omega); (try have hp2_r_1 : wr.heap.size < w2.heap.size + 1 := by omega); (try have hp2_r_2 : wr.heap.size < w2.heap.size + 1 + 1 := by omega); (try have hy2_0_0 : w.heap.size < w2.heap.size := by omega); (try have hn2_0_0 : w.heap.size ≠ w2.heap.size := by omega); (try have hm2_0_0 : w2.heap.size ≠ w.heap.size := by omega); (try have hy2_0_1 : w.heap.size + 1 < w2.heap.size := by omega); (try have hn2_0_1 : w.heap.size + 1 ≠ w2.heap.size := by omega); (try have hm2_0_1 : w2.heap.size ≠ w.heap.size + 1 := by omega); (try have hy2_0_2 : w.heap.size + 1 + 1 < w2.heap.size := by omega); (try have hp2_0_1 : w.heap.size < w2.heap.size + 1 := by omega); (try have hp2_0_2 : w.heap.size < w2.heap.size + 1 + 1 := by omega); (try have hy2_1_0 : w1.heap.size < w2.heap.size := by omega); (try have hn2_1_0 : w1.heap.size ≠ w2.heap.size := by omega); (try have hm2_1_0 : w2.heap.size ≠ w1.heap.size := by omega); (try have hy2_1_1 : w1.heap.size + 1 < w2.heap.size := by omega); (try have hn2_1_1 : w1.heap.size + 1 ≠ w2.heap.size := by omega); (try have hm2_1_1 : w2.heap.size ≠ w1.heap.size + 1 := by omega); (try have hy2_1_2 : w1.heap.size + 1 + 1 < w2.heap.size := by omega); (try have hp2_1_1 : w1.heap.size < w2.heap.size + 1 := by omega); (try have hp2_1_2 : w1.heap.size < w2.heap.size + 1 + 1 := by omega); (try have hg2_g1 : g1 < w2.heap.size := by omega); (try have hi2_g1 : g1 ≠ w2.heap.size := by omega); (try have hj2_g1 : w2.heap.size ≠ g1 := by omega); (try have hk2_g1 : g1 < w2.heap.size + 1 := by omega); (try have hg2_g2 : g2 < w2.heap.size := by omega); (try have hi2_g2 : g2 ≠ w2.heap.size := by omega); (try have hj2_g2 : w2.heap.size ≠ g2 := by omega); (try have hk2_g2 : g2 < w2.heap.size + 1 := by omega))
    rw [HM.out, Result.andThen_ok, HE.out, Oper.upon_enter]
    refine (HKT.out _).mono ?_; rintro e w3 ⟨v3, b3, rfl, hb, ho3, hb3⟩
    have hz3 := hb3.size
    cases hmo : mo with
    | none =>
      rw [hmo] at hb
      subst hb
      have E2 : Hid (pexO n d mo = none) := Lib.hid (by rw [E.out, hmo]; rfl)
      go_wp2
      go_ret2
      rw [E2.out]
      exact ⟨_, rfl, OwnI.empty _ _, by (repeat' (first | (with_reducible exact Below.refl _ _) | (with_reducible assumption) | (with_reducible refine Below.drew ?_) | (with_reducible refine belowDrewN ?_ _) | (with_reducible refine Below.alloc ?_ ?_ _) | (with_reducible refine Below.setCell ?_ ?_ _) | (with_reducible refine belowStep (by assumption) ?_ ?_) | (with_reducible exact Below.size (by assumption)) | go_size))⟩
    | some xs =>
      rw [hmo] at hb
      subst hb
      obtain ⟨n0, nl, n64⟩ := HN.out xs hmo
      have Ho3 := Lib.hid (ho3 xs hmo)
      have E2 : Hid (pexO n d mo = exO (some xs)) := Lib.hid (by rw [← hmo]; exact E.out)
      clear ho3
      go_wp2_with fail
      refine (sort_own _ w2.heap.size v3 xs Ho3.out n0 (by omega)).mono ?_; rintro e w4 ⟨rfl, ho4, hg4⟩
      have hb4 : Below w2.heap.size w3 w4 := belowOf hg4 hb3.size (fun k hk => (Ho3.out.block k hk).1)
      have hz4 := hg4.size
      obtain ⟨A4, c4, rfl, hr4⟩ := ho4.form
      have hl4 : (srt xs).length ≤ 1000 := by rw [srt_len]; omega
      have H64 := Lib.hid (srt_64 n64)
      have Ho4 := Lib.hid ho4
      have Hr4 := Lib.hid hr4
      clear ho4 hr4 n64
      cases hx : expB (srt xs) with
      | true =>
        have E3 := Lib.hid (exO_yes hx)
        go_wp2_with fail
        refine (ifExp_yes _ A4 c4 (srt xs) Hr4.out (by omega) H64.out hx).mono ?_; rintro e w5 ⟨rfl, hb5⟩
        have hz5 := hb5.size
        go_wp2
        go_ret2
        rw [E2.out, E3.out]
        exact ⟨_, rfl, (Ho4.out.below hb5).mono (by (first | (go_size; done) | ((try simp only [World.size_alloc, World.size_setCell, World.size_drew, World.heap_drewN]); omega))), by (repeat' (first | (with_reducible exact Below.refl _ _) | (with_reducible assumption) | (with_reducible refine Below.drew ?_) | (with_reducible refine belowDrewN ?_ _) | (with_reducible refine Below.alloc ?_ ?_ _) | (with_reducible refine Below.setCell ?_ ?_ _) | (with_reducible refine belowStep (by assumption) ?_ ?_) | (with_reducible exact Below.size (by assumption)) | go_size))⟩
      | false =>
        have E3 := Lib.hid (exO_no hx)
        go_wp2_with fail
        refine (ifExp_no _ A4 c4 (srt xs) Hr4.out (by omega) H64.out hx).mono ?_; rintro e w5 ⟨rfl, hb5⟩
        have hz5 := hb5.size
        go_wp2
        go_ret2
        rw [E2.out, E3.out]
        exact ⟨_, rfl, OwnI.empty _ _, by (repeat' (first | (with_reducible exact Below.refl _ _) | (with_reducible assumption) | (with_reducible refine Below.drew ?_) | (with_reducible refine belowDrewN ?_ _) | (with_reducible refine Below.alloc ?_ ?_ _) | (with_reducible refine Below.setCell ?_ ?_ _) | (with_reducible refine belowStep (by assumption) ?_ ?_) | (with_reducible exact Below.size (by assumption)) | go_size))⟩
end Go.Proofs.YtbjblkfibinenadGreatDoor


/-
  Contracts of the inverse, in the program and in the model.
-/
namespace Go.Proofs.YtbjblkfibinenadGreatDoor
open Go.RowKit
set_option maxHeartbeats 2000000 in
theorem inverse_any (p q : Int) (w : World) (rp : -9223372036854775808 ≤ p ∧ p ≤ 9223372036854775807) (rq : -9223372036854775808 ≤ q ∧ q ≤ 9223372036854775807) : Calls Tryz.prog 131 #[.int .i64 p, .int .i64 q] w (RetQ (.tuple #[.int .i64 (invR p q), .bool (invB p q)]) w) := by
  by_cases h : 1 ≤ p ∧ p ≤ 1000000000 ∧ 2 ≤ q ∧ q ≤ 1000000000
  · obtain ⟨p1, p2, q1, q2⟩ := h
    go_enter Tryz.func131, Tryz.ntmps131
    go_wp2
    go_loopw [6, 7, 8, 9] (fun v1 v2 v3 v4 wr => ∃ m l x y : Int, v1 = .int .i64 m ∧ v2 = .int .i64 l ∧ v3 = .int .i64 x ∧ v4 = .int .i64 y ∧ Euc p q m l x y ∧ ∃ n, wr = w.drewN n) (fun _ v2 _ _ _ => (intOf v2).toNat)
    case atStart => exact ⟨q, p, 0, 1, rfl, rfl, rfl, rfl, Euc.start p1 p2 q1 q2, 0, rfl⟩
    case round =>
      obtain ⟨m, l, x, y, rfl, rfl, rfl, rfl, he, k, rfl⟩ := hrel
      have He := Lib.hid he
      have m1 := he.m1
      have m2 := he.m2
      have l0 := he.l0
      have l2 := he.l2
      clear he
      by_cases hl : 0 < l
      · obtain ⟨k0, k1, k2, k3, k4, k5, k6, k7, k8, k9, k10, k11⟩ := He.out.sizes q2 (by omega)
        have Hs := Lib.hid (He.out.step (by omega))
        have hlt : m - m / l * l < l := by
          have := Int.mul_ediv_add_emod m l
          have h2 : m / l * l = l * (m / l) := Int.mul_comm _ _
          have := Int.emod_lt_of_pos m (by omega : 0 < l)
          omega
        have hne : l ≠ 0 := by omega
        go_wp2
        all_goals (try go_region)
        all_goals (try go_wp2)
        all_goals (try go_region)
        all_goals (try go_wp2)
        all_goals (try go_region)
        all_goals (try go_wp2)
        all_goals
          go_roundw
          case rel => exact ⟨_, _, _, _, rfl, rfl, rfl, rfl, Hs.out, _, rfl⟩
          case measure => simp [intOf]; omega
      · obtain rfl : l = 0 := by omega
        have hm := He.out.last
        by_cases h1 : m = 1
        · subst h1
          have hi := He.out.inv q1
          have hb : invB p q = true := (invB_iff p q).2 ⟨p1, p2, q1, q2, hm.symm⟩
          have E : Hid (invR p q = x % q ∧ invB p q = true) := Lib.hid ⟨by rw [invR, if_pos hb, invI_eq hi], hb⟩
          have t1 : -q < x.tmod q := Int.lt_tmod_of_pos x (by omega)
          have t2 : x.tmod q < q := Int.tmod_lt_of_pos x (by omega)
          have hne : q ≠ 0 := by omega
          clear hi hb hm
          go_wp2
          all_goals (try go_region)
          all_goals (try go_wp2)
          all_goals go_ret2
          all_goals exact ⟨ret_ib (by rw [E.out.1]; first | exact wrap_mod2 (by omega) | exact wrap_mod (by omega)) E.out.2.symm, _, rfl⟩
        · have hb : invB p q = false := invB_not (fun h => h1 (by rw [hm]; exact h.2.2.2.2))
          have E : Hid (invR p q = 0 ∧ invB p q = false) := Lib.hid ⟨by rw [invR, hb]; rfl, hb⟩
          have h1' : (m != 1) = true := by simp [h1]
          clear hb
          go_wp2
          go_ret2
          exact ⟨ret_ib E.out.1.symm E.out.2.symm, _, rfl⟩
  · have hb : invB p q = false := invB_not (fun hh => h ⟨hh.1, hh.2.1, hh.2.2.1, hh.2.2.2.1⟩)
    have E : Hid (invR p q = 0 ∧ invB p q = false) := Lib.hid ⟨by rw [invR, hb]; rfl, hb⟩
    clear hb
    by_cases h1 : p < 1
    · go_enter Tryz.func131, Tryz.ntmps131
      go_wp2
      go_ret2
      exact ⟨ret_ib E.out.1.symm E.out.2.symm, 0, rfl⟩
    · by_cases h2 : 1000000000 < p
      · go_enter Tryz.func131, Tryz.ntmps131
        go_wp2
        go_ret2
        exact ⟨ret_ib E.out.1.symm E.out.2.symm, 0, rfl⟩
      · by_cases h3 : q < 2
        · go_enter Tryz.func131, Tryz.ntmps131
          go_wp2
          go_ret2
          exact ⟨ret_ib E.out.1.symm E.out.2.symm, 0, rfl⟩
        · have h4 : 1000000000 < q := by omega
          go_enter Tryz.func131, Tryz.ntmps131
          go_wp2
          go_ret2
          exact ⟨ret_ib E.out.1.symm E.out.2.symm, 0, rfl⟩
set_option maxRecDepth 100000 in
set_option maxHeartbeats 2000000 in
theorem meInverse_any (p q : Int) (w : World) (h : 1 ≤ p ∧ p ≤ 1000000000 ∧ 2 ≤ q ∧ q ≤ 1000000000) (hg : gcdI p q = 1) : Calls Tryz.prog 99 #[.int .i64 p, .int .i64 q] w (RetQ (.int .i64 (invI p q)) w) := by
  obtain ⟨p1, p2, q1, q2⟩ := h
  have hr0 := Int.emod_nonneg p (by omega : q ≠ 0)
  have hr1 := Int.emod_lt_of_pos p (by omega : 0 < q)
  have hr : 1 ≤ p % q := by
    rcases Int.lt_or_le 0 (p % q) with h0 | h0
    · omega
    · have e : p % q = 0 := by omega
      have := gcdI_step p q (by omega) (by omega)
      rw [e, gcdI_zero q (by omega), hg] at this
      omega
  have hne0 : q ≠ 0 := by omega
  go_enter Tryz.func99, Tryz.ntmps99
  go_wp2
  all_goals (try go_region)
  all_goals (try go_wp2)
  go_loopw [5, 6, 7, 8] (fun v1 v2 v3 v4 wr => ∃ m l x y : Int, v1 = .int .i64 m ∧ v2 = .int .i64 l ∧ v3 = .int .i64 x ∧ v4 = .int .i64 y ∧ Euc p q m l x y ∧ ∃ n, wr = w.drewN n) (fun _ v2 _ _ _ => (intOf v2).toNat)
  case atStart => exact ⟨p % q, q, 1, 0, rfl, rfl, rfl, rfl, Euc.startR p1 p2 q1 q2 hr, 0, rfl⟩
  case round =>
    obtain ⟨m, l, x, y, rfl, rfl, rfl, rfl, he, k, rfl⟩ := hrel
    have He := Lib.hid he
    clear hr hr0 hr1
    have m1 := he.m1
    have m2 := he.m2
    have l0 := he.l0
    have l2 := he.l2
    clear he
    by_cases hl : 0 < l
    · obtain ⟨k0, k1, k2, k3, k4, k5, k6, k7, k8, k9, k10, k11⟩ := He.out.sizes q2 (by omega)
      have Hs := Lib.hid (He.out.step (by omega))
      have hlt : m - m / l * l < l := by
        have := Int.mul_ediv_add_emod m l
        have h2 : m / l * l = l * (m / l) := Int.mul_comm _ _
        have := Int.emod_lt_of_pos m (by omega : 0 < l)
        omega
      have hne : l ≠ 0 := by omega
      go_wp2
      all_goals (try go_region)
      all_goals (try go_wp2)
      all_goals (try go_region)
      all_goals (try go_wp2)
      all_goals (try go_region)
      all_goals (try go_wp2)
      all_goals
        go_roundw
        case rel => exact ⟨_, _, _, _, rfl, rfl, rfl, rfl, Hs.out, _, rfl⟩
        case measure => simp [intOf]; omega
    · obtain rfl : l = 0 := by omega
      have hm := He.out.last
      obtain rfl : m = 1 := by omega
      clear hm
      have hi := He.out.inv q1
      have E : Hid (invI p q = x % q) := Lib.hid (invI_eq hi)
      have t1 : -q < x.tmod q := Int.lt_tmod_of_pos x (by omega)
      have t2 : x.tmod q < q := Int.tmod_lt_of_pos x (by omega)
      clear hi
      go_wp2
      all_goals (try go_region)
      all_goals (try go_wp2)
      all_goals go_ret
      all_goals exact ⟨ret_int (by rw [E.out]; first | exact wrap_mod2 (by omega) | exact wrap_mod (by omega)), _, rfl⟩
end Go.Proofs.YtbjblkfibinenadGreatDoor


/-
  Contracts of the test of fractions that methods require, and of the step of the method by inverses.
-/
namespace Go.Proofs.YtbjblkfibinenadGreatDoor
open Go.RowKit
theorem ret_gol {t n d t' n' d' : Int} {b b' : Bool} (h1 : t = t') (h2 : n = n') (h3 : d = d') (h4 : b = b') : Ending.returned (.tuple #[.int .i64 t, .agg #[.int .i64 n, .int .i64 d], .bool b]) = .returned (.tuple #[.int .i64 t', .agg #[.int .i64 n', .int .i64 d'], .bool b']) := by rw [h1, h2, h3, h4]
set_option maxHeartbeats 2000000 in
theorem golombStep_any (n d : Int) (w : World) (rn : -9223372036854775808 ≤ n ∧ n ≤ 9223372036854775807) (rd : -9223372036854775808 ≤ d ∧ d ≤ 9223372036854775807) : Calls Tryz.prog 130 #[.agg #[.int .i64 n, .int .i64 d]] w (Ret (.tuple #[.int .i64 (goT n d), .agg #[.int .i64 (goN n d), .int .i64 (goD n d)], .bool (proB n d)]) w) := by
  cases h : proB n d with
  | false =>
    have E := Lib.hid (goR_no h)
    go_enter Tryz.func130, Tryz.ntmps130
    go_wp2_with fail
    refine (isProper_any _ _ _ rn rd).mono ?_; rintro e w1 ⟨rfl, hb1⟩; obtain ⟨hc1, hf1⟩ := bcellB hb1; have hz1 := hb1.size; (try simp only [World.size_alloc] at hc1 hf1 hz1); (try have hy1_r_0 : wr.heap.size < w1.heap.size := by omega); (try have hn1_r_0 : wr.heap.size ≠ w1.heap.size := by omega); (try have hm1_r_0 : w1.heap.size ≠ wr.heap.size := by omega); (try have hy1_r_1 : wr.heap.size + 1 < w1.heap.size := by omega); (try have hn1_r_1 : wr.heap.size + 1 ≠ w1.heap.size := by omega); (try have hm1_r_1 : w1.heap.size ≠ wr.heap.size + 1 := by omega); (try have hy1_r_2 : wr.heap.size + 1 + 1 < w1.heap.size := by omega); (try have hp1_r_1 : wr.heap.size < w1.heap.size + 1 := by omega); (try have hp1_r_2 : wr.heap.size < w1.heap.size + 1 + 1 := by omega); (try have hy1_0_0 : w.heap.size < w1.heap.size := by omega); (try have hn1_0_0 : w.heap.size ≠ w1.heap.size := by omega); (try have hm1_0_0 : w1.heap.size ≠ w.heap.size := by omega); (try have hy1_0_1 : w.heap.size + 1 < w1.heap.size := by omega); (try have hn1_0_1 : w.heap.size + 1 ≠ w1.heap.size := by omega); (try have hm1_0_1 : w1.heap.size ≠ w.heap.size + 1 := by omega); (try have hy1_0_2 : w.heap.size + 1 + 1 < w1.heap.size := by omega); (try have hp1_0_1 : w.heap.size < w1.heap.size + 1 := by omega); (try have hp1_0_2 : w.heap.size < w1.heap.size + 1 + 1 := by omega); (try have hg1_g1 : g1 < w1.heap.size := by omega); (try have hi1_g1 : g1 ≠ w1.heap.size := by omega); (try have hj1_g1 : w1.heap.size ≠ g1 := by omega); (try have hk1_g1 : g1 < w1.heap.size + 1 := by omega); (try have hg1_g2 : g2 < w1.heap.size := by omega); (try have hi1_g2 : g2 ≠ w1.heap.size := by omega); (try have hj1_g2 : w1.heap.size ≠ g2 := by omega); (try have hk1_g2 : g2 < w1.heap.size + 1 := by omega)
    rw [h]
    go_wp2
    refine bodyPost_ret (by simp [results, Tryz.results130, go_sem, *]; try rfl) rfl ?_
    exact ⟨ret_gol E.out.1.symm E.out.2.1.symm E.out.2.2.symm rfl, by (repeat' (first | (with_reducible exact Below.refl _ _) | (with_reducible assumption) | (with_reducible refine Below.drew ?_) | (with_reducible refine belowDrewN ?_ _) | (with_reducible refine Below.alloc ?_ ?_ _) | (with_reducible refine Below.setCell ?_ ?_ _) | (with_reducible refine belowStep (by assumption) ?_ ?_) | (with_reducible exact Below.size (by assumption)) | go_size))⟩
  | true =>
    obtain ⟨n1, n2, d1, d2, hnd, hg, hgc, hi⟩ := proB_bounds h
    have G := gol h
    have s1 := G.s1
    have sd := G.sd
    have E : Hid (goT n d = d * invI n d ∧ goN n d = (n * invI n d - 1) / d ∧ goD n d = invI n d) := Lib.hid (goR h)
    have HI : Hid (∀ w : World, Calls Tryz.prog 131 #[.int .i64 n, .int .i64 d] w (RetQ (.tuple #[.int .i64 (invI n d), .bool true]) w)) := Lib.hid fun w => by
      have := inverse_any n d w rn rd
      rw [invR, if_pos hi, hi] at this
      exact this
    have p1 := mul_bounds (a := n) (b := invI n d) (by omega) n2 (by omega) (by omega)
    have p2 := mul_bounds (a := d) (b := invI n d) (by omega) d2 (by omega) (by omega)
    have p3 := mul_pos1 n1 s1
    have q0 : 0 ≤ (n * invI n d - 1) / d := G.r0
    have q1 : (n * invI n d - 1) / d < n := G.rn
    have hne : d ≠ 0 := by omega
    clear G hi hgc
    generalize invI n d = s at *
    go_enter Tryz.func130, Tryz.ntmps130
    go_wp2_with fail
    refine (isProper_any _ _ _ rn rd).mono ?_; rintro e w1 ⟨rfl, hb1⟩; obtain ⟨hc1, hf1⟩ := bcellB hb1; have hz1 := hb1.size; (try simp only [World.size_alloc] at hc1 hf1 hz1); (try have hy1_r_0 : wr.heap.size < w1.heap.size := by omega); (try have hn1_r_0 : wr.heap.size ≠ w1.heap.size := by omega); (try have hm1_r_0 : w1.heap.size ≠ wr.heap.size := by omega); (try have hy1_r_1 : wr.heap.size + 1 < w1.heap.size := by omega); (try have hn1_r_1 : wr.heap.size + 1 ≠ w1.heap.size := by omega); (try have hm1_r_1 : w1.heap.size ≠ wr.heap.size + 1 := by omega); (try have hy1_r_2 : wr.heap.size + 1 + 1 < w1.heap.size := by omega); (try have hp1_r_1 : wr.heap.size < w1.heap.size + 1 := by omega); (try have hp1_r_2 : wr.heap.size < w1.heap.size + 1 + 1 := by omega); (try have hy1_0_0 : w.heap.size < w1.heap.size := by omega); (try have hn1_0_0 : w.heap.size ≠ w1.heap.size := by omega); (try have hm1_0_0 : w1.heap.size ≠ w.heap.size := by omega); (try have hy1_0_1 : w.heap.size + 1 < w1.heap.size := by omega); (try have hn1_0_1 : w.heap.size + 1 ≠ w1.heap.size := by omega); (try have hm1_0_1 : w1.heap.size ≠ w.heap.size + 1 := by omega); (try have hy1_0_2 : w.heap.size + 1 + 1 < w1.heap.size := by omega); (try have hp1_0_1 : w.heap.size < w1.heap.size + 1 := by omega); (try have hp1_0_2 : w.heap.size < w1.heap.size + 1 + 1 := by omega); (try have hg1_g1 : g1 < w1.heap.size := by omega); (try have hi1_g1 : g1 ≠ w1.heap.size := by omega); (try have hj1_g1 : w1.heap.size ≠ g1 := by omega); (try have hk1_g1 : g1 < w1.heap.size + 1 := by omega); (try have hg1_g2 : g2 < w1.heap.size := by omega); (try have hi1_g2 : g2 ≠ w1.heap.size := by omega); (try have hj1_g2 : w1.heap.size ≠ g2 := by omega); (try have hk1_g2 : g2 < w1.heap.size + 1 := by omega)
    rw [h]
    go_wp2_with fail
    refine ((HI.out _).mono fun _ _ h => h.ret).mono ?_; rintro e w2 ⟨rfl, hb2⟩; obtain ⟨hc2, hf2⟩ := bcellB hb2; have hz2 := hb2.size; (try simp only [World.size_alloc, World.size_setCell, World.size_drew, World.heap_drewN] at hc2 hf2 hz2); (try have hy2_r_0 : wr.heap.size < w2.heap.size := by omega); (try have hn2_r_0 : wr.heap.size ≠ w2.heap.size := by omega); (try have hm2_r_0 : w2.heap.size ≠ wr.heap.size := by omega); (try have hy2_r_1 : wr.heap.size + 1 < w2.heap.size := by omega); (try have hn2_r_1 : wr.heap.size + 1 ≠ w2.heap.size := by omega); (try have hm2_r_1 : w2.heap.size ≠ wr.heap.size + 1 := by omega); (try have hy2_r_2 : wr.heap.size + 1 + 1 < w2.heap.size := by omega); (try have hp2_r_1 : wr.heap.size < w2.heap.size + 1 := by omega); (try have hp2_r_2 : wr.heap.size < w2.heap.size + 1 + 1 := by omega); (try have hy2_0_0 : w.heap.size < w2.heap.size := by omega); (try have hn2_0_0 : w.heap.size ≠ w2.heap.size := by omega); (try have hm2_0_0 : w2.heap.size ≠ w.heap.size := by omega); (try have hy2_0_1 : w.heap.size + 1 < w2.heap.size := by omega); (try have hn2_0_1 : w.heap.size + 1 ≠ w2.heap.size := by omega); (try have hm2_0_1 : w2.heap.size ≠ w.heap.size + 1 := by omega); (try have hy2_0_2 : w.heap.size + 1 + 1 < w2.heap.size := by omega); (try have hp2_0_1 : w.heap.size < w2.heap.size + 1 := by omega); (try have hp2_0_2 : w.heap.size < w2.heap.size + 1 + 1 := by omega); (try have hy2_1_0 : w1.heap.size < w2.heap.size := by omega); (try have hn2_1_0 : w1.heap.size ≠ w2.heap.size := by omega); (try have hm2_1_0 : w2.heap.size ≠ w1.heap.size := by omega); (try have hy2_1_1 : w1.heap.size + 1 < w2.heap.size := by omega); (try have hn2_1_1 : w1.heap.size + 1 ≠ w2.heap.size := by omega); (try have hm2_1_1 : w2.heap.size ≠ w1.heap.size + 1 := by omega); (try have hy2_1_2 : w1.heap.size + 1 + 1 < w2.heap.size := by omega); (try have hp2_1_1 : w1.heap.size < w2.heap.size + 1 := by omega); (try have hp2_1_2 : w1.heap.size < w2.heap.size + 1 + 1 := by omega); (try have hg2_g1 : g1 < w2.heap.size := by omega); (try have hi2_g1 : g1 ≠ w2.heap.size := by omega); (try have hj2_g1 : w2.heap.size ≠ g1 := by omega); (try have hk2_g1 : g1 < w2.heap.size + 1 := by omega); (try have hg2_g2 : g2 < w2.heap.size := by omega); (try have hi2_g2 : g2 ≠ w2.heap.size := by omega); (try have hj2_g2 : w2.heap.size ≠ g2 := by omega); (try have hk2_g2 : g2 < w2.heap.size + 1 := by omega)
    go_wp2
    trace_state
    all_goals (try go_region)
    all_goals (try go_wp2)
    all_goals refine bodyPost_ret (by simp [results, Tryz.results130, go_sem, *]; try rfl) rfl ?_
    all_goals exact ⟨ret_gol E.out.1.symm E.out.2.1.symm E.out.2.2.symm rfl, by (repeat' (first | (with_reducible exact Below.refl _ _) | (with_reducible assumption) | (with_reducible refine Below.drew ?_) | (with_reducible refine belowDrewN ?_ _) | (with_reducible refine Below.alloc ?_ ?_ _) | (with_reducible refine Below.setCell ?_ ?_ _) | (with_reducible refine belowStep (by assumption) ?_ ?_) | (with_reducible exact Below.size (by assumption)) | go_size))⟩
end Go.Proofs.YtbjblkfibinenadGreatDoor


/-
  Contracts of the model's step of the method by inverses.
-/
namespace Go.Proofs.YtbjblkfibinenadGreatDoor
open Go.RowKit
set_option maxHeartbeats 2000000 in
theorem meGolomb_any (n d : Int) (w : World) (h : proB n d = true) : Calls Tryz.prog 81 #[.agg #[.int .i64 n, .int .i64 d]] w (Ret (.tuple #[.int .i64 (goT n d), .agg #[.int .i64 (goN n d), .int .i64 (goD n d)]]) w) := by
  obtain ⟨n1, n2, d1, d2, hnd, hg, hgc, hi⟩ := proB_bounds h
  have E : Hid (goT n d = d * invI n d ∧ goN n d = (n * invI n d - 1) / d ∧ goD n d = invI n d) := Lib.hid (goR h)
  by_cases h1 : n = 1
  · subst h1
    have e := gol_one h
    have E2 : Hid (goT 1 d = d ∧ goN 1 d = 0 ∧ goD 1 d = 1) := Lib.hid (by rw [E.out.1, E.out.2.1, E.out.2.2, e]; exact ⟨by omega, by simp, rfl⟩)
    clear e E
    go_enter Tryz.func81, Tryz.ntmps81
    go_wp2
    refine bodyPost_ret (by simp [results, Tryz.results81, go_sem, *]; try rfl) rfl ?_
    all_goals (rw [E2.out.1, E2.out.2.1, E2.out.2.2]; exact ⟨rfl, by (repeat' (first | (with_reducible exact Below.refl _ _) | (with_reducible assumption) | (with_reducible refine Below.drew ?_) | (with_reducible refine belowDrewN ?_ _) | (with_reducible refine Below.alloc ?_ ?_ _) | (with_reducible refine Below.setCell ?_ ?_ _) | (with_reducible refine belowStep (by assumption) ?_ ?_) | (with_reducible exact Below.size (by assumption)) | go_size))⟩)
  · have h1' : (n == 1) = false := by simp [h1]
    have G := gol h
    have s1 := G.s1
    have sd := G.sd
    have HI := Lib.hid fun (w : World) => meInverse_any n d w ⟨n1, n2, d1, d2⟩ hgc
    have p1 := mul_bounds (a := n) (b := invI n d) (by omega) n2 (by omega) (by omega)
    have p2 := mul_bounds (a := d) (b := invI n d) (by omega) d2 (by omega) (by omega)
    have p3 := mul_pos1 n1 s1
    have q0 : 0 ≤ (n * invI n d - 1) / d := G.r0
    have q1 : (n * invI n d - 1) / d < n := G.rn
    have HM : Hid (∀ (w : World) (x : Int), x = (n * invI n d - 1) / d → Calls Tryz.prog 47 #[.int .i64 x, .int .i64 (invI n d)] w (Ret (.agg #[.int .i64 ((n * invI n d - 1) / d), .int .i64 (invI n d)]) w)) := Lib.hid fun w x hx => by
      subst hx
      have := unMake_any ((n * invI n d - 1) / d) (invI n d) w q0 s1 (by omega) (by omega)
      obtain ⟨_, _, _, e1, e2⟩ := red_good G.gd
      rw [e1, e2] at this
      exact this
    have HX : Hid (IntKind.i64.wrap ((IntKind.i64.wrap (IntKind.i64.wrap (n * invI n d) - 1)).tdiv d) = (n * invI n d - 1) / d) := Lib.hid (by
      rw [IntWalk.i64_in (n * invI n d) (by omega), IntWalk.i64_in (n * invI n d - 1) (by omega), Int.tdiv_eq_ediv_of_nonneg (by omega)]
      exact IntWalk.i64_in _ (by omega))
    have HY : Hid (IntKind.i64.wrap (d * invI n d) = d * invI n d) := Lib.hid (IntWalk.i64_in _ (by omega))
    have hne : d ≠ 0 := by omega
    clear G hi hgc h1
    generalize invI n d = s at *
    have T0 := Lib.hid ((TwoAt.new w n d 27).below ((Below.refl _ _).alloc (Nat.le_refl _) (.cells #[.int .i64 0, .int .i64 0] 27)))
    go_enter Tryz.func81, Tryz.ntmps81
    go_wp2_with fail
    refine ((HI.out _).mono fun _ _ h => h.ret).mono ?_; rintro e w1 ⟨rfl, hb1⟩; obtain ⟨hc1, hf1⟩ := bcellB hb1; have hz1 := hb1.size; (try simp only [World.size_alloc] at hc1 hf1 hz1); (try have hy1_r_0 : wr.heap.size < w1.heap.size := by omega); (try have hn1_r_0 : wr.heap.size ≠ w1.heap.size := by omega); (try have hm1_r_0 : w1.heap.size ≠ wr.heap.size := by omega); (try have hy1_r_1 : wr.heap.size + 1 < w1.heap.size := by omega); (try have hn1_r_1 : wr.heap.size + 1 ≠ w1.heap.size := by omega); (try have hm1_r_1 : w1.heap.size ≠ wr.heap.size + 1 := by omega); (try have hy1_r_2 : wr.heap.size + 1 + 1 < w1.heap.size := by omega); (try have hp1_r_1 : wr.heap.size < w1.heap.size + 1 := by omega); (try have hp1_r_2 : wr.heap.size < w1.heap.size + 1 + 1 := by omega); (try have hy1_0_0 : w.heap.size < w1.heap.size := by omega); (try have hn1_0_0 : w.heap.size ≠ w1.heap.size := by omega); (try have hm1_0_0 : w1.heap.size ≠ w.heap.size := by omega); (try have hy1_0_1 : w.heap.size + 1 < w1.heap.size := by omega); (try have hn1_0_1 : w.heap.size + 1 ≠ w1.heap.size := by omega); (try have hm1_0_1 : w1.heap.size ≠ w.heap.size + 1 := by omega); (try have hy1_0_2 : w.heap.size + 1 + 1 < w1.heap.size := by omega); (try have hp1_0_1 : w.heap.size < w1.heap.size + 1 := by omega); (try have hp1_0_2 : w.heap.size < w1.heap.size + 1 + 1 := by omega); (try have hg1_g1 : g1 < w1.heap.size := by omega); (try have hi1_g1 : g1 ≠ w1.heap.size := by omega); (try have hj1_g1 : w1.heap.size ≠ g1 := by omega); (try have hk1_g1 : g1 < w1.heap.size + 1 := by omega); (try have hg1_g2 : g2 < w1.heap.size := by omega); (try have hi1_g2 : g2 ≠ w1.heap.size := by omega); (try have hj1_g2 : w1.heap.size ≠ g2 := by omega); (try have hk1_g2 : g2 < w1.heap.size + 1 := by omega)
    obtain ⟨t1, t2, t3, t4, t5⟩ := T0.out.below hb1
    go_upto_region 4 with fail
    go_region_held3 (fun w' => w'.cell? ⟨w.heap.size, 0, none⟩ = some (.int .i64 n) ∧ w'.cell? ⟨w.heap.size, 1, none⟩ = some (.int .i64 d)) (go_keep) (first | (go_at_call 47; refine (HM.out _ _ HX.out).mono ?_; rintro e w2 ⟨rfl, hb2⟩; obtain ⟨hc2, hf2⟩ := bcellB hb2; have hz2 := hb2.size; (try simp only [World.size_drew] at hc2 hf2 hz2); (try have hy2_00 : w.heap.size < w2.heap.size := by omega); (try have hn2_00 : w.heap.size ≠ w2.heap.size := by omega); (try have hm2_00 : w2.heap.size ≠ w.heap.size := by omega); (try have hp2_00 : w.heap.size < w2.heap.size + 1 := by omega); (try have hy2_01 : w.heap.size + 1 < w2.heap.size := by omega); (try have hn2_01 : w.heap.size + 1 ≠ w2.heap.size := by omega); (try have hm2_01 : w2.heap.size ≠ w.heap.size + 1 := by omega); (try have hp2_01 : w.heap.size + 1 < w2.heap.size + 1 := by omega); (try have hy2_10 : w1.heap.size < w2.heap.size := by omega); (try have hn2_10 : w1.heap.size ≠ w2.heap.size := by omega); (try have hm2_10 : w2.heap.size ≠ w1.heap.size := by omega); (try have hp2_10 : w1.heap.size < w2.heap.size + 1 := by omega); (try have hy2_11 : w1.heap.size + 1 < w2.heap.size := by omega); (try have hn2_11 : w1.heap.size + 1 ≠ w2.heap.size := by omega); (try have hm2_11 : w2.heap.size ≠ w1.heap.size + 1 := by omega); (try have hp2_11 : w1.heap.size + 1 < w2.heap.size + 1 := by omega)))
    all_goals go_wp2_with fail
    all_goals refine bodyPost_ret (by simp [results, Tryz.results81, go_sem, *]; try rfl) rfl ?_
    all_goals (rw [E.out.1, E.out.2.1, E.out.2.2]; (try rw [HY.out]); exact ⟨rfl, by (repeat' (first | (with_reducible exact Below.refl _ _) | (with_reducible assumption) | (with_reducible refine Below.drew ?_) | (with_reducible refine belowDrewN ?_ _) | (with_reducible refine Below.alloc ?_ ?_ _) | (with_reducible refine Below.setCell ?_ ?_ _) | (with_reducible refine belowStep (by assumption) ?_ ?_) | (with_reducible exact Below.size (by assumption)) | go_size))⟩)
end Go.Proofs.YtbjblkfibinenadGreatDoor
