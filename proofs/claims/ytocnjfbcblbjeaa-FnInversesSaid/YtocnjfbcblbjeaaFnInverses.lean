
/-
  For all bytes: two numbers are drawn; an inverse is told just as the model tells, it is the only one in its range, and it is taken back. No condition.
-/
import Derived.Test.YtocnjfbcblbjeaaDraw
import Derived.Test.YtocnjfbcblbjeaaLawK
import Derived.Test.YtocnjfbcblbjeaaShell
import Derived.Test.YtocnjfbcblbjeaaInv
namespace Go.Proofs.Ytocnjfbcblbjeaa
open Go.ChangeShapes Go.WideShapes Go.ChangeAt Go.RowKit Go.Joins Go.Deep
theorem inv_mod {p q s : Int} (h : IsInv p q s) : p % q * s % q = 1 := by
  obtain ⟨h1, h2, u, hu⟩ := h
  have e : p = q * (p / q) + p % q := (Int.mul_ediv_add_emod p q).symm
  have e2 : p % q * s = q * (u - p / q * s) + 1 := by
    generalize p / q = k at *
    generalize p % q = r at *
    subst e
    grind
  rw [e2, Int.mul_add_emod_self_left]
  exact Int.emod_eq_of_lt (by omega) (by omega)
theorem inv_mod_of {p q t : Int} (h1 : 1 ≤ t) (h2 : t < q) (h : p % q * t % q = 1) : IsInv p q t := by
  refine ⟨h1, h2, ?_⟩
  have e : p = q * (p / q) + p % q := (Int.mul_ediv_add_emod p q).symm
  have e2 := Int.mul_ediv_add_emod (p % q * t) q
  rw [h] at e2
  refine ⟨p / q * t + p % q * t / q, ?_⟩
  generalize p % q * t / q = m at *
  generalize p / q = k at *
  generalize p % q = r at *
  subst e
  grind
theorem inv_back {p q s : Int} (h : IsInv p q s) : IsInv s q (p % q) := by
  have hq : 1 ≤ q := by have := h.1; have := h.2.1; omega
  have r0 := Int.emod_nonneg p (by omega : q ≠ 0)
  have r1 := Int.emod_lt_of_pos p (by omega : 0 < q)
  have hm := inv_mod h
  have r2 : 1 ≤ p % q := by
    rcases Int.lt_or_le 0 (p % q) with h0 | h0
    · omega
    · have e : p % q = 0 := by omega
      rw [e] at hm
      simp at hm
  refine ⟨r2, r1, ?_⟩
  have e2 := Int.mul_ediv_add_emod (p % q * s) q
  rw [hm] at e2
  exact ⟨p % q * s / q, by rw [Int.mul_comm s]; omega⟩
theorem inv_gcd {p q s : Int} (h : IsInv p q s) : gcdI s q = 1 := by
  have hq : 1 ≤ q := by have := h.1; have := h.2.1; omega
  have h1 := gcdI_pos s q (by omega)
  obtain ⟨a, ha⟩ := gcdI_dvdL s q
  obtain ⟨b, hb⟩ := gcdI_dvdR s q
  obtain ⟨u, hu⟩ := h.2.2
  have h2 : gcdI s q ∣ 1 := ⟨p * a - b * u, by
    generalize gcdI s q = g at *
    subst ha hb
    grind⟩
  have := Int.le_of_dvd (by omega) h2
  omega
def DrawPQ (w : World) (e : Ending) (w' : World) : Prop := ∃ p q : Int, e = .returned (.tuple #[.int .i64 p, .int .i64 q]) ∧ -1 ≤ p ∧ p ≤ 1000000001 ∧ 0 ≤ q ∧ q ≤ 1000000001 ∧ Below w.heap.size w w'
theorem Cur.begin (w : World) (A : Option Addr) (n c : Nat) (T : TypeId) (hr : ReadsB w A n) (hn : n ≤ 1048576) : Cur w (w.alloc (.cells #[.slice A n c, .int .i64 0, .int .u64 0] T)) w.heap.size 0 :=
  ⟨Nat.le_refl _, by simp, (Below.refl _ _).alloc (Nat.le_refl _) _, A, n, c, 0, 0, (by simp), hn, hr, (by simp), by omega, by omega, (by simp), by simp [go_sem], by simp [go_sem]⟩
def DrawBo (w0 w : World) (g n : Nat) (e : Ending) (w' : World) : Prop := ∃ b : Bool, e = .returned (.bool b) ∧ Cur w0 w' g n ∧ w.grownBy w' (some g)
theorem one_any (w0 w : World) (g n : Nat) (hn : n ≤ 1000000) (m : Int) (hm : m ≤ 1000000000) (h : Cur w0 w g n) : Calls Try.prog 53 #[.pointer (some ⟨g, 0, none⟩), .int .i64 m] w (DrawBo w0 w g (n + 2)) := by
  have HC := Lib.hid h
  clear h
  go_enter Try.func53, Try.ntmps53
  go_wp2_with fail
  refine (pick_any w0 _ _ n hn _ hm HC.out).mono ?_; rintro e w1 ⟨x, rfl, x0, x1, hc1, hg1⟩
  have HC1 := Lib.hid hc1
  have Hg1 := Lib.hid hg1
  clear hc1 hg1
  go_wp2
  go_ret
  exact ⟨_, rfl, HC1.out, Hg1.out⟩
set_option maxHeartbeats 4000000 in
theorem drawInverse_any (w : World) (A : Option Addr) (n c : Nat) (hr : ReadsB w A n) (hn : n ≤ 1048576) : Calls Try.prog 35 #[.slice A n c] w (DrawPQ w) := by
  have HC0 := Lib.hid (Cur.begin w A n c 74 hr hn)
  clear hr
  go_enter Try.func35, Try.ntmps35
  go_wp2_with fail
  refine (one_any w _ w.heap.size 0 (by omega) _ (by omega) HC0.out).mono ?_; rintro e w1 ⟨o, rfl, hc1, hg1⟩
  have HC1 := Lib.hid hc1
  have hz1 := hg1.size
  simp only [World.size_alloc] at hz1
  clear hg1 hc1
  cases o with
  | true =>
    go_wp2_with fail
    refine (among_any w _ w.heap.size 2 (by omega) (-1) 1000000001 _ 5 [-1, 0, 1, 1000000000, 1000000001] (Reads.lit w1 _ 5 rfl) (by simp) (by simp) (by simp) (fun a ha => by injection ha with ha; subst ha; show w1.heap.size ≠ w.heap.size; omega) (fun z hz => by simp only [List.mem_cons, List.not_mem_nil, or_false] at hz; omega) (HC1.out.below ((Below.refl _ _).alloc (Nat.le_refl _) _))).mono ?_; rintro e w2 ⟨y, rfl, y0, y1, hc2, hg2⟩
    have HC2 := Lib.hid hc2
    have hz2 := hg2.size
    simp only [World.size_alloc] at hz2
    clear hg2 hc2
    go_wp2_with fail
    refine (among_any w _ w.heap.size 4 (by omega) 0 1000000001 _ 6 [0, 1, 2, 999999937, 1000000000, 1000000001] (Reads.lit w2 _ 6 rfl) (by simp) (by simp) (by simp) (fun a ha => by injection ha with ha; subst ha; show w2.heap.size ≠ w.heap.size; omega) (fun z hz => by simp only [List.mem_cons, List.not_mem_nil, or_false] at hz; omega) (HC2.out.below ((Below.refl _ _).alloc (Nat.le_refl _) _))).mono ?_; rintro e w3 ⟨z, rfl, z0, z1, hc3, hg3⟩
    have Hb3 := Lib.hid hc3.base.2.2
    clear hg3 hc3
    go_wp2
    go_ret2
    exact ⟨y, z, rfl, by omega, by omega, by omega, by omega, Hb3.out⟩
  | false =>
    go_wp2_with fail
    refine (pick_any w _ w.heap.size 2 (by omega) _ (by omega) HC1.out).mono ?_; rintro e w2 ⟨y, rfl, y0, y1, hc2, hg2⟩
    have HC2 := Lib.hid hc2
    clear hg2 hc2
    go_wp2_with fail
    refine (pick_any w _ w.heap.size 4 (by omega) _ (by omega) HC2.out).mono ?_; rintro e w3 ⟨z, rfl, z0, z1, hc3, hg3⟩
    have Hb3 := Lib.hid hc3.base.2.2
    clear hg3 hc3
    go_wp2
    go_ret2
    exact ⟨_, _, rfl, by omega, by omega, by omega, by omega, Hb3.out⟩
set_option maxHeartbeats 8000000 in
theorem FnInverses_walk (w : World) (A : Option Addr) (c n : Nat) (B : Option Addr) (d m' : Nat) (hA : ReadsB w A n ∧ n ≤ 9223372036854775807) (hB : ReadsB w B m' ∧ m' ≤ 9223372036854775807) :
    Calls Try.prog 10 #[.slice A n c, .slice B m' d] w (Ret (.bool true) w) := by
  obtain ⟨hA, hn⟩ := hA
  obtain ⟨hB, hm'⟩ := hB
  have HA := Lib.hid hA
  clear hA hB
  cases hbig : bigB n m' with
  | true =>
    go_enter Try.func10, Try.ntmps10
    go_wp2_with fail
    refine (big_any _ _ _ _ _ _ _ hn hm').mono ?_; rintro e w1 ⟨rfl, k1, rfl⟩
    go_wp2
    go_ret
    exact ⟨rfl, by (repeat' (first | (with_reducible exact Below.refl _ _) | (with_reducible assumption) | (with_reducible refine Below.drew ?_) | (with_reducible refine belowDrewN ?_ _) | (with_reducible refine Below.alloc ?_ ?_ _) | (with_reducible refine Below.setCell ?_ ?_ _) | (with_reducible refine belowStep (by assumption) ?_ ?_) | (with_reducible exact Below.size (by assumption)) | go_size))⟩
  | false =>
    have hn2 : n ≤ 1048576 := by
      simp only [bigB, Bool.or_eq_false_iff, decide_eq_false_iff_not] at hbig
      omega
    go_enter Try.func10, Try.ntmps10
    go_wp2_with fail
    refine (big_any _ _ _ _ _ _ _ hn hm').mono ?_; rintro e w1 ⟨rfl, k1, rfl⟩
    go_wp2_with fail
    refine (drawInverse_any _ A n c (HA.out.below (by (repeat' (first | (with_reducible exact Below.refl _ _) | (with_reducible assumption) | (with_reducible refine Below.drew ?_) | (with_reducible refine belowDrewN ?_ _) | (with_reducible refine Below.alloc ?_ ?_ _) | (with_reducible refine Below.setCell ?_ ?_ _) | (with_reducible refine belowStep (by assumption) ?_ ?_) | (with_reducible exact Below.size (by assumption)) | go_size)))) hn2).mono ?_; rintro e w2 ⟨p, q, rfl, p0, p1, q0, q1, hb2⟩
    have hz2 := hb2.size
    (try simp only [World.heap_drewN] at hz2)
    clear hbig
    cases hi : invB p q with
    | false =>
      have E : Hid (invR p q = 0) := Lib.hid (by rw [invR, hi]; rfl)
      go_wp2_with fail
      refine (inverse_any p q _ ⟨by omega, by omega⟩ ⟨by omega, by omega⟩).mono ?_; rintro e w3 ⟨rfl, k3, rfl⟩
      rw [hi, E.out]
      go_wp2_with fail
      refine (spec_inverse_any p q _).mono ?_; rintro e w4 ⟨rfl, k4, rfl⟩
      rw [hi, E.out]
      go_wp2
      go_ret
      exact ⟨rfl, by (repeat' (first | (with_reducible exact Below.refl _ _) | (with_reducible assumption) | (with_reducible refine Below.drew ?_) | (with_reducible refine belowDrewN ?_ _) | (with_reducible refine Below.alloc ?_ ?_ _) | (with_reducible refine Below.setCell ?_ ?_ _) | (with_reducible refine belowStep (by assumption) ?_ ?_) | (with_reducible exact Below.size (by assumption)) | go_size))⟩
    | true =>
      obtain ⟨p2, p3, q2, q3, hg⟩ := (invB_iff p q).1 hi
      have I := inv_is p2 p3 q2 q3 hg
      have IB := inv_back I
      have hib : invB (invI p q) q = true := (invB_iff _ _).2 ⟨I.1, by have := I.2.1; omega, q2, q3, inv_gcd I⟩
      have E : Hid (invR p q = invI p q) := Lib.hid (if_pos hi)
      have EB : Hid (invR (invI p q) q = p % q ∧ invB (invI p q) q = true) := Lib.hid ⟨by rw [invR, if_pos hib, invI_eq IB], hib⟩
      have HU := Lib.hid fun (t : Int) (h1 : 1 ≤ t) (h2 : t < q) (h : p % q * t % q = 1) => (inv_mod_of h1 h2 h).unique I
      have s1 := I.1
      have s2 := I.2.1
      have hm := inv_mod I
      have r0 := IB.1
      have r1 := IB.2.1
      have pr := mul_bounds (a := p % q) (b := invI p q) (by omega) (by omega) (by omega) (by omega)
      have hne : q ≠ 0 := by omega
      clear I IB hib hg
      go_wp2_with fail
      refine (inverse_any p q _ ⟨by omega, by omega⟩ ⟨by omega, by omega⟩).mono ?_; rintro e w3 ⟨rfl, k3, rfl⟩
      rw [hi, E.out]
      go_wp2_with fail
      refine (spec_inverse_any p q _).mono ?_; rintro e w4 ⟨rfl, k4, rfl⟩
      rw [hi, E.out]
      go_wp2_with fail
      refine (inverse_any (invI p q) q _ ⟨by omega, by omega⟩ ⟨by omega, by omega⟩).mono ?_; rintro e w5 ⟨rfl, k5, rfl⟩
      rw [EB.out.1, EB.out.2]
      by_cases h300 : 300 < q
      · go_wp2
        go_ret
        exact ⟨rfl, by (repeat' (first | (with_reducible exact Below.refl _ _) | (with_reducible assumption) | (with_reducible refine Below.drew ?_) | (with_reducible refine belowDrewN ?_ _) | (with_reducible refine Below.alloc ?_ ?_ _) | (with_reducible refine Below.setCell ?_ ?_ _) | (with_reducible refine belowStep (by assumption) ?_ ?_) | (with_reducible exact Below.size (by assumption)) | go_size))⟩
      · go_wp2
        go_loopw [13] (fun v13 wr => ∃ t : Int, 1 ≤ t ∧ t ≤ q ∧ v13 = .int .i64 t ∧ Below w.heap.size w wr) (fun v13 _ => (q - intOf v13).toNat)
        case atStart => exact ⟨1, by omega, by omega, rfl, by (repeat' (first | (with_reducible exact Below.refl _ _) | (with_reducible assumption) | (with_reducible refine Below.drew ?_) | (with_reducible refine belowDrewN ?_ _) | (with_reducible refine Below.alloc ?_ ?_ _) | (with_reducible refine Below.setCell ?_ ?_ _) | (with_reducible refine belowStep (by assumption) ?_ ?_) | (with_reducible exact Below.size (by assumption)) | go_size))⟩
        case round =>
          obtain ⟨t, t1, t2, rfl, hbr⟩ := hrel
          by_cases hlt : t < q
          · have pt := mul_bounds (a := p % q) (b := t) (by omega) (by omega) (by omega) (by omega)
            by_cases h1 : p % q * t % q = 1
            · obtain rfl := HU.out t t1 hlt h1
              go_wp2
              go_roundw
              case rel => exact ⟨_, by omega, by omega, rfl, by (repeat' (first | (with_reducible exact Below.refl _ _) | (with_reducible assumption) | (with_reducible refine Below.drew ?_) | (with_reducible refine belowDrewN ?_ _) | (with_reducible refine Below.alloc ?_ ?_ _) | (with_reducible refine Below.setCell ?_ ?_ _) | (with_reducible refine belowStep (by assumption) ?_ ?_) | (with_reducible exact Below.size (by assumption)) | go_size))⟩
              case measure => simp [intOf]; omega
            · have h1' : (p % q * t % q == 1) = false := by simp [h1]
              go_wp2
              go_roundw
              case rel => exact ⟨_, by omega, by omega, rfl, by (repeat' (first | (with_reducible exact Below.refl _ _) | (with_reducible assumption) | (with_reducible refine Below.drew ?_) | (with_reducible refine belowDrewN ?_ _) | (with_reducible refine Below.alloc ?_ ?_ _) | (with_reducible refine Below.setCell ?_ ?_ _) | (with_reducible refine belowStep (by assumption) ?_ ?_) | (with_reducible exact Below.size (by assumption)) | go_size))⟩
              case measure => simp [intOf]; omega
          · go_wp2
            go_ret
            exact ⟨rfl, by (repeat' (first | (with_reducible exact Below.refl _ _) | (with_reducible assumption) | (with_reducible refine Below.drew ?_) | (with_reducible refine belowDrewN ?_ _) | (with_reducible refine Below.alloc ?_ ?_ _) | (with_reducible refine Below.setCell ?_ ?_ _) | (with_reducible refine belowStep (by assumption) ?_ ?_) | (with_reducible exact Below.size (by assumption)) | go_size))⟩

set_option maxRecDepth 100000 in
theorem FnInverses_lifted (os : Os) (started : os.Started) (H : Type) (enc : TypeId × Value → H) :
    ReturnsInHanded {} Try.checked os 10 .any (Rows.fnInversesSpec.pre6 enc Try.prog Try.f10 Rows.fnInversesRow.domain false) (Rows.fnInversesSpec.post enc Try.prog Try.f10 false true false false) := by
  refine returnsInHanded_of_change (C := Try.checked) own started (by kernel_rfl) Try.func10
    (ChangeSpec.witness6 (enc := enc) (C := Try.checked) false ⟨#[], #[.slice none 0 0, .slice none 0 0], []⟩ 8 (by kernel_rfl) (by kernel_rfl) (by kernel_rfl) (by kernel_rfl)) ?_
  intro W base args ds gs before hval0 hW hcnd _
  have hval : ∀ (j : Nat) t v, Try.f10.params[j]? = some t → args[j]? = some v → Value.okWide Try.prog W .any base t v := hval0
  have hW' := hW
  have hlt : ∀ p ∈ before, p.block < W.heap.size := fun p hp => hW'.lt p hp
  obtain ⟨p, q, hA0, hV, rfl, hfz, hnd⟩ := hW
  have hA : DataW.TrodAll enc Try.prog W 0 (fun _ => true) true Try.f10.params.toList args.toList ds p := hA0
  rw [Try.params10] at hA hval
  obtain ⟨v0, vs0, d0, ds0, p0, q0, hargs, rfl, rfl, h0, r0⟩ := trodAll_cons hA
  obtain ⟨v1, vs1, d1, ds1, p1, q1, rfl, rfl, rfl, h1, r1⟩ := trodAll_cons r0
  obtain ⟨rfl, rfl, rfl⟩ := trodAll_nil r1
  obtain rfl : args = #[v0, v1] := by cases args; simp_all
  obtain ⟨rfl, rfl⟩ := trodVars_none hV
  obtain ⟨Aa, ca, na, rfl, ha⟩ := open_bytes_reads Try.underlying51 Try.underlying5 (by kernel_rfl) (hval 0 51 v0 rfl rfl) h0 (fun y hy => hlt y (by simp [hy]))
  obtain ⟨Ab, cb, nb, rfl, hb⟩ := open_bytes_reads Try.underlying51 Try.underlying5 (by kernel_rfl) (hval 1 51 v1 rfl rfl) h1 (fun y hy => hlt y (by simp [hy]))
  refine (FnInverses_walk W Aa ca na Ab cb nb ha hb).mono fun e W' ⟨he, hg⟩ => ?_
  subst he
  exact ⟨_, rfl, law_post laidOut (by rw [Try.params10]; intro t ht; simp only [List.mem_cons, List.not_mem_nil, or_false] at ht; rcases ht with rfl | rfl <;> exact ⟨by kernel_rfl, of_decide_eq_true (by kernel_rfl)⟩) (by kernel_rfl) Try.underlying4 rfl hW' rfl hg⟩

theorem FnInverses_closed : joinedFacts Try.prog 10 Try.f10 Rows.fnInversesSpec Rows.fnInversesRow = true := by
  unfold joinedFacts
  rw [mayEnter_eq, lifts_eq, make_eq]
  kernel_rfl

theorem FnInverses_holds : Rows.FnInversesSaid :=
  OpenClaim.holds_of_wide 10 Try.f10 rfl rfl rfl rfl rfl rfl rfl ⟨rfl, rfl, rfl, rfl, rfl⟩ rfl rfl rfl rfl rfl (by kernel_rfl) Try.func10 FnInverses_closed
    (of_decide_eq_true (by kernel_rfl)) (by unfold Func.isWrapper; first | (rw [if_pos (by decide +kernel)]; kernel_rfl) | (rw [if_neg (by decide +kernel)]; exact ⟨rfl, rfl⟩))
    (fun os started H enc _ => FnInverses_lifted os started H enc)

end Go.Proofs.Ytocnjfbcblbjeaa
