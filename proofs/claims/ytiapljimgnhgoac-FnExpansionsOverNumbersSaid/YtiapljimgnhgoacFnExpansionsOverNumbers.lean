
/-
  For all bytes: expansions over numbers have the fraction as their sum and terms that divide the number, the least number is told, the common multiple of the terms divides it, and practical expansions have the fraction as their sum. No condition.
-/
import Derived.Test.YtiapljimgnhgoacDr7
import Derived.Test.YtiapljimgnhgoacPxC
import Derived.Test.YtiapljimgnhgoacCommon
import Derived.Test.YtiapljimgnhgoacRq
import Derived.Test.YtiapljimgnhgoacShell
import Derived.Test.YtiapljimgnhgoacUnC
namespace Go.Proofs.Ytiapljimgnhgoac
open Go.ChangeShapes Go.WideShapes Go.ChangeAt Go.RowKit Go.Joins Go.Deep
theorem ovT_sum {N : Nat} (h1 : 1 ≤ N) : ∀ {l : List Nat}, (∀ d ∈ l, 1 ≤ d ∧ d ∣ N) → sumQ (ovT N l) = rq (l.sum : Nat) (N : Int)
  | [], _ => by
    show (0 : Rat) = rq 0 N
    unfold rq
    simp only [Rat.intCast_zero]
    grind
  | d :: l, h => by
    have ih := ovT_sum h1 (l := l) (fun x hx => h x (by simp [hx]))
    obtain ⟨hd, hdN⟩ := h d (by simp)
    have hq : 1 ≤ N / d := Nat.div_pos (Nat.le_of_dvd h1 hdN) hd
    have he : (N / d) * d = N := Nat.div_mul_cancel hdN
    have hN := ne0 (d := (N : Int)) (by omega)
    have hQ := ne0 (d := ((N / d : Nat) : Int)) (by omega)
    have h3 : (((N / d : Nat) : Int) : Rat) * ((d : Int) : Rat) = ((N : Int) : Rat) := by
      have : ((N / d : Nat) : Int) * (d : Int) = (N : Int) := by rw [← Int.natCast_mul, he]
      exact_mod_cast congrArg (fun x : Int => (x : Rat)) this
    show 1 / (((N / d : Nat) : Int) : Rat) + sumQ (ovT N l) = _
    rw [ih]
    unfold rq
    rw [List.sum_cons]
    rw [show (((d + l.sum : Nat)) : Int) = (d : Int) + ((l.sum : Nat) : Int) from by omega]
    simp only [Rat.intCast_add]
    generalize (((N / d : Nat) : Int) : Rat) = q at *
    generalize ((d : Int) : Rat) = dd at *
    generalize ((N : Int) : Rat) = nn at *
    grind
/-- what an expansion over a number is -/
theorem ovO_facts {n d N : Int} {ts : List Int} (h : ovO n d N = some ts) : expB ts = true ∧ eN ts = n ∧ eD ts = d ∧ ∃ M : Nat, N = (M : Int) ∧ 1 ≤ M ∧ M ≤ 2000 ∧ ∀ t ∈ ts, ∃ u : Nat, t = (u : Int) ∧ 1 ≤ u ∧ u ∣ M := by
  have h0 := h
  unfold ovO at h
  split at h
  · rename_i hc
    obtain ⟨hg, hn, hr⟩ := hc
    obtain ⟨M, rfl, m1, m2⟩ := numB_nat hn
    obtain ⟨g1, g2, g3, g4⟩ := good_bounds hg
    obtain ⟨a, rfl⟩ := Int.eq_ofNat_of_zero_le g1
    obtain ⟨D, rfl⟩ := Int.eq_ofNat_of_zero_le (show 0 ≤ d by omega)
    have hD1 : 1 ≤ D := by omega
    have hmod : M % D = 0 := by
      have : ((M % D : Nat) : Int) = 0 := by rw [Int.natCast_emod]; exact hr
      omega
    obtain ⟨q1, q2, q3, q4⟩ := quo_of m1 hD1 hmod
    have hS : (M : Int) / (D : Int) * (a : Int) = ((M / D * a : Nat) : Int) := by rw [q4, Int.natCast_mul]
    rw [hS] at h
    cases hdf : dfO (M : Int) ((M / D * a : Nat) : Int) with
    | none => rw [hdf] at h; cases h
    | some l =>
      rw [hdf, Option.bind_some] at h
      split at h
      · rename_i he
        injection h with h
        subst h
        have hl : l = pick (dsc M M) (M / D * a) ∧ 0 < ways (dsc M M) (M / D * a) := by
          unfold dfO at hdf
          split at hdf
          · rename_i hx
            injection hdf with hdf
            exact ⟨hdf.symm, hx.2.2⟩
          · cases hdf
        have hmem : ∀ x ∈ l, 1 ≤ x ∧ x ∣ M := fun x hx => by
          rw [hl.1] at hx
          have := (dsc_mem M M x).1 ((pick_sub _ _).subset hx)
          exact ⟨this.1, Nat.dvd_of_mod_eq_zero this.2.2⟩
        have hsum : l.sum = M / D * a := by rw [hl.1]; exact pick_sum _ hl.2
        have he' : expB (ovT M l) = true := he
        have hq : sumQ (ovT M l) = rq (a : Int) (D : Int) := by
          rw [ovT_sum m1 hmem, hsum]
          refine rq_eq (by omega) (by omega) ?_
          have hmd : M / D * D = M := Nat.div_mul_cancel (Nat.dvd_of_mod_eq_zero hmod)
          have : (M / D * a) * D = a * M := by rw [Nat.mul_right_comm, hmd, Nat.mul_comm]
          exact_mod_cast congrArg (fun x : Nat => (x : Int)) this
        have hs := good_same (good_sum he') hg (by rw [sum_q he', hq])
        refine ⟨he', by show eN (ovT M l) = _; rw [eN, if_pos he']; exact hs.1, by show eD (ovT M l) = _; rw [eD, if_pos he']; exact hs.2, M, rfl, m1, m2, fun t ht => ?_⟩
        have ht' : t ∈ ovT M l := ht
        unfold ovT ints at ht'
        rw [List.map_map] at ht'
        obtain ⟨x, hx, rfl⟩ := List.mem_map.1 ht'
        obtain ⟨x1, x2⟩ := hmem x hx
        exact ⟨M / x, rfl, Nat.div_pos (Nat.le_of_dvd m1 x2) x1, Nat.div_dvd_of_dvd x2⟩
      · cases h
  · cases h
theorem fst_some {p : Nat → Bool} : ∀ {f m N : Nat}, m ≤ N → N < m + f → p N = true → (fstF p f m).isSome = true
  | 0, m, N, h1, h2, _ => by omega
  | f + 1, m, N, h1, h2, h3 => by
    by_cases hm : p m = true
    · rw [fstF_yes hm]; rfl
    · rw [fstF_no hm]
      have : m ≠ N := fun e => hm (e ▸ h3)
      exact fst_some (N := N) (by omega) (by omega) h3
theorem peO_facts {n d : Int} {ts : List Int} (h : peO n d = some ts) : expB ts = true ∧ eN ts = n ∧ eD ts = d ∧ (loO n d).isSome = true := by
  unfold peO at h
  split at h
  · rename_i hb
    cases hf : fstF (pxP d.toNat) 2000 1 with
    | none => rw [hf] at h; cases h
    | some N =>
      rw [hf, Option.bind_some] at h
      obtain ⟨a, b, c, M, e, m1, m2, _⟩ := ovO_facts h
      refine ⟨a, b, c, ?_⟩
      rw [loO_yes (belowB_yes hb).1]
      have : N = M := by omega
      subst this
      exact fst_some (N := N) m1 (by omega) (by unfold ovP; rw [h]; rfl)
  · cases h
theorem nxV_some {o : Option Nat} (h : o.isSome = true) : nxV o = .tuple #[.int .i64 ((o.getD 0 : Nat) : Int), .bool true] := by unfold nxV; rw [h]
theorem loO_facts {n d : Int} {m : Nat} (h : loO n d = some m) : 1 ≤ m ∧ m ≤ 2000 ∧ ∃ ts, ovO n d (m : Int) = some ts ∧ expB ts = true ∧ ∀ t ∈ ts, ∃ u : Nat, t = (u : Int) ∧ 1 ≤ u ∧ u ∣ m := by
  unfold loO at h
  split at h
  · obtain ⟨a, b, c⟩ := fstF_mem h
    unfold ovP at c
    cases ho : ovO n d (m : Int) with
    | none => rw [ho] at c; cases c
    | some ts =>
      obtain ⟨f1, f2, f3, M, e, m1, m2, f4⟩ := ovO_facts ho
      have : m = M := by omega
      subst this
      exact ⟨m1, m2, ts, rfl, f1, f4⟩
  · cases h
theorem lcm_fit {m : Nat} (hm : 1 ≤ m) (hm2 : m ≤ 2000) : ∀ {ts : List Int} {r : Int}, 1 ≤ r → r ∣ (m : Int) → (∀ t ∈ ts, ∃ u : Nat, t = (u : Int) ∧ 1 ≤ u ∧ u ∣ m) → ∃ q : Nat, lcmL r ts = some (q : Int) ∧ 1 ≤ q ∧ q ∣ m
  | [], r, h1, h2, _ => by
    obtain ⟨q, rfl⟩ := Int.eq_ofNat_of_zero_le (show 0 ≤ r by omega)
    exact ⟨q, rfl, by omega, by exact_mod_cast h2⟩
  | t :: ts, r, h1, h2, h => by
    obtain ⟨u, rfl, u1, u2⟩ := h t (by simp)
    have hg := gcdI_pos r (u : Int) (by omega)
    have hdiv : r * ((u : Int) / gcdI r u) ∣ (m : Int) := by
      obtain ⟨x, hx⟩ := h2
      have hu : (u : Int) ∣ (m : Int) := by exact_mod_cast u2
      obtain ⟨y, hy⟩ := hu
      have hred := gcdI_red (n := r) (d := (u : Int)) (by omega)
      obtain ⟨a, ha⟩ := gcdI_dvdL r (u : Int)
      obtain ⟨b, hb⟩ := gcdI_dvdR r (u : Int)
      generalize gcdI r (u : Int) = g at *
      have ea : r / g = a := by rw [ha, Int.mul_ediv_cancel_left _ (by omega)]
      have eb : (u : Int) / g = b := by rw [hb, Int.mul_ediv_cancel_left _ (by omega)]
      rw [ea, eb] at hred
      rw [eb]
      have e2 : a * x = b * y := by
        have : g * (a * x) = g * (b * y) := by rw [← Int.mul_assoc, ← Int.mul_assoc, ← ha, ← hb, ← hx, ← hy]
        exact Int.eq_of_mul_eq_mul_left (by omega) this
      have hbx : b ∣ x := dvd_cop hred ⟨y, e2⟩
      obtain ⟨z, hz⟩ := hbx
      exact ⟨z, by rw [hx, hz, Int.mul_assoc]⟩
    have hle := Int.le_of_dvd (by omega) hdiv
    have hq1 : 1 ≤ (u : Int) / gcdI r u := div_pos1 (by omega) hg (gcdI_dvdR r u)
    have hp := mul_pos1 h1 hq1
    rw [lcmL_yes (by omega)]
    exact lcm_fit hm hm2 hp hdiv (fun x hx => h x (by simp [hx]))
theorem com_facts {m : Nat} {ts : List Int} (he : expB ts = true) (h : ∀ t ∈ ts, ∃ u : Nat, t = (u : Int) ∧ 1 ≤ u ∧ u ∣ m) (m1 : 1 ≤ m) (m2 : m ≤ 2000) : ∃ r : Nat, cM ts = (r : Int) ∧ cB ts = true ∧ 1 ≤ r ∧ m % r = 0 := by
  obtain ⟨q, hq, q1, q2⟩ := lcm_fit m1 m2 (r := 1) (by omega) ⟨(m : Int), by omega⟩ h
  obtain ⟨c1, c2⟩ := c_some he hq
  exact ⟨q, c1, c2, q1, Nat.mod_eq_zero_of_dvd q2⟩
set_option maxHeartbeats 2000000 in
theorem zSame_any (w : World) (A B : Option Addr) (c d : Nat) (xs ys : List Int) (ha : Reads w A xs) (hb : Reads w B ys) (hl : xs.length ≤ 1048576) (hl2 : ys.length ≤ 1048576) :
    Calls Try.prog 12 #[.slice A xs.length c, .slice B ys.length d] w (RetQ (.bool (decide (xs = ys))) w) := by
  have HA := Lib.hid ha
  have HB := Lib.hid hb
  clear ha hb
  by_cases hlen : xs.length = ys.length
  · have h1 : xs.length ≤ ys.length := by omega
    have h2 : ys.length ≤ xs.length := by omega
    have Hlen := Lib.hid hlen
    have hne : (((xs.length : Nat) : Int) != ((ys.length : Nat) : Int)) = false := by simp; omega
    clear hlen
    go_enter Try.func12, Try.ntmps12
    go_wp2
    go_loopw [13] (fun v13 wr => ∃ k : Nat, k ≤ xs.length ∧ v13 = .int .i64 k ∧ xs.take k = ys.take k ∧ ∃ n, wr = w.drewN n) (fun v13 _ => xs.length - (intOf v13).toNat)
    case atStart => exact ⟨0, Nat.zero_le _, rfl, by simp, 0, rfl⟩
    case round =>
      obtain ⟨k, hk, rfl, ht, n, rfl⟩ := hrel
      have HT := Lib.hid ht
      clear ht
      by_cases hlt : k < xs.length
      · obtain ⟨b, o, x, rfl, _, hx, hcell⟩ := HA.out.at_ hlt
        obtain ⟨b', o', y, rfl, _, hy, hcell'⟩ := HB.out.at_ (show k < ys.length by omega)
        have hki : (k : Int) < (xs.length : Int) := by omega
        have hki2 : (k : Int) < (ys.length : Int) := by omega
        by_cases hxy : x = y
        · subst hxy
          have HT2 : Hid (xs.take (k + 1) = ys.take (k + 1)) := Lib.hid (by
            rw [List.take_add_one, List.take_add_one, HT.out, hx, hy])
          clear hx hy
          go_wp2
          go_quiet (fail)
          go_wp2
          go_roundw
          case rel => exact ⟨k + 1, by omega, by go_num, HT2.out, _, rfl⟩
          case measure => simp [intOf]; omega
        · have E : Hid (decide (xs = ys) = false) := Lib.hid (by
            refine decide_eq_false fun e => hxy ?_
            rw [e, hy] at hx
            injection hx with hx
            exact hx.symm)
          have hnb : (x != y) = true := by simp [hxy]
          clear hx hy hxy
          go_wp2
          go_quiet (fail)
          go_wp2
          go_ret
          exact ⟨ret_bool E.out.symm, _, World.drewN_drewN _ _ _⟩
      · obtain rfl : k = xs.length := by omega
        have E : Hid (decide (xs = ys) = true) := Lib.hid (by
          refine decide_eq_true ?_
          have := HT.out
          rw [List.take_length, Hlen.out, List.take_length] at this
          exact this)
        go_wp2
        go_ret
        exact ⟨ret_bool E.out.symm, n, rfl⟩
  · have E : Hid (decide (xs = ys) = false) := Lib.hid (decide_eq_false fun e => hlen (by rw [e]))
    have hne : (((xs.length : Nat) : Int) != ((ys.length : Nat) : Int)) = true := by simp; omega
    clear hlen
    go_enter Try.func12, Try.ntmps12
    go_wp2
    go_ret
    exact ⟨ret_bool E.out.symm, 0, rfl⟩
set_option maxRecDepth 100000 in
set_option maxHeartbeats 16000000 in
theorem eo_whole (w : World) (A : Option Addr) (c n : Nat) (B : Option Addr) (d m' : Nat) (hbig : bigB n m' = false) (hn2 : n ≤ 1048576) (hm2 : m' ≤ 1048576)
    (hdr : ∀ w', Below w.heap.size w w' → Calls Try.prog 27 #[.slice A n c] w' (DrawFN w'))
    (hdr2 : ∀ w', Below w.heap.size w w' → Calls Try.prog 31 #[.slice B m' d] w' (DrawFr w'))
    (hdr3 : ∀ w', Below w.heap.size w w' → Calls Try.prog 35 #[.slice B m' d] w' (DrawFr w')) :
    Calls Try.prog 5 #[.slice A n c, .slice B m' d] w (Ret (.bool true) w) := by
  have HDR := Lib.hid hdr
  have HDR2 := Lib.hid hdr2
  have HDR3 := Lib.hid hdr3
  have hn : n ≤ 9223372036854775807 := by omega
  have hm' : m' ≤ 9223372036854775807 := by omega
  clear hdr hdr2 hdr3
  go_enter Try.func5, Try.ntmps5
  go_wp2_with fail
  refine (big_any _ _ _ _ _ _ _ hn hm').mono ?_; rintro e w1 ⟨rfl, k1, rfl⟩
  rw [hbig]
  clear hbig
  go_wp2_with fail
  refine (HDR.out _ (by (repeat' (first | (with_reducible exact Below.refl _ _) | (with_reducible assumption) | (with_reducible refine Below.drew ?_) | (with_reducible refine belowDrewN ?_ _) | (with_reducible refine Below.alloc ?_ ?_ _) | (with_reducible refine Below.setCell ?_ ?_ _) | (with_reducible refine belowStep (by assumption) ?_ ?_) | (with_reducible exact Below.size (by assumption)) | go_size)))).mono ?_; rintro e w2 ⟨a, b, N, rfl, ha, hb, hN0, hN1, hb2⟩
  have hz2 := hb2.size
  (try simp only [World.heap_drewN] at hz2)
  have TG := Lib.hid (TwoAt.new w2 (a) (b) 43)
  have hlen := ovO_len a b N
  have EX1 : Hid (∀ w, Calls Try.prog 28 #[.agg #[.int .i64 a, .int .i64 b], .int .i64 N] w (RetLB ((ovO a b N).getD []) (ovO a b N).isSome w)) := Lib.hid fun w => expandOver_any a b N w ha hb
  have EX0 : Hid (∀ w, Calls Try.prog 29 #[.agg #[.int .i64 a, .int .i64 b], .int .i64 N] w (RetRB ((ovO a b N).getD []) (ovO a b N).isSome w)) := Lib.hid fun w => spec_expandOver_any a b N w
  cases ho : ovO a b N with
  | none =>
    rw [ho] at EX1 EX0
    simp only [Option.getD_none, Option.isSome_none] at EX1 EX0
    clear ho hlen
    obtain ⟨oG1, oG2, oG3, oG4, oG5⟩ := TG.out
    go_wp2_with fail
    refine (EX1.out _).mono ?_; rintro e w5 ⟨v5, rfl, ho5, hb5⟩; have hz5 := hb5.size; (try simp only [World.size_alloc, World.size_setCell, World.size_drew, World.heap_drewN] at hz5)
    clear oG1 oG2 oG3 oG4 oG5
    have TG := Lib.hid (TG.out.below hb5)
    obtain ⟨A5, c5, rfl, hr5⟩ := ho5.form
    clear ho5 hr5
    obtain ⟨oG1, oG2, oG3, oG4, oG5⟩ := TG.out
    go_wp2_with fail
    refine (EX0.out _).mono ?_; rintro e w6 ⟨A6, c6, rfl, hr6, hb6⟩; have hz6 := hb6.size; (try simp only [World.size_alloc, World.size_setCell, World.size_drew, World.heap_drewN] at hz6)
    clear oG1 oG2 oG3 oG4 oG5
    go_wp2_with fail
    refine (zSame_any _ A5 A6 c5 c6 [] [] Reads.nil Reads.nil (by simp) (by simp)).mono ?_; rintro e w7 ⟨rfl, k7, rfl⟩
    go_wp2_with fail
    refine (HDR2.out _ (by (repeat' (first | (with_reducible exact Below.refl _ _) | (with_reducible assumption) | (with_reducible refine Below.drew ?_) | (with_reducible refine belowDrewN ?_ _) | (with_reducible refine Below.alloc ?_ ?_ _) | (with_reducible refine Below.setCell ?_ ?_ _) | (with_reducible refine belowStep (by assumption) ?_ ?_) | (with_reducible exact Below.size (by assumption)) | go_size)))).mono ?_; rintro e w21 ⟨p2, q2, rfl, hp2, hq2, hb21⟩
    have hz21 := hb21.size; (try simp only [World.size_alloc, World.size_setCell, World.size_drew, World.heap_drewN] at hz21)
    have hbw21 : Below w.heap.size w w21 := by (repeat' (first | (with_reducible exact Below.refl _ _) | (with_reducible assumption) | (with_reducible refine Below.drew ?_) | (with_reducible refine belowDrewN ?_ _) | (with_reducible refine Below.alloc ?_ ?_ _) | (with_reducible refine Below.setCell ?_ ?_ _) | (with_reducible refine belowStep (by assumption) ?_ ?_) | (with_reducible exact Below.size (by assumption)) | go_size))
    have TH := Lib.hid (TwoAt.new w21 (p2) (q2) 43)
    have LO1 := Lib.hid fun (w : World) => leastOver_any p2 q2 w hp2 hq2
    have LO2 := Lib.hid fun (w : World) => spec_leastOver_any p2 q2 w
    cases hlo : loO p2 q2 with
    | none =>
      rw [hlo] at LO1 LO2
      unfold nxV at LO1 LO2
      simp only [Option.getD_none, Option.isSome_none] at LO1 LO2
      clear hlo
      obtain ⟨oH1, oH2, oH3, oH4, oH5⟩ := TH.out
      go_wp2_with fail
      refine (LO1.out _).mono ?_; rintro e w22 ⟨rfl, hb22⟩; have hz22 := hb22.size; (try simp only [World.size_alloc, World.size_setCell, World.size_drew, World.heap_drewN] at hz22)
      clear oH1 oH2 oH3 oH4 oH5
      have TH := Lib.hid (TH.out.below hb22)
      obtain ⟨oH1, oH2, oH3, oH4, oH5⟩ := TH.out
      go_wp2_with fail
      refine (LO2.out _).mono ?_; rintro e w23 ⟨rfl, hb23⟩; have hz23 := hb23.size; (try simp only [World.size_alloc, World.size_setCell, World.size_drew, World.heap_drewN] at hz23)
      clear oH1 oH2 oH3 oH4 oH5
      go_wp2_with fail
      refine (HDR3.out _ (by (repeat' (first | (with_reducible exact Below.refl _ _) | (with_reducible assumption) | (with_reducible refine Below.drew ?_) | (with_reducible refine belowDrewN ?_ _) | (with_reducible refine Below.alloc ?_ ?_ _) | (with_reducible refine Below.setCell ?_ ?_ _) | (with_reducible refine belowStep (by assumption) ?_ ?_) | (with_reducible exact Below.size (by assumption)) | go_size)))).mono ?_; rintro e w31 ⟨p3, q3, rfl, hp3, hq3, hb31⟩
      have hz31 := hb31.size; (try simp only [World.size_alloc, World.size_setCell, World.size_drew, World.heap_drewN] at hz31)
      have hbw31 : Below w.heap.size w w31 := by (repeat' (first | (with_reducible exact Below.refl _ _) | (with_reducible assumption) | (with_reducible refine Below.drew ?_) | (with_reducible refine belowDrewN ?_ _) | (with_reducible refine Below.alloc ?_ ?_ _) | (with_reducible refine Below.setCell ?_ ?_ _) | (with_reducible refine belowStep (by assumption) ?_ ?_) | (with_reducible exact Below.size (by assumption)) | go_size))
      have TK := Lib.hid (TwoAt.new w31 (p3) (q3) 43)
      have hlp := peO_len p3 q3
      have PX1 : Hid (∀ w, Calls Try.prog 36 #[.agg #[.int .i64 p3, .int .i64 q3]] w (RetLB ((peO p3 q3).getD []) (peO p3 q3).isSome w)) := Lib.hid fun w => practicalExpansion_any p3 q3 w hp3 hq3
      have PX2 : Hid (∀ w, Calls Try.prog 37 #[.agg #[.int .i64 p3, .int .i64 q3]] w (RetRB ((peO p3 q3).getD []) (peO p3 q3).isSome w)) := Lib.hid fun w => spec_practicalExpansion_any p3 q3 w
      have LO3 := Lib.hid fun (w : World) => leastOver_any p3 q3 w hp3 hq3
      cases hpe : peO p3 q3 with
      | none =>
        rw [hpe] at PX1 PX2
        simp only [Option.getD_none, Option.isSome_none] at PX1 PX2
        clear hpe hlp LO3
        obtain ⟨oK1, oK2, oK3, oK4, oK5⟩ := TK.out
        go_wp2_with fail
        refine (PX1.out _).mono ?_; rintro e w32 ⟨v32, rfl, ho32, hb32⟩; have hz32 := hb32.size; (try simp only [World.size_alloc, World.size_setCell, World.size_drew, World.heap_drewN] at hz32)
        clear oK1 oK2 oK3 oK4 oK5
        have TK := Lib.hid (TK.out.below hb32)
        obtain ⟨A32, c32, rfl, hr32⟩ := ho32.form
        have R32 := Lib.hid hr32
        clear ho32 hr32
        obtain ⟨oK1, oK2, oK3, oK4, oK5⟩ := TK.out
        go_wp2_with fail
        refine (PX2.out _).mono ?_; rintro e w33 ⟨A33, c33, rfl, hr33, hb33⟩; have hz33 := hb33.size; (try simp only [World.size_alloc, World.size_setCell, World.size_drew, World.heap_drewN] at hz33)
        clear oK1 oK2 oK3 oK4 oK5
        go_wp2_with fail
        refine (zSame_any _ A32 A33 c32 c33 [] [] Reads.nil Reads.nil (by simp) (by simp)).mono ?_; rintro e w34 ⟨rfl, k34, rfl⟩
        go_wp2
        go_ret
        exact ⟨rfl, by (repeat' (first | (with_reducible exact Below.refl _ _) | (with_reducible assumption) | (with_reducible refine Below.drew ?_) | (with_reducible refine belowDrewN ?_ _) | (with_reducible refine Below.alloc ?_ ?_ _) | (with_reducible refine Below.setCell ?_ ?_ _) | (with_reducible refine belowStep (by assumption) ?_ ?_) | (with_reducible exact Below.size (by assumption)) | go_size))⟩
      | some ts =>
        obtain ⟨f1, f2, f3, f4⟩ := peO_facts hpe
        rw [hpe] at PX1 PX2 hlp
        rw [nxV_some f4] at LO3
        simp only [Option.getD_some, Option.isSome_some] at PX1 PX2 hlp
        have h64 := Lib.hid (fun (i : Nat) (x : Int) (hx : ts[i]? = some x) => by have := expB_small f1 x (List.mem_of_getElem? hx); exact (show -9223372036854775808 ≤ x ∧ x ≤ 9223372036854775807 by omega))
        have SU : Hid (∀ w A c, Reads w A ts → Calls Try.prog 30 #[.slice A ts.length c] w (Ret (.tuple #[.agg #[.int .i64 p3, .int .i64 q3], .bool true]) w)) := Lib.hid fun w A c h => by
          have := sumOf_any w A c ts h (by omega) h64.out
          rwa [f2, f3, f1] at this
        have HZ : Hid (∀ w A B c d, Reads w A ts → Reads w B ts → Calls Try.prog 12 #[.slice A ts.length c, .slice B ts.length d] w (RetQ (.bool true) w)) := Lib.hid fun w A B c d h h' => by
          have := zSame_any w A B c d ts ts h h' (by omega) (by omega)
          rwa [decide_eq_true rfl] at this
        clear hpe f1 f2 f3 f4 h64
        generalize (((loO p3 q3).getD 0 : Nat) : Int) = lo3 at *
        obtain ⟨oK1, oK2, oK3, oK4, oK5⟩ := TK.out
        go_wp2_with fail
        refine (PX1.out _).mono ?_; rintro e w32 ⟨v32, rfl, ho32, hb32⟩; have hz32 := hb32.size; (try simp only [World.size_alloc, World.size_setCell, World.size_drew, World.heap_drewN] at hz32)
        clear oK1 oK2 oK3 oK4 oK5
        have TK := Lib.hid (TK.out.below hb32)
        obtain ⟨A32, c32, rfl, hr32⟩ := ho32.form
        have R32 := Lib.hid hr32
        clear ho32 hr32
        obtain ⟨oK1, oK2, oK3, oK4, oK5⟩ := TK.out
        go_wp2_with fail
        refine (PX2.out _).mono ?_; rintro e w33 ⟨A33, c33, rfl, hr33, hb33⟩; have hz33 := hb33.size; (try simp only [World.size_alloc, World.size_setCell, World.size_drew, World.heap_drewN] at hz33)
        clear oK1 oK2 oK3 oK4 oK5
        have TK := Lib.hid (TK.out.below hb33)
        have R33 := Lib.hid hr33
        clear hr33
        go_wp2_with fail
        refine (HZ.out _ _ _ _ _ (R32.out.below (by (repeat' (first | (with_reducible exact Below.refl _ _) | (with_reducible assumption) | (with_reducible refine Below.drew ?_) | (with_reducible refine belowDrewN ?_ _) | (with_reducible refine Below.alloc ?_ ?_ _) | (with_reducible refine Below.setCell ?_ ?_ _) | (with_reducible refine belowStep (by assumption) ?_ ?_) | (with_reducible exact Below.size (by assumption)) | go_size)))) R33.out).mono ?_; rintro e w34 ⟨rfl, k34, rfl⟩
        go_wp2_with fail
        refine (SU.out _ _ _ (R32.out.below (by (repeat' (first | (with_reducible exact Below.refl _ _) | (with_reducible assumption) | (with_reducible refine Below.drew ?_) | (with_reducible refine belowDrewN ?_ _) | (with_reducible refine Below.alloc ?_ ?_ _) | (with_reducible refine Below.setCell ?_ ?_ _) | (with_reducible refine belowStep (by assumption) ?_ ?_) | (with_reducible exact Below.size (by assumption)) | go_size))))).mono ?_; rintro e w35 ⟨rfl, hb35⟩; have hz35 := hb35.size; (try simp only [World.size_alloc, World.size_setCell, World.size_drew, World.heap_drewN] at hz35)
        have TK := Lib.hid (TK.out.below (show Below w33.heap.size w33 w35 by (repeat' (first | (with_reducible exact Below.refl _ _) | (with_reducible assumption) | (with_reducible refine Below.drew ?_) | (with_reducible refine belowDrewN ?_ _) | (with_reducible refine Below.alloc ?_ ?_ _) | (with_reducible refine Below.setCell ?_ ?_ _) | (with_reducible refine belowStep (by assumption) ?_ ?_) | (with_reducible exact Below.size (by assumption)) | go_size))))
        have TV := Lib.hid (TwoAt.new w35 (p3) (q3) 43)
        have TK := Lib.hid (TK.out.below ((Below.refl _ _).alloc (Nat.le_refl _) (.cells #[.int .i64 p3, .int .i64 q3] 43)))
        have hbw35 : Below w.heap.size w w35 := by (repeat' (first | (with_reducible exact Below.refl _ _) | (with_reducible assumption) | (with_reducible refine Below.drew ?_) | (with_reducible refine belowDrewN ?_ _) | (with_reducible refine Below.alloc ?_ ?_ _) | (with_reducible refine Below.setCell ?_ ?_ _) | (with_reducible refine belowStep (by assumption) ?_ ?_) | (with_reducible exact Below.size (by assumption)) | go_size))
        obtain ⟨oK1, oK2, oK3, oK4, oK5⟩ := TK.out
        go_wp2_with fail
        refine (LO3.out _).mono ?_; rintro e w36 ⟨rfl, hb36⟩; have hz36 := hb36.size; (try simp only [World.size_alloc, World.size_setCell, World.size_drew, World.heap_drewN] at hz36)
        clear oK1 oK2 oK3 oK4 oK5
        have TK := Lib.hid (TK.out.below hb36)
        have TV := Lib.hid (TV.out.below hb36)
        obtain ⟨oK1, oK2, oK3, oK4, oK5⟩ := TK.out
        obtain ⟨oV1, oV2, oV3, oV4, oV5⟩ := TV.out
        go_wp2
        go_ret
        exact ⟨by first | rfl | simp, by (repeat' (first | (with_reducible exact Below.refl _ _) | (with_reducible assumption) | (with_reducible refine Below.drew ?_) | (with_reducible refine belowDrewN ?_ _) | (with_reducible refine Below.alloc ?_ ?_ _) | (with_reducible refine Below.setCell ?_ ?_ _) | (with_reducible refine belowStep (by assumption) ?_ ?_) | (with_reducible exact Below.size (by assumption)) | go_size))⟩
    | some m =>
      obtain ⟨m1, m2, ts2, ho2, f1, f2⟩ := loO_facts hlo
      rw [hlo] at LO1 LO2
      unfold nxV at LO1 LO2
      simp only [Option.getD_some, Option.isSome_some] at LO1 LO2
      have EX2 : Hid (∀ w, Calls Try.prog 28 #[.agg #[.int .i64 p2, .int .i64 q2], .int .i64 (m : Int)] w (RetLB ts2 true w)) := Lib.hid fun w => by
        have := expandOver_any p2 q2 (m : Int) w hp2 hq2
        rwa [ho2] at this
      have hl2 := expB_len f1
      obtain ⟨r, c1, c2, c3, c4⟩ := com_facts f1 f2 m1 m2
      have CM2 : Hid (∀ w A c, Reads w A ts2 → Calls Try.prog 34 #[.slice A ts2.length c] w (Ret (.tuple #[.int .i64 (r : Int), .bool true]) w)) := Lib.hid fun w A c h => by
        have := common_any w A c ts2 h (by omega) (fun i x hx => by have := expB_small f1 x (List.mem_of_getElem? hx); omega)
        rwa [c1, c2] at this
      obtain ⟨e1, e2, _, _⟩ := @remv2 m r
      rw [c4] at e1 e2
      have hrz : (r : Int) ≠ 0 := by omega
      clear hlo ho2 f1 f2 c1 c2 c4
      obtain ⟨oH1, oH2, oH3, oH4, oH5⟩ := TH.out
      go_wp2_with fail
      refine (LO1.out _).mono ?_; rintro e w22 ⟨rfl, hb22⟩; have hz22 := hb22.size; (try simp only [World.size_alloc, World.size_setCell, World.size_drew, World.heap_drewN] at hz22)
      clear oH1 oH2 oH3 oH4 oH5
      have TH := Lib.hid (TH.out.below hb22)
      obtain ⟨oH1, oH2, oH3, oH4, oH5⟩ := TH.out
      go_wp2_with fail
      refine (LO2.out _).mono ?_; rintro e w23 ⟨rfl, hb23⟩; have hz23 := hb23.size; (try simp only [World.size_alloc, World.size_setCell, World.size_drew, World.heap_drewN] at hz23)
      clear oH1 oH2 oH3 oH4 oH5
      have TH := Lib.hid (TH.out.below hb23)
      obtain ⟨oH1, oH2, oH3, oH4, oH5⟩ := TH.out
      go_wp2_with fail
      refine (EX2.out _).mono ?_; rintro e w24 ⟨v24, rfl, ho24, hb24⟩; have hz24 := hb24.size; (try simp only [World.size_alloc, World.size_setCell, World.size_drew, World.heap_drewN] at hz24)
      clear oH1 oH2 oH3 oH4 oH5
      obtain ⟨A24, c24, rfl, hr24⟩ := ho24.form
      have R24 := Lib.hid hr24
      clear ho24 hr24
      go_wp2_with fail
      refine (CM2.out _ _ _ R24.out).mono ?_; rintro e w25 ⟨rfl, hb25⟩; have hz25 := hb25.size; (try simp only [World.size_alloc, World.size_setCell, World.size_drew, World.heap_drewN] at hz25)
      have hbw25 : Below w.heap.size w w25 := by (repeat' (first | (with_reducible exact Below.refl _ _) | (with_reducible assumption) | (with_reducible refine Below.drew ?_) | (with_reducible refine belowDrewN ?_ _) | (with_reducible refine Below.alloc ?_ ?_ _) | (with_reducible refine Below.setCell ?_ ?_ _) | (with_reducible refine belowStep (by assumption) ?_ ?_) | (with_reducible exact Below.size (by assumption)) | go_size))
      go_wp2_with fail
      refine (HDR3.out _ (by (repeat' (first | (with_reducible exact Below.refl _ _) | (with_reducible assumption) | (with_reducible refine Below.drew ?_) | (with_reducible refine belowDrewN ?_ _) | (with_reducible refine Below.alloc ?_ ?_ _) | (with_reducible refine Below.setCell ?_ ?_ _) | (with_reducible refine belowStep (by assumption) ?_ ?_) | (with_reducible exact Below.size (by assumption)) | go_size)))).mono ?_; rintro e w31 ⟨p3, q3, rfl, hp3, hq3, hb31⟩
      have hz31 := hb31.size; (try simp only [World.size_alloc, World.size_setCell, World.size_drew, World.heap_drewN] at hz31)
      have hbw31 : Below w.heap.size w w31 := by (repeat' (first | (with_reducible exact Below.refl _ _) | (with_reducible assumption) | (with_reducible refine Below.drew ?_) | (with_reducible refine belowDrewN ?_ _) | (with_reducible refine Below.alloc ?_ ?_ _) | (with_reducible refine Below.setCell ?_ ?_ _) | (with_reducible refine belowStep (by assumption) ?_ ?_) | (with_reducible exact Below.size (by assumption)) | go_size))
      have TK := Lib.hid (TwoAt.new w31 (p3) (q3) 43)
      have hlp := peO_len p3 q3
      have PX1 : Hid (∀ w, Calls Try.prog 36 #[.agg #[.int .i64 p3, .int .i64 q3]] w (RetLB ((peO p3 q3).getD []) (peO p3 q3).isSome w)) := Lib.hid fun w => practicalExpansion_any p3 q3 w hp3 hq3
      have PX2 : Hid (∀ w, Calls Try.prog 37 #[.agg #[.int .i64 p3, .int .i64 q3]] w (RetRB ((peO p3 q3).getD []) (peO p3 q3).isSome w)) := Lib.hid fun w => spec_practicalExpansion_any p3 q3 w
      have LO3 := Lib.hid fun (w : World) => leastOver_any p3 q3 w hp3 hq3
      cases hpe : peO p3 q3 with
      | none =>
        rw [hpe] at PX1 PX2
        simp only [Option.getD_none, Option.isSome_none] at PX1 PX2
        clear hpe hlp LO3
        obtain ⟨oK1, oK2, oK3, oK4, oK5⟩ := TK.out
        go_wp2_with fail
        refine (PX1.out _).mono ?_; rintro e w32 ⟨v32, rfl, ho32, hb32⟩; have hz32 := hb32.size; (try simp only [World.size_alloc, World.size_setCell, World.size_drew, World.heap_drewN] at hz32)
        clear oK1 oK2 oK3 oK4 oK5
        have TK := Lib.hid (TK.out.below hb32)
        obtain ⟨A32, c32, rfl, hr32⟩ := ho32.form
        have R32 := Lib.hid hr32
        clear ho32 hr32
        obtain ⟨oK1, oK2, oK3, oK4, oK5⟩ := TK.out
        go_wp2_with fail
        refine (PX2.out _).mono ?_; rintro e w33 ⟨A33, c33, rfl, hr33, hb33⟩; have hz33 := hb33.size; (try simp only [World.size_alloc, World.size_setCell, World.size_drew, World.heap_drewN] at hz33)
        clear oK1 oK2 oK3 oK4 oK5
        go_wp2_with fail
        refine (zSame_any _ A32 A33 c32 c33 [] [] Reads.nil Reads.nil (by simp) (by simp)).mono ?_; rintro e w34 ⟨rfl, k34, rfl⟩
        go_wp2
        go_ret
        exact ⟨rfl, by (repeat' (first | (with_reducible exact Below.refl _ _) | (with_reducible assumption) | (with_reducible refine Below.drew ?_) | (with_reducible refine belowDrewN ?_ _) | (with_reducible refine Below.alloc ?_ ?_ _) | (with_reducible refine Below.setCell ?_ ?_ _) | (with_reducible refine belowStep (by assumption) ?_ ?_) | (with_reducible exact Below.size (by assumption)) | go_size))⟩
      | some ts =>
        obtain ⟨f1, f2, f3, f4⟩ := peO_facts hpe
        rw [hpe] at PX1 PX2 hlp
        rw [nxV_some f4] at LO3
        simp only [Option.getD_some, Option.isSome_some] at PX1 PX2 hlp
        have h64 := Lib.hid (fun (i : Nat) (x : Int) (hx : ts[i]? = some x) => by have := expB_small f1 x (List.mem_of_getElem? hx); exact (show -9223372036854775808 ≤ x ∧ x ≤ 9223372036854775807 by omega))
        have SU : Hid (∀ w A c, Reads w A ts → Calls Try.prog 30 #[.slice A ts.length c] w (Ret (.tuple #[.agg #[.int .i64 p3, .int .i64 q3], .bool true]) w)) := Lib.hid fun w A c h => by
          have := sumOf_any w A c ts h (by omega) h64.out
          rwa [f2, f3, f1] at this
        have HZ : Hid (∀ w A B c d, Reads w A ts → Reads w B ts → Calls Try.prog 12 #[.slice A ts.length c, .slice B ts.length d] w (RetQ (.bool true) w)) := Lib.hid fun w A B c d h h' => by
          have := zSame_any w A B c d ts ts h h' (by omega) (by omega)
          rwa [decide_eq_true rfl] at this
        clear hpe f1 f2 f3 f4 h64
        generalize (((loO p3 q3).getD 0 : Nat) : Int) = lo3 at *
        obtain ⟨oK1, oK2, oK3, oK4, oK5⟩ := TK.out
        go_wp2_with fail
        refine (PX1.out _).mono ?_; rintro e w32 ⟨v32, rfl, ho32, hb32⟩; have hz32 := hb32.size; (try simp only [World.size_alloc, World.size_setCell, World.size_drew, World.heap_drewN] at hz32)
        clear oK1 oK2 oK3 oK4 oK5
        have TK := Lib.hid (TK.out.below hb32)
        obtain ⟨A32, c32, rfl, hr32⟩ := ho32.form
        have R32 := Lib.hid hr32
        clear ho32 hr32
        obtain ⟨oK1, oK2, oK3, oK4, oK5⟩ := TK.out
        go_wp2_with fail
        refine (PX2.out _).mono ?_; rintro e w33 ⟨A33, c33, rfl, hr33, hb33⟩; have hz33 := hb33.size; (try simp only [World.size_alloc, World.size_setCell, World.size_drew, World.heap_drewN] at hz33)
        clear oK1 oK2 oK3 oK4 oK5
        have TK := Lib.hid (TK.out.below hb33)
        have R33 := Lib.hid hr33
        clear hr33
        go_wp2_with fail
        refine (HZ.out _ _ _ _ _ (R32.out.below (by (repeat' (first | (with_reducible exact Below.refl _ _) | (with_reducible assumption) | (with_reducible refine Below.drew ?_) | (with_reducible refine belowDrewN ?_ _) | (with_reducible refine Below.alloc ?_ ?_ _) | (with_reducible refine Below.setCell ?_ ?_ _) | (with_reducible refine belowStep (by assumption) ?_ ?_) | (with_reducible exact Below.size (by assumption)) | go_size)))) R33.out).mono ?_; rintro e w34 ⟨rfl, k34, rfl⟩
        go_wp2_with fail
        refine (SU.out _ _ _ (R32.out.below (by (repeat' (first | (with_reducible exact Below.refl _ _) | (with_reducible assumption) | (with_reducible refine Below.drew ?_) | (with_reducible refine belowDrewN ?_ _) | (with_reducible refine Below.alloc ?_ ?_ _) | (with_reducible refine Below.setCell ?_ ?_ _) | (with_reducible refine belowStep (by assumption) ?_ ?_) | (with_reducible exact Below.size (by assumption)) | go_size))))).mono ?_; rintro e w35 ⟨rfl, hb35⟩; have hz35 := hb35.size; (try simp only [World.size_alloc, World.size_setCell, World.size_drew, World.heap_drewN] at hz35)
        have TK := Lib.hid (TK.out.below (show Below w33.heap.size w33 w35 by (repeat' (first | (with_reducible exact Below.refl _ _) | (with_reducible assumption) | (with_reducible refine Below.drew ?_) | (with_reducible refine belowDrewN ?_ _) | (with_reducible refine Below.alloc ?_ ?_ _) | (with_reducible refine Below.setCell ?_ ?_ _) | (with_reducible refine belowStep (by assumption) ?_ ?_) | (with_reducible exact Below.size (by assumption)) | go_size))))
        have TV := Lib.hid (TwoAt.new w35 (p3) (q3) 43)
        have TK := Lib.hid (TK.out.below ((Below.refl _ _).alloc (Nat.le_refl _) (.cells #[.int .i64 p3, .int .i64 q3] 43)))
        have hbw35 : Below w.heap.size w w35 := by (repeat' (first | (with_reducible exact Below.refl _ _) | (with_reducible assumption) | (with_reducible refine Below.drew ?_) | (with_reducible refine belowDrewN ?_ _) | (with_reducible refine Below.alloc ?_ ?_ _) | (with_reducible refine Below.setCell ?_ ?_ _) | (with_reducible refine belowStep (by assumption) ?_ ?_) | (with_reducible exact Below.size (by assumption)) | go_size))
        obtain ⟨oK1, oK2, oK3, oK4, oK5⟩ := TK.out
        go_wp2_with fail
        refine (LO3.out _).mono ?_; rintro e w36 ⟨rfl, hb36⟩; have hz36 := hb36.size; (try simp only [World.size_alloc, World.size_setCell, World.size_drew, World.heap_drewN] at hz36)
        clear oK1 oK2 oK3 oK4 oK5
        have TK := Lib.hid (TK.out.below hb36)
        have TV := Lib.hid (TV.out.below hb36)
        obtain ⟨oK1, oK2, oK3, oK4, oK5⟩ := TK.out
        obtain ⟨oV1, oV2, oV3, oV4, oV5⟩ := TV.out
        go_wp2
        go_ret
        exact ⟨by first | rfl | simp, by (repeat' (first | (with_reducible exact Below.refl _ _) | (with_reducible assumption) | (with_reducible refine Below.drew ?_) | (with_reducible refine belowDrewN ?_ _) | (with_reducible refine Below.alloc ?_ ?_ _) | (with_reducible refine Below.setCell ?_ ?_ _) | (with_reducible refine belowStep (by assumption) ?_ ?_) | (with_reducible exact Below.size (by assumption)) | go_size))⟩
  | some ts =>
    obtain ⟨f1, f2, f3, M, rfl, g1, g2, f4⟩ := ovO_facts ho
    rw [ho] at EX1 EX0 hlen
    simp only [Option.getD_some, Option.isSome_some] at EX1 EX0 hlen
    have h64 := Lib.hid (fun (i : Nat) (x : Int) (hx : ts[i]? = some x) => by have := expB_small f1 x (List.mem_of_getElem? hx); exact (show -9223372036854775808 ≤ x ∧ x ≤ 9223372036854775807 by omega))
    have SU : Hid (∀ w A c, Reads w A ts → Calls Try.prog 30 #[.slice A ts.length c] w (Ret (.tuple #[.agg #[.int .i64 a, .int .i64 b], .bool true]) w)) := Lib.hid fun w A c h => by
      have := sumOf_any w A c ts h (by omega) h64.out
      rwa [f2, f3, f1] at this
    have HZ : Hid (∀ w A B c d, Reads w A ts → Reads w B ts → Calls Try.prog 12 #[.slice A ts.length c, .slice B ts.length d] w (RetQ (.bool true) w)) := Lib.hid fun w A B c d h h' => by
      have := zSame_any w A B c d ts ts h h' (by omega) (by omega)
      rwa [decide_eq_true rfl] at this
    have HM4 := Lib.hid f4
    clear ho f1 f2 f3 f4 h64
    obtain ⟨oG1, oG2, oG3, oG4, oG5⟩ := TG.out
    go_wp2_with fail
    refine (EX1.out _).mono ?_; rintro e w5 ⟨v5, rfl, ho5, hb5⟩; have hz5 := hb5.size; (try simp only [World.size_alloc, World.size_setCell, World.size_drew, World.heap_drewN] at hz5)
    clear oG1 oG2 oG3 oG4 oG5
    have TG := Lib.hid (TG.out.below hb5)
    obtain ⟨A5, c5, rfl, hr5⟩ := ho5.form
    have R5 := Lib.hid hr5
    clear ho5 hr5
    obtain ⟨oG1, oG2, oG3, oG4, oG5⟩ := TG.out
    go_wp2_with fail
    refine (EX0.out _).mono ?_; rintro e w6 ⟨A6, c6, rfl, hr6, hb6⟩; have hz6 := hb6.size; (try simp only [World.size_alloc, World.size_setCell, World.size_drew, World.heap_drewN] at hz6)
    clear oG1 oG2 oG3 oG4 oG5
    have TG := Lib.hid (TG.out.below hb6)
    have R6 := Lib.hid hr6
    clear hr6
    go_wp2_with fail
    refine (HZ.out _ _ _ _ _ (R5.out.below (by (repeat' (first | (with_reducible exact Below.refl _ _) | (with_reducible assumption) | (with_reducible refine Below.drew ?_) | (with_reducible refine belowDrewN ?_ _) | (with_reducible refine Below.alloc ?_ ?_ _) | (with_reducible refine Below.setCell ?_ ?_ _) | (with_reducible refine belowStep (by assumption) ?_ ?_) | (with_reducible exact Below.size (by assumption)) | go_size)))) R6.out).mono ?_; rintro e w7 ⟨rfl, k7, rfl⟩
    go_wp2_with fail
    refine (SU.out _ _ _ (R5.out.below (by (repeat' (first | (with_reducible exact Below.refl _ _) | (with_reducible assumption) | (with_reducible refine Below.drew ?_) | (with_reducible refine belowDrewN ?_ _) | (with_reducible refine Below.alloc ?_ ?_ _) | (with_reducible refine Below.setCell ?_ ?_ _) | (with_reducible refine belowStep (by assumption) ?_ ?_) | (with_reducible exact Below.size (by assumption)) | go_size))))).mono ?_; rintro e w8 ⟨rfl, hb8⟩; have hz8 := hb8.size; (try simp only [World.size_alloc, World.size_setCell, World.size_drew, World.heap_drewN] at hz8)
    have TG := Lib.hid (TG.out.below (show Below w6.heap.size w6 w8 by (repeat' (first | (with_reducible exact Below.refl _ _) | (with_reducible assumption) | (with_reducible refine Below.drew ?_) | (with_reducible refine belowDrewN ?_ _) | (with_reducible refine Below.alloc ?_ ?_ _) | (with_reducible refine Below.setCell ?_ ?_ _) | (with_reducible refine belowStep (by assumption) ?_ ?_) | (with_reducible exact Below.size (by assumption)) | go_size))))
    have R8 := Lib.hid (R5.out.below (show Below w5.heap.size w5 w8 by (repeat' (first | (with_reducible exact Below.refl _ _) | (with_reducible assumption) | (with_reducible refine Below.drew ?_) | (with_reducible refine belowDrewN ?_ _) | (with_reducible refine Below.alloc ?_ ?_ _) | (with_reducible refine Below.setCell ?_ ?_ _) | (with_reducible refine belowStep (by assumption) ?_ ?_) | (with_reducible exact Below.size (by assumption)) | go_size))))
    have TU := Lib.hid (TwoAt.new w8 (a) (b) 43)
    have TG := Lib.hid (TG.out.below ((Below.refl _ _).alloc (Nat.le_refl _) (.cells #[.int .i64 a, .int .i64 b] 43)))
    have hbw8 : Below w.heap.size w w8 := by (repeat' (first | (with_reducible exact Below.refl _ _) | (with_reducible assumption) | (with_reducible refine Below.drew ?_) | (with_reducible refine belowDrewN ?_ _) | (with_reducible refine Below.alloc ?_ ?_ _) | (with_reducible refine Below.setCell ?_ ?_ _) | (with_reducible refine belowStep (by assumption) ?_ ?_) | (with_reducible exact Below.size (by assumption)) | go_size))
    obtain ⟨oG1, oG2, oG3, oG4, oG5⟩ := TG.out
    obtain ⟨oU1, oU2, oU3, oU4, oU5⟩ := TU.out
    go_wp2
    clear oG1 oG2 oG3 oG4 oG5
    clear oU1 oU2 oU3 oU4 oU5
    go_loopw [77] (fun v77 wr => ∃ k : Nat, v77 = .int .i64 (k : Int) ∧ k ≤ ts.length ∧ Below w8.heap.size w8 wr) (fun v77 _ => ts.length - (intOf v77).toNat)
    case atStart => exact ⟨0, rfl, Nat.zero_le _, by (repeat' (first | (with_reducible exact Below.refl _ _) | (with_reducible assumption) | (with_reducible refine Below.drew ?_) | (with_reducible refine belowDrewN ?_ _) | (with_reducible refine Below.alloc ?_ ?_ _) | (with_reducible refine Below.setCell ?_ ?_ _) | (with_reducible refine belowStep (by assumption) ?_ ?_) | (with_reducible exact Below.size (by assumption)) | go_size))⟩
    case round =>
      obtain ⟨k, rfl, hk, hbr⟩ := hrel
      obtain ⟨wo, rfl⟩ : ∃ x : World, x = wr := ⟨_, rfl⟩
      have hzo := hbr.size
      have hbw : Below w.heap.size w wo := by (repeat' (first | (with_reducible exact Below.refl _ _) | (with_reducible assumption) | (with_reducible refine Below.drew ?_) | (with_reducible refine belowDrewN ?_ _) | (with_reducible refine Below.alloc ?_ ?_ _) | (with_reducible refine Below.setCell ?_ ?_ _) | (with_reducible refine belowStep (by assumption) ?_ ?_) | (with_reducible exact Below.size (by assumption)) | go_size))
      by_cases hlt : k < ts.length
      · obtain ⟨b9, o9, t, rfl, hbb, hx, hcell⟩ := (R8.out.below hbr).at_ hlt
        obtain ⟨u, rfl, u1, u2⟩ := HM4.out t (List.mem_of_getElem? hx)
        have hki : (k : Int) < (ts.length : Int) := by omega
        obtain ⟨r1, r2, _, _⟩ := @remv2 M u
        rw [Nat.mod_eq_zero_of_dvd u2] at r1 r2
        have huz : (u : Int) ≠ 0 := by omega
        clear hx u2
        go_wp2
        go_roundw
        case rel => exact ⟨k + 1, by go_num, by omega, by (repeat' (first | (with_reducible exact Below.refl _ _) | (with_reducible assumption) | (with_reducible refine Below.drew ?_) | (with_reducible refine belowDrewN ?_ _) | (with_reducible refine Below.alloc ?_ ?_ _) | (with_reducible refine Below.setCell ?_ ?_ _) | (with_reducible refine belowStep (by assumption) ?_ ?_) | (with_reducible exact Below.size (by assumption)) | go_size))⟩
        case measure => simp [intOf]; omega
      · have hki : ¬ (k : Int) < (ts.length : Int) := by omega
        go_wp2_with fail
        refine (HDR2.out _ (by (repeat' (first | (with_reducible exact Below.refl _ _) | (with_reducible assumption) | (with_reducible refine Below.drew ?_) | (with_reducible refine belowDrewN ?_ _) | (with_reducible refine Below.alloc ?_ ?_ _) | (with_reducible refine Below.setCell ?_ ?_ _) | (with_reducible refine belowStep (by assumption) ?_ ?_) | (with_reducible exact Below.size (by assumption)) | go_size)))).mono ?_; rintro e w21 ⟨p2, q2, rfl, hp2, hq2, hb21⟩
        have hz21 := hb21.size; (try simp only [World.size_alloc, World.size_setCell, World.size_drew, World.heap_drewN] at hz21)
        have hbw21 : Below w.heap.size w w21 := by (repeat' (first | (with_reducible exact Below.refl _ _) | (with_reducible assumption) | (with_reducible refine Below.drew ?_) | (with_reducible refine belowDrewN ?_ _) | (with_reducible refine Below.alloc ?_ ?_ _) | (with_reducible refine Below.setCell ?_ ?_ _) | (with_reducible refine belowStep (by assumption) ?_ ?_) | (with_reducible exact Below.size (by assumption)) | go_size))
        have TH := Lib.hid (TwoAt.new w21 (p2) (q2) 43)
        have LO1 := Lib.hid fun (w : World) => leastOver_any p2 q2 w hp2 hq2
        have LO2 := Lib.hid fun (w : World) => spec_leastOver_any p2 q2 w
        cases hlo : loO p2 q2 with
        | none =>
          rw [hlo] at LO1 LO2
          unfold nxV at LO1 LO2
          simp only [Option.getD_none, Option.isSome_none] at LO1 LO2
          clear hlo
          obtain ⟨oH1, oH2, oH3, oH4, oH5⟩ := TH.out
          go_wp2_with fail
          refine (LO1.out _).mono ?_; rintro e w22 ⟨rfl, hb22⟩; have hz22 := hb22.size; (try simp only [World.size_alloc, World.size_setCell, World.size_drew, World.heap_drewN] at hz22)
          clear oH1 oH2 oH3 oH4 oH5
          have TH := Lib.hid (TH.out.below hb22)
          obtain ⟨oH1, oH2, oH3, oH4, oH5⟩ := TH.out
          go_wp2_with fail
          refine (LO2.out _).mono ?_; rintro e w23 ⟨rfl, hb23⟩; have hz23 := hb23.size; (try simp only [World.size_alloc, World.size_setCell, World.size_drew, World.heap_drewN] at hz23)
          clear oH1 oH2 oH3 oH4 oH5
          go_wp2_with fail
          refine (HDR3.out _ (by (repeat' (first | (with_reducible exact Below.refl _ _) | (with_reducible assumption) | (with_reducible refine Below.drew ?_) | (with_reducible refine belowDrewN ?_ _) | (with_reducible refine Below.alloc ?_ ?_ _) | (with_reducible refine Below.setCell ?_ ?_ _) | (with_reducible refine belowStep (by assumption) ?_ ?_) | (with_reducible exact Below.size (by assumption)) | go_size)))).mono ?_; rintro e w31 ⟨p3, q3, rfl, hp3, hq3, hb31⟩
          have hz31 := hb31.size; (try simp only [World.size_alloc, World.size_setCell, World.size_drew, World.heap_drewN] at hz31)
          have hbw31 : Below w.heap.size w w31 := by (repeat' (first | (with_reducible exact Below.refl _ _) | (with_reducible assumption) | (with_reducible refine Below.drew ?_) | (with_reducible refine belowDrewN ?_ _) | (with_reducible refine Below.alloc ?_ ?_ _) | (with_reducible refine Below.setCell ?_ ?_ _) | (with_reducible refine belowStep (by assumption) ?_ ?_) | (with_reducible exact Below.size (by assumption)) | go_size))
          have TK := Lib.hid (TwoAt.new w31 (p3) (q3) 43)
          have hlp := peO_len p3 q3
          have PX1 : Hid (∀ w, Calls Try.prog 36 #[.agg #[.int .i64 p3, .int .i64 q3]] w (RetLB ((peO p3 q3).getD []) (peO p3 q3).isSome w)) := Lib.hid fun w => practicalExpansion_any p3 q3 w hp3 hq3
          have PX2 : Hid (∀ w, Calls Try.prog 37 #[.agg #[.int .i64 p3, .int .i64 q3]] w (RetRB ((peO p3 q3).getD []) (peO p3 q3).isSome w)) := Lib.hid fun w => spec_practicalExpansion_any p3 q3 w
          have LO3 := Lib.hid fun (w : World) => leastOver_any p3 q3 w hp3 hq3
          cases hpe : peO p3 q3 with
          | none =>
            rw [hpe] at PX1 PX2
            simp only [Option.getD_none, Option.isSome_none] at PX1 PX2
            clear hpe hlp LO3
            obtain ⟨oK1, oK2, oK3, oK4, oK5⟩ := TK.out
            go_wp2_with fail
            refine (PX1.out _).mono ?_; rintro e w32 ⟨v32, rfl, ho32, hb32⟩; have hz32 := hb32.size; (try simp only [World.size_alloc, World.size_setCell, World.size_drew, World.heap_drewN] at hz32)
            clear oK1 oK2 oK3 oK4 oK5
            have TK := Lib.hid (TK.out.below hb32)
            obtain ⟨A32, c32, rfl, hr32⟩ := ho32.form
            have R32 := Lib.hid hr32
            clear ho32 hr32
            obtain ⟨oK1, oK2, oK3, oK4, oK5⟩ := TK.out
            go_wp2_with fail
            refine (PX2.out _).mono ?_; rintro e w33 ⟨A33, c33, rfl, hr33, hb33⟩; have hz33 := hb33.size; (try simp only [World.size_alloc, World.size_setCell, World.size_drew, World.heap_drewN] at hz33)
            clear oK1 oK2 oK3 oK4 oK5
            go_wp2_with fail
            refine (zSame_any _ A32 A33 c32 c33 [] [] Reads.nil Reads.nil (by simp) (by simp)).mono ?_; rintro e w34 ⟨rfl, k34, rfl⟩
            go_wp2
            go_ret
            exact ⟨rfl, by (repeat' (first | (with_reducible exact Below.refl _ _) | (with_reducible assumption) | (with_reducible refine Below.drew ?_) | (with_reducible refine belowDrewN ?_ _) | (with_reducible refine Below.alloc ?_ ?_ _) | (with_reducible refine Below.setCell ?_ ?_ _) | (with_reducible refine belowStep (by assumption) ?_ ?_) | (with_reducible exact Below.size (by assumption)) | go_size))⟩
          | some ts =>
            obtain ⟨f1, f2, f3, f4⟩ := peO_facts hpe
            rw [hpe] at PX1 PX2 hlp
            rw [nxV_some f4] at LO3
            simp only [Option.getD_some, Option.isSome_some] at PX1 PX2 hlp
            have h64 := Lib.hid (fun (i : Nat) (x : Int) (hx : ts[i]? = some x) => by have := expB_small f1 x (List.mem_of_getElem? hx); exact (show -9223372036854775808 ≤ x ∧ x ≤ 9223372036854775807 by omega))
            have SU : Hid (∀ w A c, Reads w A ts → Calls Try.prog 30 #[.slice A ts.length c] w (Ret (.tuple #[.agg #[.int .i64 p3, .int .i64 q3], .bool true]) w)) := Lib.hid fun w A c h => by
              have := sumOf_any w A c ts h (by omega) h64.out
              rwa [f2, f3, f1] at this
            have HZ : Hid (∀ w A B c d, Reads w A ts → Reads w B ts → Calls Try.prog 12 #[.slice A ts.length c, .slice B ts.length d] w (RetQ (.bool true) w)) := Lib.hid fun w A B c d h h' => by
              have := zSame_any w A B c d ts ts h h' (by omega) (by omega)
              rwa [decide_eq_true rfl] at this
            clear hpe f1 f2 f3 f4 h64
            generalize (((loO p3 q3).getD 0 : Nat) : Int) = lo3 at *
            obtain ⟨oK1, oK2, oK3, oK4, oK5⟩ := TK.out
            go_wp2_with fail
            refine (PX1.out _).mono ?_; rintro e w32 ⟨v32, rfl, ho32, hb32⟩; have hz32 := hb32.size; (try simp only [World.size_alloc, World.size_setCell, World.size_drew, World.heap_drewN] at hz32)
            clear oK1 oK2 oK3 oK4 oK5
            have TK := Lib.hid (TK.out.below hb32)
            obtain ⟨A32, c32, rfl, hr32⟩ := ho32.form
            have R32 := Lib.hid hr32
            clear ho32 hr32
            obtain ⟨oK1, oK2, oK3, oK4, oK5⟩ := TK.out
            go_wp2_with fail
            refine (PX2.out _).mono ?_; rintro e w33 ⟨A33, c33, rfl, hr33, hb33⟩; have hz33 := hb33.size; (try simp only [World.size_alloc, World.size_setCell, World.size_drew, World.heap_drewN] at hz33)
            clear oK1 oK2 oK3 oK4 oK5
            have TK := Lib.hid (TK.out.below hb33)
            have R33 := Lib.hid hr33
            clear hr33
            go_wp2_with fail
            refine (HZ.out _ _ _ _ _ (R32.out.below (by (repeat' (first | (with_reducible exact Below.refl _ _) | (with_reducible assumption) | (with_reducible refine Below.drew ?_) | (with_reducible refine belowDrewN ?_ _) | (with_reducible refine Below.alloc ?_ ?_ _) | (with_reducible refine Below.setCell ?_ ?_ _) | (with_reducible refine belowStep (by assumption) ?_ ?_) | (with_reducible exact Below.size (by assumption)) | go_size)))) R33.out).mono ?_; rintro e w34 ⟨rfl, k34, rfl⟩
            go_wp2_with fail
            refine (SU.out _ _ _ (R32.out.below (by (repeat' (first | (with_reducible exact Below.refl _ _) | (with_reducible assumption) | (with_reducible refine Below.drew ?_) | (with_reducible refine belowDrewN ?_ _) | (with_reducible refine Below.alloc ?_ ?_ _) | (with_reducible refine Below.setCell ?_ ?_ _) | (with_reducible refine belowStep (by assumption) ?_ ?_) | (with_reducible exact Below.size (by assumption)) | go_size))))).mono ?_; rintro e w35 ⟨rfl, hb35⟩; have hz35 := hb35.size; (try simp only [World.size_alloc, World.size_setCell, World.size_drew, World.heap_drewN] at hz35)
            have TK := Lib.hid (TK.out.below (show Below w33.heap.size w33 w35 by (repeat' (first | (with_reducible exact Below.refl _ _) | (with_reducible assumption) | (with_reducible refine Below.drew ?_) | (with_reducible refine belowDrewN ?_ _) | (with_reducible refine Below.alloc ?_ ?_ _) | (with_reducible refine Below.setCell ?_ ?_ _) | (with_reducible refine belowStep (by assumption) ?_ ?_) | (with_reducible exact Below.size (by assumption)) | go_size))))
            have TV := Lib.hid (TwoAt.new w35 (p3) (q3) 43)
            have TK := Lib.hid (TK.out.below ((Below.refl _ _).alloc (Nat.le_refl _) (.cells #[.int .i64 p3, .int .i64 q3] 43)))
            have hbw35 : Below w.heap.size w w35 := by (repeat' (first | (with_reducible exact Below.refl _ _) | (with_reducible assumption) | (with_reducible refine Below.drew ?_) | (with_reducible refine belowDrewN ?_ _) | (with_reducible refine Below.alloc ?_ ?_ _) | (with_reducible refine Below.setCell ?_ ?_ _) | (with_reducible refine belowStep (by assumption) ?_ ?_) | (with_reducible exact Below.size (by assumption)) | go_size))
            obtain ⟨oK1, oK2, oK3, oK4, oK5⟩ := TK.out
            go_wp2_with fail
            refine (LO3.out _).mono ?_; rintro e w36 ⟨rfl, hb36⟩; have hz36 := hb36.size; (try simp only [World.size_alloc, World.size_setCell, World.size_drew, World.heap_drewN] at hz36)
            clear oK1 oK2 oK3 oK4 oK5
            have TK := Lib.hid (TK.out.below hb36)
            have TV := Lib.hid (TV.out.below hb36)
            obtain ⟨oK1, oK2, oK3, oK4, oK5⟩ := TK.out
            obtain ⟨oV1, oV2, oV3, oV4, oV5⟩ := TV.out
            go_wp2
            go_ret
            exact ⟨by first | rfl | simp, by (repeat' (first | (with_reducible exact Below.refl _ _) | (with_reducible assumption) | (with_reducible refine Below.drew ?_) | (with_reducible refine belowDrewN ?_ _) | (with_reducible refine Below.alloc ?_ ?_ _) | (with_reducible refine Below.setCell ?_ ?_ _) | (with_reducible refine belowStep (by assumption) ?_ ?_) | (with_reducible exact Below.size (by assumption)) | go_size))⟩
        | some m =>
          obtain ⟨m1, m2, ts2, ho2, f1, f2⟩ := loO_facts hlo
          rw [hlo] at LO1 LO2
          unfold nxV at LO1 LO2
          simp only [Option.getD_some, Option.isSome_some] at LO1 LO2
          have EX2 : Hid (∀ w, Calls Try.prog 28 #[.agg #[.int .i64 p2, .int .i64 q2], .int .i64 (m : Int)] w (RetLB ts2 true w)) := Lib.hid fun w => by
            have := expandOver_any p2 q2 (m : Int) w hp2 hq2
            rwa [ho2] at this
          have hl2 := expB_len f1
          obtain ⟨r, c1, c2, c3, c4⟩ := com_facts f1 f2 m1 m2
          have CM2 : Hid (∀ w A c, Reads w A ts2 → Calls Try.prog 34 #[.slice A ts2.length c] w (Ret (.tuple #[.int .i64 (r : Int), .bool true]) w)) := Lib.hid fun w A c h => by
            have := common_any w A c ts2 h (by omega) (fun i x hx => by have := expB_small f1 x (List.mem_of_getElem? hx); omega)
            rwa [c1, c2] at this
          obtain ⟨e1, e2, _, _⟩ := @remv2 m r
          rw [c4] at e1 e2
          have hrz : (r : Int) ≠ 0 := by omega
          clear hlo ho2 f1 f2 c1 c2 c4
          obtain ⟨oH1, oH2, oH3, oH4, oH5⟩ := TH.out
          go_wp2_with fail
          refine (LO1.out _).mono ?_; rintro e w22 ⟨rfl, hb22⟩; have hz22 := hb22.size; (try simp only [World.size_alloc, World.size_setCell, World.size_drew, World.heap_drewN] at hz22)
          clear oH1 oH2 oH3 oH4 oH5
          have TH := Lib.hid (TH.out.below hb22)
          obtain ⟨oH1, oH2, oH3, oH4, oH5⟩ := TH.out
          go_wp2_with fail
          refine (LO2.out _).mono ?_; rintro e w23 ⟨rfl, hb23⟩; have hz23 := hb23.size; (try simp only [World.size_alloc, World.size_setCell, World.size_drew, World.heap_drewN] at hz23)
          clear oH1 oH2 oH3 oH4 oH5
          have TH := Lib.hid (TH.out.below hb23)
          obtain ⟨oH1, oH2, oH3, oH4, oH5⟩ := TH.out
          go_wp2_with fail
          refine (EX2.out _).mono ?_; rintro e w24 ⟨v24, rfl, ho24, hb24⟩; have hz24 := hb24.size; (try simp only [World.size_alloc, World.size_setCell, World.size_drew, World.heap_drewN] at hz24)
          clear oH1 oH2 oH3 oH4 oH5
          obtain ⟨A24, c24, rfl, hr24⟩ := ho24.form
          have R24 := Lib.hid hr24
          clear ho24 hr24
          go_wp2_with fail
          refine (CM2.out _ _ _ R24.out).mono ?_; rintro e w25 ⟨rfl, hb25⟩; have hz25 := hb25.size; (try simp only [World.size_alloc, World.size_setCell, World.size_drew, World.heap_drewN] at hz25)
          have hbw25 : Below w.heap.size w w25 := by (repeat' (first | (with_reducible exact Below.refl _ _) | (with_reducible assumption) | (with_reducible refine Below.drew ?_) | (with_reducible refine belowDrewN ?_ _) | (with_reducible refine Below.alloc ?_ ?_ _) | (with_reducible refine Below.setCell ?_ ?_ _) | (with_reducible refine belowStep (by assumption) ?_ ?_) | (with_reducible exact Below.size (by assumption)) | go_size))
          go_wp2_with fail
          refine (HDR3.out _ (by (repeat' (first | (with_reducible exact Below.refl _ _) | (with_reducible assumption) | (with_reducible refine Below.drew ?_) | (with_reducible refine belowDrewN ?_ _) | (with_reducible refine Below.alloc ?_ ?_ _) | (with_reducible refine Below.setCell ?_ ?_ _) | (with_reducible refine belowStep (by assumption) ?_ ?_) | (with_reducible exact Below.size (by assumption)) | go_size)))).mono ?_; rintro e w31 ⟨p3, q3, rfl, hp3, hq3, hb31⟩
          have hz31 := hb31.size; (try simp only [World.size_alloc, World.size_setCell, World.size_drew, World.heap_drewN] at hz31)
          have hbw31 : Below w.heap.size w w31 := by (repeat' (first | (with_reducible exact Below.refl _ _) | (with_reducible assumption) | (with_reducible refine Below.drew ?_) | (with_reducible refine belowDrewN ?_ _) | (with_reducible refine Below.alloc ?_ ?_ _) | (with_reducible refine Below.setCell ?_ ?_ _) | (with_reducible refine belowStep (by assumption) ?_ ?_) | (with_reducible exact Below.size (by assumption)) | go_size))
          have TK := Lib.hid (TwoAt.new w31 (p3) (q3) 43)
          have hlp := peO_len p3 q3
          have PX1 : Hid (∀ w, Calls Try.prog 36 #[.agg #[.int .i64 p3, .int .i64 q3]] w (RetLB ((peO p3 q3).getD []) (peO p3 q3).isSome w)) := Lib.hid fun w => practicalExpansion_any p3 q3 w hp3 hq3
          have PX2 : Hid (∀ w, Calls Try.prog 37 #[.agg #[.int .i64 p3, .int .i64 q3]] w (RetRB ((peO p3 q3).getD []) (peO p3 q3).isSome w)) := Lib.hid fun w => spec_practicalExpansion_any p3 q3 w
          have LO3 := Lib.hid fun (w : World) => leastOver_any p3 q3 w hp3 hq3
          cases hpe : peO p3 q3 with
          | none =>
            rw [hpe] at PX1 PX2
            simp only [Option.getD_none, Option.isSome_none] at PX1 PX2
            clear hpe hlp LO3
            obtain ⟨oK1, oK2, oK3, oK4, oK5⟩ := TK.out
            go_wp2_with fail
            refine (PX1.out _).mono ?_; rintro e w32 ⟨v32, rfl, ho32, hb32⟩; have hz32 := hb32.size; (try simp only [World.size_alloc, World.size_setCell, World.size_drew, World.heap_drewN] at hz32)
            clear oK1 oK2 oK3 oK4 oK5
            have TK := Lib.hid (TK.out.below hb32)
            obtain ⟨A32, c32, rfl, hr32⟩ := ho32.form
            have R32 := Lib.hid hr32
            clear ho32 hr32
            obtain ⟨oK1, oK2, oK3, oK4, oK5⟩ := TK.out
            go_wp2_with fail
            refine (PX2.out _).mono ?_; rintro e w33 ⟨A33, c33, rfl, hr33, hb33⟩; have hz33 := hb33.size; (try simp only [World.size_alloc, World.size_setCell, World.size_drew, World.heap_drewN] at hz33)
            clear oK1 oK2 oK3 oK4 oK5
            go_wp2_with fail
            refine (zSame_any _ A32 A33 c32 c33 [] [] Reads.nil Reads.nil (by simp) (by simp)).mono ?_; rintro e w34 ⟨rfl, k34, rfl⟩
            go_wp2
            go_ret
            exact ⟨rfl, by (repeat' (first | (with_reducible exact Below.refl _ _) | (with_reducible assumption) | (with_reducible refine Below.drew ?_) | (with_reducible refine belowDrewN ?_ _) | (with_reducible refine Below.alloc ?_ ?_ _) | (with_reducible refine Below.setCell ?_ ?_ _) | (with_reducible refine belowStep (by assumption) ?_ ?_) | (with_reducible exact Below.size (by assumption)) | go_size))⟩
          | some ts =>
            obtain ⟨f1, f2, f3, f4⟩ := peO_facts hpe
            rw [hpe] at PX1 PX2 hlp
            rw [nxV_some f4] at LO3
            simp only [Option.getD_some, Option.isSome_some] at PX1 PX2 hlp
            have h64 := Lib.hid (fun (i : Nat) (x : Int) (hx : ts[i]? = some x) => by have := expB_small f1 x (List.mem_of_getElem? hx); exact (show -9223372036854775808 ≤ x ∧ x ≤ 9223372036854775807 by omega))
            have SU : Hid (∀ w A c, Reads w A ts → Calls Try.prog 30 #[.slice A ts.length c] w (Ret (.tuple #[.agg #[.int .i64 p3, .int .i64 q3], .bool true]) w)) := Lib.hid fun w A c h => by
              have := sumOf_any w A c ts h (by omega) h64.out
              rwa [f2, f3, f1] at this
            have HZ : Hid (∀ w A B c d, Reads w A ts → Reads w B ts → Calls Try.prog 12 #[.slice A ts.length c, .slice B ts.length d] w (RetQ (.bool true) w)) := Lib.hid fun w A B c d h h' => by
              have := zSame_any w A B c d ts ts h h' (by omega) (by omega)
              rwa [decide_eq_true rfl] at this
            clear hpe f1 f2 f3 f4 h64
            generalize (((loO p3 q3).getD 0 : Nat) : Int) = lo3 at *
            obtain ⟨oK1, oK2, oK3, oK4, oK5⟩ := TK.out
            go_wp2_with fail
            refine (PX1.out _).mono ?_; rintro e w32 ⟨v32, rfl, ho32, hb32⟩; have hz32 := hb32.size; (try simp only [World.size_alloc, World.size_setCell, World.size_drew, World.heap_drewN] at hz32)
            clear oK1 oK2 oK3 oK4 oK5
            have TK := Lib.hid (TK.out.below hb32)
            obtain ⟨A32, c32, rfl, hr32⟩ := ho32.form
            have R32 := Lib.hid hr32
            clear ho32 hr32
            obtain ⟨oK1, oK2, oK3, oK4, oK5⟩ := TK.out
            go_wp2_with fail
            refine (PX2.out _).mono ?_; rintro e w33 ⟨A33, c33, rfl, hr33, hb33⟩; have hz33 := hb33.size; (try simp only [World.size_alloc, World.size_setCell, World.size_drew, World.heap_drewN] at hz33)
            clear oK1 oK2 oK3 oK4 oK5
            have TK := Lib.hid (TK.out.below hb33)
            have R33 := Lib.hid hr33
            clear hr33
            go_wp2_with fail
            refine (HZ.out _ _ _ _ _ (R32.out.below (by (repeat' (first | (with_reducible exact Below.refl _ _) | (with_reducible assumption) | (with_reducible refine Below.drew ?_) | (with_reducible refine belowDrewN ?_ _) | (with_reducible refine Below.alloc ?_ ?_ _) | (with_reducible refine Below.setCell ?_ ?_ _) | (with_reducible refine belowStep (by assumption) ?_ ?_) | (with_reducible exact Below.size (by assumption)) | go_size)))) R33.out).mono ?_; rintro e w34 ⟨rfl, k34, rfl⟩
            go_wp2_with fail
            refine (SU.out _ _ _ (R32.out.below (by (repeat' (first | (with_reducible exact Below.refl _ _) | (with_reducible assumption) | (with_reducible refine Below.drew ?_) | (with_reducible refine belowDrewN ?_ _) | (with_reducible refine Below.alloc ?_ ?_ _) | (with_reducible refine Below.setCell ?_ ?_ _) | (with_reducible refine belowStep (by assumption) ?_ ?_) | (with_reducible exact Below.size (by assumption)) | go_size))))).mono ?_; rintro e w35 ⟨rfl, hb35⟩; have hz35 := hb35.size; (try simp only [World.size_alloc, World.size_setCell, World.size_drew, World.heap_drewN] at hz35)
            have TK := Lib.hid (TK.out.below (show Below w33.heap.size w33 w35 by (repeat' (first | (with_reducible exact Below.refl _ _) | (with_reducible assumption) | (with_reducible refine Below.drew ?_) | (with_reducible refine belowDrewN ?_ _) | (with_reducible refine Below.alloc ?_ ?_ _) | (with_reducible refine Below.setCell ?_ ?_ _) | (with_reducible refine belowStep (by assumption) ?_ ?_) | (with_reducible exact Below.size (by assumption)) | go_size))))
            have TV := Lib.hid (TwoAt.new w35 (p3) (q3) 43)
            have TK := Lib.hid (TK.out.below ((Below.refl _ _).alloc (Nat.le_refl _) (.cells #[.int .i64 p3, .int .i64 q3] 43)))
            have hbw35 : Below w.heap.size w w35 := by (repeat' (first | (with_reducible exact Below.refl _ _) | (with_reducible assumption) | (with_reducible refine Below.drew ?_) | (with_reducible refine belowDrewN ?_ _) | (with_reducible refine Below.alloc ?_ ?_ _) | (with_reducible refine Below.setCell ?_ ?_ _) | (with_reducible refine belowStep (by assumption) ?_ ?_) | (with_reducible exact Below.size (by assumption)) | go_size))
            obtain ⟨oK1, oK2, oK3, oK4, oK5⟩ := TK.out
            go_wp2_with fail
            refine (LO3.out _).mono ?_; rintro e w36 ⟨rfl, hb36⟩; have hz36 := hb36.size; (try simp only [World.size_alloc, World.size_setCell, World.size_drew, World.heap_drewN] at hz36)
            clear oK1 oK2 oK3 oK4 oK5
            have TK := Lib.hid (TK.out.below hb36)
            have TV := Lib.hid (TV.out.below hb36)
            obtain ⟨oK1, oK2, oK3, oK4, oK5⟩ := TK.out
            obtain ⟨oV1, oV2, oV3, oV4, oV5⟩ := TV.out
            go_wp2
            go_ret
            exact ⟨by first | rfl | simp, by (repeat' (first | (with_reducible exact Below.refl _ _) | (with_reducible assumption) | (with_reducible refine Below.drew ?_) | (with_reducible refine belowDrewN ?_ _) | (with_reducible refine Below.alloc ?_ ?_ _) | (with_reducible refine Below.setCell ?_ ?_ _) | (with_reducible refine belowStep (by assumption) ?_ ?_) | (with_reducible exact Below.size (by assumption)) | go_size))⟩
set_option maxRecDepth 100000 in
set_option maxHeartbeats 8000000 in
theorem FnExpansionsOverNumbers_walk (w : World) (A : Option Addr) (c n : Nat) (B : Option Addr) (d m' : Nat) (hA : ReadsB w A n ∧ n ≤ 9223372036854775807) (hB : ReadsB w B m' ∧ m' ≤ 9223372036854775807) :
    Calls Try.prog 5 #[.slice A n c, .slice B m' d] w (Ret (.bool true) w) := by
  obtain ⟨hA, hn⟩ := hA
  obtain ⟨hB, hm'⟩ := hB
  have HA := Lib.hid hA
  have HB := Lib.hid hB
  clear hA hB
  cases hbig : bigB n m' with
  | true =>
    go_enter Try.func5, Try.ntmps5
    go_wp2_with fail
    refine (big_any _ _ _ _ _ _ _ hn hm').mono ?_; rintro e w1 ⟨rfl, k1, rfl⟩
    rw [hbig]
    go_wp2
    go_ret
    exact ⟨rfl, by (repeat' (first | (with_reducible exact Below.refl _ _) | (with_reducible assumption) | (with_reducible refine Below.drew ?_) | (with_reducible refine belowDrewN ?_ _) | (with_reducible refine Below.alloc ?_ ?_ _) | (with_reducible refine Below.setCell ?_ ?_ _) | (with_reducible refine belowStep (by assumption) ?_ ?_) | (with_reducible exact Below.size (by assumption)) | go_size))⟩
  | false =>
    have hn2 : n ≤ 1048576 ∧ m' ≤ 1048576 := by
      simp only [bigB, Bool.or_eq_false_iff, decide_eq_false_iff_not] at hbig
      omega
    exact eo_whole w A c n B d m' hbig hn2.1 hn2.2 (fun w' hb => drawExpandOver_any w' A n c (HA.out.below hb) hn2.1) (fun w' hb => drawLeastOver_any w' B m' d (HB.out.below hb) hn2.2) (fun w' hb => drawPractical_any w' B m' d (HB.out.below hb) hn2.2)

set_option maxRecDepth 100000 in
theorem FnExpansionsOverNumbers_lifted (os : Os) (started : os.Started) (H : Type) (enc : TypeId × Value → H) :
    ReturnsInHanded {} Try.checked os 5 .any (Rows.fnExpansionsOverNumbersSpec.pre6 enc Try.prog Try.f5 Rows.fnExpansionsOverNumbersRow.domain false) (Rows.fnExpansionsOverNumbersSpec.post enc Try.prog Try.f5 false true false false) := by
  refine returnsInHanded_of_change (C := Try.checked) own started (by kernel_rfl) Try.func5
    (ChangeSpec.witness6 (enc := enc) (C := Try.checked) false ⟨#[], #[.slice none 0 0, .slice none 0 0], []⟩ 8 (by kernel_rfl) (by kernel_rfl) (by kernel_rfl) (by kernel_rfl)) ?_
  intro W base args ds gs before hval0 hW hcnd _
  have hval : ∀ (j : Nat) t v, Try.f5.params[j]? = some t → args[j]? = some v → Value.okWide Try.prog W .any base t v := hval0
  have hW' := hW
  have hlt : ∀ p ∈ before, p.block < W.heap.size := fun p hp => hW'.lt p hp
  obtain ⟨p, q, hA0, hV, rfl, hfz, hnd⟩ := hW
  have hA : DataW.TrodAll enc Try.prog W 0 (fun _ => true) true Try.f5.params.toList args.toList ds p := hA0
  rw [Try.params5] at hA hval
  obtain ⟨v0, vs0, d0, ds0, p0, q0, hargs, rfl, rfl, h0, r0⟩ := trodAll_cons hA
  obtain ⟨v1, vs1, d1, ds1, p1, q1, rfl, rfl, rfl, h1, r1⟩ := trodAll_cons r0
  obtain ⟨rfl, rfl, rfl⟩ := trodAll_nil r1
  obtain rfl : args = #[v0, v1] := by cases args; simp_all
  obtain ⟨rfl, rfl⟩ := trodVars_none hV
  obtain ⟨Aa, ca, na, rfl, ha⟩ := open_bytes_reads Try.underlying22 Try.underlying5 (by kernel_rfl) (hval 0 22 v0 rfl rfl) h0 (fun y hy => hlt y (by simp [hy]))
  obtain ⟨Ab, cb, nb, rfl, hb⟩ := open_bytes_reads Try.underlying22 Try.underlying5 (by kernel_rfl) (hval 1 22 v1 rfl rfl) h1 (fun y hy => hlt y (by simp [hy]))
  refine (FnExpansionsOverNumbers_walk W Aa ca na Ab cb nb ha hb).mono fun e W' ⟨he, hg⟩ => ?_
  subst he
  exact ⟨_, rfl, law_post laidOut (by rw [Try.params5]; intro t ht; simp only [List.mem_cons, List.not_mem_nil, or_false] at ht; rcases ht with rfl | rfl <;> exact ⟨by kernel_rfl, of_decide_eq_true (by kernel_rfl)⟩) (by kernel_rfl) Try.underlying4 rfl hW' rfl hg⟩

theorem FnExpansionsOverNumbers_closed : joinedFacts Try.prog 5 Try.f5 Rows.fnExpansionsOverNumbersSpec Rows.fnExpansionsOverNumbersRow = true := by
  unfold joinedFacts
  rw [mayEnter_eq, lifts_eq, make_eq]
  kernel_rfl

theorem FnExpansionsOverNumbers_holds : Rows.FnExpansionsOverNumbersSaid :=
  OpenClaim.holds_of_wide 5 Try.f5 rfl rfl rfl rfl rfl rfl rfl ⟨rfl, rfl, rfl, rfl, rfl⟩ rfl rfl rfl rfl rfl (by kernel_rfl) Try.func5 FnExpansionsOverNumbers_closed
    (of_decide_eq_true (by kernel_rfl)) (by unfold Func.isWrapper; first | (rw [if_pos (by decide +kernel)]; kernel_rfl) | (rw [if_neg (by decide +kernel)]; exact ⟨rfl, rfl⟩))
    (fun os started H enc _ => FnExpansionsOverNumbers_lifted os started H enc)

end Go.Proofs.Ytiapljimgnhgoac
