
/-
  Contracts of greedy expansions of quotients, of QuotientExpansion and of SharesOf, in the program and in the model.
-/
import Derived.Test.YtleookfdngnphaaGrX
import Derived.Test.YtleookfdngnphaaOps
import Derived.Test.YtleookfdngnphaaLists
import Derived.Test.YtleookfdngnphaaFrac
namespace Go.Proofs.Ytleookfdngnphaa
open Go.RowKit
/-- a factor -/
def facB (n : Int) : Bool := decide (0 ≤ n) && decide (n ≤ 1000000)
theorem facB_iff (n : Int) : facB n = true ↔ 0 ≤ n ∧ n ≤ 1000000 := by simp [facB]
theorem facB_nat {n : Int} (h : facB n = true) : ∃ N : Nat, n = (N : Int) ∧ N ≤ 1000000 := by
  obtain ⟨h1, h2⟩ := (facB_iff n).1 h
  exact ⟨n.toNat, by omega, by omega⟩
def quoB (a b : Int) : Bool := facB a && facB b && decide (0 < b)
theorem quoB_nat {a b : Int} (h : quoB a b = true) : ∃ A B : Nat, a = (A : Int) ∧ b = (B : Int) ∧ A ≤ 1000000 ∧ 1 ≤ B ∧ B ≤ 1000000 := by
  unfold quoB at h
  simp only [Bool.and_eq_true, decide_eq_true_eq] at h
  obtain ⟨A, rfl, a1⟩ := facB_nat h.1.1
  obtain ⟨B, rfl, b1⟩ := facB_nat h.1.2
  exact ⟨A, B, rfl, rfl, a1, by omega, b1⟩
theorem isFactor_any (n : Int) (w : World) : Calls Try.prog 92 #[.int .i64 n] w (RetQ (.bool (facB n)) w) := by
  by_cases h : 0 ≤ n ∧ n ≤ 1000000
  · have E := Lib.hid ((facB_iff n).2 h)
    obtain ⟨h1, h2⟩ := h
    go_enter Try.func92, Try.ntmps92
    go_wp2
    go_ret
    exact ⟨ret_bool E.out.symm, 0, rfl⟩
  · have E : Hid (facB n = false) := Lib.hid (by simp [facB]; omega)
    by_cases h1 : 0 ≤ n
    · have h2 : ¬ n ≤ 1000000 := fun h2 => h ⟨h1, h2⟩
      go_enter Try.func92, Try.ntmps92
      go_wp2
      go_ret
      exact ⟨ret_bool E.out.symm, 0, rfl⟩
    · clear h
      go_enter Try.func92, Try.ntmps92
      go_wp2
      go_ret
      exact ⟨ret_bool E.out.symm, 0, rfl⟩
theorem scFactor_any (n : Int) (w : World) : Calls Try.prog 96 #[.int .i64 n] w (RetQ (.bool (facB n)) w) := by
  by_cases h : 0 ≤ n ∧ n ≤ 1000000
  · have E := Lib.hid ((facB_iff n).2 h)
    obtain ⟨h1, h2⟩ := h
    go_enter Try.func96, Try.ntmps96
    go_wp2_with fail
    refine (l1In_yes _ _ _ _ h1 h2).mono ?_; rintro e w1 ⟨rfl, k1, rfl⟩
    go_wp2
    go_ret
    exact ⟨ret_bool E.out.symm, _, rfl⟩
  · have E : Hid (facB n = false) := Lib.hid (by simp [facB]; omega)
    go_enter Try.func96, Try.ntmps96
    go_wp2_with fail
    refine (l1In_no _ _ _ _ h).mono ?_; rintro e w1 ⟨rfl, k1, rfl⟩
    go_wp2
    go_ret
    exact ⟨ret_bool E.out.symm, _, rfl⟩
theorem areForQuotient_any (a b : Int) (w : World) : Calls Try.prog 101 #[.int .i64 a, .int .i64 b] w (RetQ (.bool (quoB a b)) w) := by
  have HA := Lib.hid fun (w : World) => isFactor_any a w
  have HB := Lib.hid fun (w : World) => isFactor_any b w
  unfold quoB
  cases ha : facB a with
  | false =>
    rw [ha] at HA
    clear ha
    go_enter Try.func101, Try.ntmps101
    go_wp2_with fail
    refine (HA.out _).mono ?_; rintro e w1 ⟨rfl, k1, rfl⟩
    go_wp2
    go_ret
    exact ⟨rfl, _, rfl⟩
  | true =>
    rw [ha] at HA
    clear ha
    cases hb : facB b with
    | false =>
      rw [hb] at HB
      clear hb
      go_enter Try.func101, Try.ntmps101
      go_wp2_with fail
      refine (HA.out _).mono ?_; rintro e w1 ⟨rfl, k1, rfl⟩
      go_wp2_with fail
      refine (HB.out _).mono ?_; rintro e w2 ⟨rfl, k2, rfl⟩
      go_wp2
      go_ret
      exact ⟨rfl, _, rfl⟩
    | true =>
      rw [hb] at HB
      clear hb
      by_cases h : 0 < b
      · go_enter Try.func101, Try.ntmps101
        go_wp2_with fail
        refine (HA.out _).mono ?_; rintro e w1 ⟨rfl, k1, rfl⟩
        go_wp2_with fail
        refine (HB.out _).mono ?_; rintro e w2 ⟨rfl, k2, rfl⟩
        go_wp2
        go_ret
        exact ⟨ret_bool (by simp [h]), _, rfl⟩
      · go_enter Try.func101, Try.ntmps101
        go_wp2_with fail
        refine (HA.out _).mono ?_; rintro e w1 ⟨rfl, k1, rfl⟩
        go_wp2_with fail
        refine (HB.out _).mono ?_; rintro e w2 ⟨rfl, k2, rfl⟩
        go_wp2
        go_ret
        exact ⟨ret_bool (by simp), _, rfl⟩
/-- the greedy expansion of a quotient -/
def gqO (n d : Int) : Option (List Int) := gexO (n / gcdI n d) (d / gcdI n d)
theorem gqO_len (n d : Int) : ((gqO n d).getD []).length ≤ 24 := gexO_len _ _
theorem red_smallQ {n d : Int} (h0 : 0 ≤ n) (hn : n ≤ 1000000000) (h1 : 1 ≤ d) (hd : d ≤ 1000000000) : redB n d = true := by
  have hg := gcdI_pos n d (by omega)
  have u1 := Int.ediv_le_self (gcdI n d) h0
  have u2 := Int.ediv_le_self (gcdI n d) (show 0 ≤ d by omega)
  exact redB_yes (by omega) (by omega)
theorem red_in {n d : Int} (h0 : 0 ≤ n) (hn : n ≤ 1000000000) (h1 : 1 ≤ d) (hd : d ≤ 1000000000) : 0 ≤ n / gcdI n d ∧ n / gcdI n d ≤ 1000000000 ∧ 1 ≤ d / gcdI n d ∧ d / gcdI n d ≤ 1000000000 := by
  have hg := gcdI_pos n d (by omega)
  have u1 := Int.ediv_le_self (gcdI n d) h0
  have u2 := Int.ediv_le_self (gcdI n d) (show 0 ≤ d by omega)
  exact ⟨Int.ediv_nonneg h0 (by omega), by omega, div_pos1 h1 (by omega) (gcdI_dvdR n d), by omega⟩
set_option maxRecDepth 100000 in
set_option maxHeartbeats 2000000 in
theorem greedyQuo_any (n d : Int) (w : World) (h0 : 0 ≤ n) (hn : n ≤ 1000000000) (h1 : 1 ≤ d) (hd : d ≤ 1000000000) : Calls Try.prog 104 #[.int .i64 n, .int .i64 d] w (RetLB ((gqO n d).getD []) (gqO n d).isSome w) := by
  have hr := red_smallQ h0 hn h1 hd
  obtain ⟨r1, r2, r3, r4⟩ := red_in h0 hn h1 hd
  have HM : Hid (∀ w, Calls Try.prog 28 #[.int .i64 n, .int .i64 d] w (Ret (.tuple #[.agg #[.int .i64 (n / gcdI n d), .int .i64 (d / gcdI n d)], .bool true]) w)) := Lib.hid fun w => by
    have := make_yes n d w h0 h1 (by omega) (by omega)
    have e1 : redN n d = n / gcdI n d := by unfold redN; rw [if_pos hr]
    have e2 : redD n d = d / gcdI n d := by unfold redD; rw [if_pos hr]
    rwa [e1, e2, hr] at this
  have HG := Lib.hid fun (w : World) => greedyExp_any (n / gcdI n d) (d / gcdI n d) w ⟨by omega, by omega⟩ ⟨by omega, by omega⟩
  have E := Lib.hid (show gqO n d = gexO (n / gcdI n d) (d / gcdI n d) from rfl)
  rw [E.out]
  generalize gexO (n / gcdI n d) (d / gcdI n d) = o at *
  generalize n / gcdI n d = p at *
  generalize d / gcdI n d = q at *
  clear E hr
  go_enter Try.func104, Try.ntmps104
  go_wp2_with fail
  refine (HM.out _).mono ?_; rintro e w1 ⟨rfl, hb1⟩; obtain ⟨hc1, hf1⟩ := bcellB hb1; have hz1 := hb1.size; (try simp only [World.size_alloc, World.size_setCell, World.size_drew, World.heap_drewN] at hc1 hf1 hz1); (try have hy1_r_0 : wr.heap.size < w1.heap.size := by omega); (try have hn1_r_0 : wr.heap.size ≠ w1.heap.size := by omega); (try have hm1_r_0 : w1.heap.size ≠ wr.heap.size := by omega); (try have hy1_r_1 : wr.heap.size + 1 < w1.heap.size := by omega); (try have hn1_r_1 : wr.heap.size + 1 ≠ w1.heap.size := by omega); (try have hm1_r_1 : w1.heap.size ≠ wr.heap.size + 1 := by omega); (try have hy1_r_2 : wr.heap.size + 1 + 1 < w1.heap.size := by omega); (try have hp1_r_1 : wr.heap.size < w1.heap.size + 1 := by omega); (try have hp1_r_2 : wr.heap.size < w1.heap.size + 1 + 1 := by omega); (try have hy1_0_0 : w.heap.size < w1.heap.size := by omega); (try have hn1_0_0 : w.heap.size ≠ w1.heap.size := by omega); (try have hm1_0_0 : w1.heap.size ≠ w.heap.size := by omega); (try have hy1_0_1 : w.heap.size + 1 < w1.heap.size := by omega); (try have hn1_0_1 : w.heap.size + 1 ≠ w1.heap.size := by omega); (try have hm1_0_1 : w1.heap.size ≠ w.heap.size + 1 := by omega); (try have hy1_0_2 : w.heap.size + 1 + 1 < w1.heap.size := by omega); (try have hp1_0_1 : w.heap.size < w1.heap.size + 1 := by omega); (try have hp1_0_2 : w.heap.size < w1.heap.size + 1 + 1 := by omega); (try have hg1_g1 : g1 < w1.heap.size := by omega); (try have hi1_g1 : g1 ≠ w1.heap.size := by omega); (try have hj1_g1 : w1.heap.size ≠ g1 := by omega); (try have hk1_g1 : g1 < w1.heap.size + 1 := by omega); (try have hg1_g2 : g2 < w1.heap.size := by omega); (try have hi1_g2 : g2 ≠ w1.heap.size := by omega); (try have hj1_g2 : w1.heap.size ≠ g2 := by omega); (try have hk1_g2 : g2 < w1.heap.size + 1 := by omega)
  go_wp2_with fail
  refine (HG.out _).mono ?_; rintro e w2 ⟨v2, rfl, ho2, hb2⟩; have hz2 := hb2.size; (try simp only [World.size_alloc] at hz2)
  go_wp2
  go_ret2
  exact ⟨_, rfl, ho2.mono (by (first | (go_size; done) | ((try simp only [World.size_alloc, World.size_setCell, World.size_drew, World.heap_drewN]); omega))), by (repeat' (first | (with_reducible exact Below.refl _ _) | (with_reducible assumption) | (with_reducible refine Below.drew ?_) | (with_reducible refine belowDrewN ?_ _) | (with_reducible refine Below.alloc ?_ ?_ _) | (with_reducible refine Below.setCell ?_ ?_ _) | (with_reducible refine belowStep (by assumption) ?_ ?_) | (with_reducible exact Below.size (by assumption)) | go_size))⟩
def RetILB (z : Int) (ys : List Int) (b : Bool) (w : World) (e : Ending) (w' : World) : Prop := ∃ v, e = .returned (.tuple #[.int .i64 z, v, .bool b]) ∧ OwnI w' w.heap.size v ys ∧ Below w.heap.size w w'
def RetIRB (z : Int) (ys : List Int) (b : Bool) (w : World) (e : Ending) (w' : World) : Prop := ∃ A c, e = .returned (.tuple #[.int .i64 z, .slice A ys.length c, .bool b]) ∧ Reads w' A ys ∧ Below w.heap.size w w'
def RetLIB (ys : List Int) (z : Int) (b : Bool) (w : World) (e : Ending) (w' : World) : Prop := ∃ v, e = .returned (.tuple #[v, .int .i64 z, .bool b]) ∧ OwnI w' w.heap.size v ys ∧ Below w.heap.size w w'
/-- the quotient with the expansion of what is left -/
def qxO (a b : Int) : Option (Int × List Int) := if quoB a b = true then (gqO (a % b) b).map (fun l => (a / b, l)) else none
def qxL (a b : Int) : List Int := ((qxO a b).map (·.2)).getD []
def qxZ (a b : Int) : Int := ((qxO a b).map (·.1)).getD 0
theorem qxO_bad {a b : Int} (h : quoB a b = false) : qxO a b = none := by unfold qxO; rw [h]; rfl
theorem qxO_none {a b : Int} (h : gqO (a % b) b = none) : qxO a b = none := by unfold qxO; rw [h]; split <;> rfl
theorem qxO_some {a b : Int} {l : List Int} (hq : quoB a b = true) (h : gqO (a % b) b = some l) : qxO a b = some (a / b, l) := by unfold qxO; rw [if_pos hq, h]; rfl
theorem qx_none {a b : Int} (h : qxO a b = none) : qxL a b = [] ∧ qxZ a b = 0 := by unfold qxL qxZ; rw [h]; exact ⟨rfl, rfl⟩
theorem qx_some {a b z : Int} {l : List Int} (h : qxO a b = some (z, l)) : qxL a b = l ∧ qxZ a b = z := by unfold qxL qxZ; rw [h]; exact ⟨rfl, rfl⟩
theorem qxL_len (a b : Int) : (qxL a b).length ≤ 24 := by
  cases h : qxO a b with
  | none => rw [(qx_none h).1]; simp
  | some p =>
    obtain ⟨z, l⟩ := p
    rw [(qx_some h).1]
    have hg := gqO_len (a % b) b
    unfold qxO at h
    split at h
    · cases hq : gqO (a % b) b with
      | none => rw [hq] at h; cases h
      | some l' =>
        rw [hq] at h hg
        injection h with h
        injection h with _ h
        subst h
        simpa using hg
    · cases h
set_option maxRecDepth 100000 in
set_option maxHeartbeats 2000000 in
theorem quotientExp_any (a b : Int) (w : World) : Calls Try.prog 25 #[.int .i64 a, .int .i64 b] w (RetILB (qxZ a b) (qxL a b) (qxO a b).isSome w) := by
  have HA := Lib.hid fun (w : World) => areForQuotient_any a b w
  cases hq : quoB a b with
  | false =>
    have hx := qxO_bad hq
    obtain ⟨e1, e2⟩ := qx_none hx
    rw [e1, e2, hx]
    rw [hq] at HA
    clear hq e1 e2 hx
    go_enter Try.func25, Try.ntmps25
    go_wp2_with fail
    refine (HA.out _).mono ?_; rintro e w1 ⟨rfl, k1, rfl⟩
    go_wp2
    go_ret3
    exact ⟨_, rfl, OwnI.empty _ _, by (repeat' (first | (with_reducible exact Below.refl _ _) | (with_reducible assumption) | (with_reducible refine Below.drew ?_) | (with_reducible refine belowDrewN ?_ _) | (with_reducible refine Below.alloc ?_ ?_ _) | (with_reducible refine Below.setCell ?_ ?_ _) | (with_reducible refine belowStep (by assumption) ?_ ?_) | (with_reducible exact Below.size (by assumption)) | go_size))⟩
  | true =>
    obtain ⟨A, B, rfl, rfl, a1, b1, b2⟩ := quoB_nat hq
    rw [hq] at HA
    have hBz : (B : Int) ≠ 0 := by omega
    obtain ⟨m1, m2, m3, m4⟩ : (((A : Int).tmod (B : Int) = ((A % B : Nat) : Int)) ∧ ((A : Int) % (B : Int) = ((A % B : Nat) : Int)) ∧ ((A : Int).tdiv (B : Int) = ((A / B : Nat) : Int)) ∧ ((A : Int) / (B : Int) = ((A / B : Nat) : Int))) := by
      refine ⟨?_, (Int.natCast_emod A B).symm, ?_, (Int.natCast_ediv A B).symm⟩
      · rw [Int.tmod_eq_emod_of_nonneg (by omega), Int.natCast_emod]
      · rw [Int.tdiv_eq_ediv_of_nonneg (by omega), Int.natCast_ediv]
    have hml : A % B ≤ A := Nat.mod_le A B
    have hdl : A / B ≤ A := Nat.div_le_self A B
    have HG := Lib.hid fun (w : World) => greedyQuo_any ((A % B : Nat) : Int) (B : Int) w (by omega) (by omega) (by omega) (by omega)
    cases ho : gqO ((A % B : Nat) : Int) (B : Int) with
    | none =>
      have hx : qxO (A : Int) (B : Int) = none := qxO_none (by rw [m2]; exact ho)
      obtain ⟨e1, e2⟩ := qx_none hx
      rw [e1, e2, hx]
      rw [ho] at HG
      clear hq ho e1 e2 hx
      generalize A % B = r at *
      generalize A / B = q at *
      go_enter Try.func25, Try.ntmps25
      go_wp2_with fail
      refine (HA.out _).mono ?_; rintro e w1 ⟨rfl, k1, rfl⟩
      go_wp2_with fail
      refine (HG.out _).mono ?_; rintro e w2 ⟨v2, rfl, ho2, hb2⟩; have hz2 := hb2.size; (try simp only [World.heap_drewN] at hz2)
      go_wp2
      go_ret3
      exact ⟨_, rfl, OwnI.empty _ _, by (repeat' (first | (with_reducible exact Below.refl _ _) | (with_reducible assumption) | (with_reducible refine Below.drew ?_) | (with_reducible refine belowDrewN ?_ _) | (with_reducible refine Below.alloc ?_ ?_ _) | (with_reducible refine Below.setCell ?_ ?_ _) | (with_reducible refine belowStep (by assumption) ?_ ?_) | (with_reducible exact Below.size (by assumption)) | go_size))⟩
    | some l =>
      have hx : qxO (A : Int) (B : Int) = some ((A : Int) / (B : Int), l) := qxO_some hq (by rw [m2]; exact ho)
      obtain ⟨e1, e2⟩ := qx_some hx
      rw [e1, e2, hx, m4]
      rw [ho] at HG
      clear hq ho e1 e2 hx
      generalize A % B = r at *
      generalize A / B = q at *
      go_enter Try.func25, Try.ntmps25
      go_wp2_with fail
      refine (HA.out _).mono ?_; rintro e w1 ⟨rfl, k1, rfl⟩
      go_wp2_with fail
      refine (HG.out _).mono ?_; rintro e w2 ⟨v2, rfl, ho2, hb2⟩; have hz2 := hb2.size; (try simp only [World.heap_drewN] at hz2)
      go_wp2
      go_ret3
      exact ⟨_, rfl, ho2.mono (by (first | (go_size; done) | ((try simp only [World.size_alloc, World.size_setCell, World.size_drew, World.heap_drewN]); omega))), by (repeat' (first | (with_reducible exact Below.refl _ _) | (with_reducible assumption) | (with_reducible refine Below.drew ?_) | (with_reducible refine belowDrewN ?_ _) | (with_reducible refine Below.alloc ?_ ?_ _) | (with_reducible refine Below.setCell ?_ ?_ _) | (with_reducible refine belowStep (by assumption) ?_ ?_) | (with_reducible exact Below.size (by assumption)) | go_size))⟩
set_option maxRecDepth 100000 in
set_option maxHeartbeats 2000000 in
theorem spec_quotientExp_any (a b : Int) (w : World) : Calls Try.prog 26 #[.int .i64 a, .int .i64 b] w (RetIRB (qxZ a b) (qxL a b) (qxO a b).isSome w) := by
  have HA := Lib.hid fun (w : World) => scFactor_any a w
  cases hq : quoB a b with
  | false =>
    have hx := qxO_bad hq
    obtain ⟨e1, e2⟩ := qx_none hx
    rw [e1, e2, hx]
    clear e1 e2 hx
    cases ha : facB a with
    | false =>
      rw [ha] at HA
      clear hq ha
      go_enter Try.func26, Try.ntmps26
      go_wp2_with fail
      refine (HA.out _).mono ?_; rintro e w1 ⟨rfl, k1, rfl⟩
      go_wp2
      go_ret3
      exact ⟨none, 0, rfl, Reads.nil, by (repeat' (first | (with_reducible exact Below.refl _ _) | (with_reducible assumption) | (with_reducible refine Below.drew ?_) | (with_reducible refine belowDrewN ?_ _) | (with_reducible refine Below.alloc ?_ ?_ _) | (with_reducible refine Below.setCell ?_ ?_ _) | (with_reducible refine belowStep (by assumption) ?_ ?_) | (with_reducible exact Below.size (by assumption)) | go_size))⟩
    | true =>
      have hb : ¬ (1 ≤ b ∧ b ≤ 1000000) := fun h => by
        have h1 := (facB_iff b).2 ⟨by omega, h.2⟩
        unfold quoB at hq
        rw [ha, h1] at hq
        simp at hq
        omega
      rw [ha] at HA
      clear hq ha
      go_enter Try.func26, Try.ntmps26
      go_wp2_with fail
      refine (HA.out _).mono ?_; rintro e w1 ⟨rfl, k1, rfl⟩
      go_wp2_with fail
      refine (l1In_no _ _ _ _ hb).mono ?_; rintro e w2 ⟨rfl, k2, rfl⟩
      go_wp2
      go_ret3
      exact ⟨none, 0, rfl, Reads.nil, by (repeat' (first | (with_reducible exact Below.refl _ _) | (with_reducible assumption) | (with_reducible refine Below.drew ?_) | (with_reducible refine belowDrewN ?_ _) | (with_reducible refine Below.alloc ?_ ?_ _) | (with_reducible refine Below.setCell ?_ ?_ _) | (with_reducible refine belowStep (by assumption) ?_ ?_) | (with_reducible exact Below.size (by assumption)) | go_size))⟩
  | true =>
    obtain ⟨A, B, rfl, rfl, a1, b1, b2⟩ := quoB_nat hq
    have ha : facB (A : Int) = true := (facB_iff _).2 ⟨by omega, by omega⟩
    rw [ha] at HA
    have hBz : (B : Int) ≠ 0 := by omega
    obtain ⟨m1, m2, m3, m4⟩ : (((A : Int).tmod (B : Int) = ((A % B : Nat) : Int)) ∧ ((A : Int) % (B : Int) = ((A % B : Nat) : Int)) ∧ ((A : Int).tdiv (B : Int) = ((A / B : Nat) : Int)) ∧ ((A : Int) / (B : Int) = ((A / B : Nat) : Int))) := by
      refine ⟨?_, (Int.natCast_emod A B).symm, ?_, (Int.natCast_ediv A B).symm⟩
      · rw [Int.tmod_eq_emod_of_nonneg (by omega), Int.natCast_emod]
      · rw [Int.tdiv_eq_ediv_of_nonneg (by omega), Int.natCast_ediv]
    have hml : A % B ≤ A := Nat.mod_le A B
    have hdl : A / B ≤ A := Nat.div_le_self A B
    have HM := Lib.hid fun (w : World) => unMake_any ((A % B : Nat) : Int) (B : Int) w (by omega) (by omega) (by omega) (by omega)
    have HG : Hid (∀ w, Calls Try.prog 105 #[.agg #[.int .i64 (((A % B : Nat) : Int) / gcdI ((A % B : Nat) : Int) (B : Int)), .int .i64 ((B : Int) / gcdI ((A % B : Nat) : Int) (B : Int))]] w (RetRB ((gqO ((A % B : Nat) : Int) (B : Int)).getD []) (gqO ((A % B : Nat) : Int) (B : Int)).isSome w)) := Lib.hid fun w => spec_greedyExp_any _ _ w
    have hb1 : (1 : Int) ≤ (B : Int) := by omega
    have hb2 : (B : Int) ≤ 1000000 := by omega
    cases ho : gqO ((A % B : Nat) : Int) (B : Int) with
    | none =>
      have hx : qxO (A : Int) (B : Int) = none := qxO_none (by rw [m2]; exact ho)
      obtain ⟨e1, e2⟩ := qx_none hx
      rw [e1, e2, hx]
      rw [ho] at HG
      clear hq ho e1 e2 hx ha
      generalize ((A % B : Nat) : Int) / gcdI ((A % B : Nat) : Int) (B : Int) = x at *
      generalize (B : Int) / gcdI ((A % B : Nat) : Int) (B : Int) = y at *
      generalize A % B = r at *
      generalize A / B = q at *
      go_enter Try.func26, Try.ntmps26
      go_wp2_with fail
      refine (HA.out _).mono ?_; rintro e w1 ⟨rfl, k1, rfl⟩
      go_wp2_with fail
      refine (l1In_yes _ _ _ _ hb1 hb2).mono ?_; rintro e w2 ⟨rfl, k2, rfl⟩
      go_wp2_with fail
      refine (HM.out _).mono ?_; rintro e w3 ⟨rfl, hb3⟩; obtain ⟨hc3, hf3⟩ := bcellB hb3; have hz3 := hb3.size; (try simp only [World.heap_drewN] at hc3 hf3 hz3); (try have hy3_r_0 : wr.heap.size < w3.heap.size := by omega); (try have hn3_r_0 : wr.heap.size ≠ w3.heap.size := by omega); (try have hm3_r_0 : w3.heap.size ≠ wr.heap.size := by omega); (try have hy3_r_1 : wr.heap.size + 1 < w3.heap.size := by omega); (try have hn3_r_1 : wr.heap.size + 1 ≠ w3.heap.size := by omega); (try have hm3_r_1 : w3.heap.size ≠ wr.heap.size + 1 := by omega); (try have hy3_r_2 : wr.heap.size + 1 + 1 < w3.heap.size := by omega); (try have hp3_r_1 : wr.heap.size < w3.heap.size + 1 := by omega); (try have hp3_r_2 : wr.heap.size < w3.heap.size + 1 + 1 := by omega); (try have hy3_0_0 : w.heap.size < w3.heap.size := by omega); (try have hn3_0_0 : w.heap.size ≠ w3.heap.size := by omega); (try have hm3_0_0 : w3.heap.size ≠ w.heap.size := by omega); (try have hy3_0_1 : w.heap.size + 1 < w3.heap.size := by omega); (try have hn3_0_1 : w.heap.size + 1 ≠ w3.heap.size := by omega); (try have hm3_0_1 : w3.heap.size ≠ w.heap.size + 1 := by omega); (try have hy3_0_2 : w.heap.size + 1 + 1 < w3.heap.size := by omega); (try have hp3_0_1 : w.heap.size < w3.heap.size + 1 := by omega); (try have hp3_0_2 : w.heap.size < w3.heap.size + 1 + 1 := by omega); (try have hy3_1_0 : w1.heap.size < w3.heap.size := by omega); (try have hn3_1_0 : w1.heap.size ≠ w3.heap.size := by omega); (try have hm3_1_0 : w3.heap.size ≠ w1.heap.size := by omega); (try have hy3_1_1 : w1.heap.size + 1 < w3.heap.size := by omega); (try have hn3_1_1 : w1.heap.size + 1 ≠ w3.heap.size := by omega); (try have hm3_1_1 : w3.heap.size ≠ w1.heap.size + 1 := by omega); (try have hy3_1_2 : w1.heap.size + 1 + 1 < w3.heap.size := by omega); (try have hp3_1_1 : w1.heap.size < w3.heap.size + 1 := by omega); (try have hp3_1_2 : w1.heap.size < w3.heap.size + 1 + 1 := by omega); (try have hy3_2_0 : w2.heap.size < w3.heap.size := by omega); (try have hn3_2_0 : w2.heap.size ≠ w3.heap.size := by omega); (try have hm3_2_0 : w3.heap.size ≠ w2.heap.size := by omega); (try have hy3_2_1 : w2.heap.size + 1 < w3.heap.size := by omega); (try have hn3_2_1 : w2.heap.size + 1 ≠ w3.heap.size := by omega); (try have hm3_2_1 : w3.heap.size ≠ w2.heap.size + 1 := by omega); (try have hy3_2_2 : w2.heap.size + 1 + 1 < w3.heap.size := by omega); (try have hp3_2_1 : w2.heap.size < w3.heap.size + 1 := by omega); (try have hp3_2_2 : w2.heap.size < w3.heap.size + 1 + 1 := by omega); (try have hg3_g1 : g1 < w3.heap.size := by omega); (try have hi3_g1 : g1 ≠ w3.heap.size := by omega); (try have hj3_g1 : w3.heap.size ≠ g1 := by omega); (try have hk3_g1 : g1 < w3.heap.size + 1 := by omega); (try have hg3_g2 : g2 < w3.heap.size := by omega); (try have hi3_g2 : g2 ≠ w3.heap.size := by omega); (try have hj3_g2 : w3.heap.size ≠ g2 := by omega); (try have hk3_g2 : g2 < w3.heap.size + 1 := by omega)
      go_wp2_with fail
      refine (HG.out _).mono ?_; rintro e w4 ⟨A4, c4, rfl, hr4, hb4⟩; have hz4 := hb4.size; (try simp only [World.size_alloc, World.size_setCell, World.size_drew, World.heap_drewN] at hz4)
      go_wp2
      go_ret3
      exact ⟨none, 0, rfl, Reads.nil, by (repeat' (first | (with_reducible exact Below.refl _ _) | (with_reducible assumption) | (with_reducible refine Below.drew ?_) | (with_reducible refine belowDrewN ?_ _) | (with_reducible refine Below.alloc ?_ ?_ _) | (with_reducible refine Below.setCell ?_ ?_ _) | (with_reducible refine belowStep (by assumption) ?_ ?_) | (with_reducible exact Below.size (by assumption)) | go_size))⟩
    | some l =>
      have hx : qxO (A : Int) (B : Int) = some ((A : Int) / (B : Int), l) := qxO_some hq (by rw [m2]; exact ho)
      obtain ⟨e1, e2⟩ := qx_some hx
      rw [e1, e2, hx, m4]
      rw [ho] at HG
      clear hq ho e1 e2 hx ha
      generalize ((A % B : Nat) : Int) / gcdI ((A % B : Nat) : Int) (B : Int) = x at *
      generalize (B : Int) / gcdI ((A % B : Nat) : Int) (B : Int) = y at *
      generalize A % B = r at *
      generalize A / B = q at *
      go_enter Try.func26, Try.ntmps26
      go_wp2_with fail
      refine (HA.out _).mono ?_; rintro e w1 ⟨rfl, k1, rfl⟩
      go_wp2_with fail
      refine (l1In_yes _ _ _ _ hb1 hb2).mono ?_; rintro e w2 ⟨rfl, k2, rfl⟩
      go_wp2_with fail
      refine (HM.out _).mono ?_; rintro e w3 ⟨rfl, hb3⟩; obtain ⟨hc3, hf3⟩ := bcellB hb3; have hz3 := hb3.size; (try simp only [World.heap_drewN] at hc3 hf3 hz3); (try have hy3_r_0 : wr.heap.size < w3.heap.size := by omega); (try have hn3_r_0 : wr.heap.size ≠ w3.heap.size := by omega); (try have hm3_r_0 : w3.heap.size ≠ wr.heap.size := by omega); (try have hy3_r_1 : wr.heap.size + 1 < w3.heap.size := by omega); (try have hn3_r_1 : wr.heap.size + 1 ≠ w3.heap.size := by omega); (try have hm3_r_1 : w3.heap.size ≠ wr.heap.size + 1 := by omega); (try have hy3_r_2 : wr.heap.size + 1 + 1 < w3.heap.size := by omega); (try have hp3_r_1 : wr.heap.size < w3.heap.size + 1 := by omega); (try have hp3_r_2 : wr.heap.size < w3.heap.size + 1 + 1 := by omega); (try have hy3_0_0 : w.heap.size < w3.heap.size := by omega); (try have hn3_0_0 : w.heap.size ≠ w3.heap.size := by omega); (try have hm3_0_0 : w3.heap.size ≠ w.heap.size := by omega); (try have hy3_0_1 : w.heap.size + 1 < w3.heap.size := by omega); (try have hn3_0_1 : w.heap.size + 1 ≠ w3.heap.size := by omega); (try have hm3_0_1 : w3.heap.size ≠ w.heap.size + 1 := by omega); (try have hy3_0_2 : w.heap.size + 1 + 1 < w3.heap.size := by omega); (try have hp3_0_1 : w.heap.size < w3.heap.size + 1 := by omega); (try have hp3_0_2 : w.heap.size < w3.heap.size + 1 + 1 := by omega); (try have hy3_1_0 : w1.heap.size < w3.heap.size := by omega); (try have hn3_1_0 : w1.heap.size ≠ w3.heap.size := by omega); (try have hm3_1_0 : w3.heap.size ≠ w1.heap.size := by omega); (try have hy3_1_1 : w1.heap.size + 1 < w3.heap.size := by omega); (try have hn3_1_1 : w1.heap.size + 1 ≠ w3.heap.size := by omega); (try have hm3_1_1 : w3.heap.size ≠ w1.heap.size + 1 := by omega); (try have hy3_1_2 : w1.heap.size + 1 + 1 < w3.heap.size := by omega); (try have hp3_1_1 : w1.heap.size < w3.heap.size + 1 := by omega); (try have hp3_1_2 : w1.heap.size < w3.heap.size + 1 + 1 := by omega); (try have hy3_2_0 : w2.heap.size < w3.heap.size := by omega); (try have hn3_2_0 : w2.heap.size ≠ w3.heap.size := by omega); (try have hm3_2_0 : w3.heap.size ≠ w2.heap.size := by omega); (try have hy3_2_1 : w2.heap.size + 1 < w3.heap.size := by omega); (try have hn3_2_1 : w2.heap.size + 1 ≠ w3.heap.size := by omega); (try have hm3_2_1 : w3.heap.size ≠ w2.heap.size + 1 := by omega); (try have hy3_2_2 : w2.heap.size + 1 + 1 < w3.heap.size := by omega); (try have hp3_2_1 : w2.heap.size < w3.heap.size + 1 := by omega); (try have hp3_2_2 : w2.heap.size < w3.heap.size + 1 + 1 := by omega); (try have hg3_g1 : g1 < w3.heap.size := by omega); (try have hi3_g1 : g1 ≠ w3.heap.size := by omega); (try have hj3_g1 : w3.heap.size ≠ g1 := by omega); (try have hk3_g1 : g1 < w3.heap.size + 1 := by omega); (try have hg3_g2 : g2 < w3.heap.size := by omega); (try have hi3_g2 : g2 ≠ w3.heap.size := by omega); (try have hj3_g2 : w3.heap.size ≠ g2 := by omega); (try have hk3_g2 : g2 < w3.heap.size + 1 := by omega)
      go_wp2_with fail
      refine (HG.out _).mono ?_; rintro e w4 ⟨A4, c4, rfl, hr4, hb4⟩; have hz4 := hb4.size; (try simp only [World.size_alloc, World.size_setCell, World.size_drew, World.heap_drewN] at hz4)
      go_wp2
      go_ret3
      exact ⟨_, _, rfl, hr4, by (repeat' (first | (with_reducible exact Below.refl _ _) | (with_reducible assumption) | (with_reducible refine Below.drew ?_) | (with_reducible refine belowDrewN ?_ _) | (with_reducible refine Below.alloc ?_ ?_ _) | (with_reducible refine Below.setCell ?_ ?_ _) | (with_reducible refine belowStep (by assumption) ?_ ?_) | (with_reducible exact Below.size (by assumption)) | go_size))⟩
/-- shares of loaves -/
def shB (n d : Int) : Bool := decide (1 ≤ d) && decide (d ≤ 1000) && decide (0 ≤ n) && decide (n ≤ d)
def shO (n d : Int) : Option (List Int) := if shB n d = true then gqO n d else none
theorem shB_iff (n d : Int) : shB n d = true ↔ (1 ≤ d ∧ d ≤ 1000) ∧ 0 ≤ n ∧ n ≤ d := by simp [shB, and_assoc]
theorem shO_no {n d : Int} (h : shB n d = false) : shO n d = none := by unfold shO; rw [h]; rfl
theorem shO_yes {n d : Int} (h : shB n d = true) : shO n d = gqO n d := by unfold shO; rw [if_pos h]
theorem shO_len (n d : Int) : ((shO n d).getD []).length ≤ 24 := by
  unfold shO
  split
  · exact gqO_len n d
  · simp
set_option maxRecDepth 100000 in
set_option maxHeartbeats 2000000 in
theorem shares_any (n d : Int) (w : World) : Calls Try.prog 54 #[.int .i64 n, .int .i64 d] w (RetLB ((shO n d).getD []) (shO n d).isSome w) := by
  cases hs : shB n d with
  | false =>
    have E := Lib.hid (shO_no hs)
    have hx : ¬ ((1 ≤ d ∧ d ≤ 1000) ∧ 0 ≤ n ∧ n ≤ d) := fun h => by rw [(shB_iff n d).2 h] at hs; cases hs
    clear hs
    rw [E.out]
    clear E
    by_cases h1 : n < 0
    · clear hx
      go_enter Try.func54, Try.ntmps54
      go_wp2
      go_ret2
      exact ⟨_, rfl, OwnI.empty _ _, by (repeat' (first | (with_reducible exact Below.refl _ _) | (with_reducible assumption) | (with_reducible refine Below.drew ?_) | (with_reducible refine belowDrewN ?_ _) | (with_reducible refine Below.alloc ?_ ?_ _) | (with_reducible refine Below.setCell ?_ ?_ _) | (with_reducible refine belowStep (by assumption) ?_ ?_) | (with_reducible exact Below.size (by assumption)) | go_size))⟩
    · by_cases h2 : d < n
      · clear hx
        go_enter Try.func54, Try.ntmps54
        go_wp2
        go_ret2
        exact ⟨_, rfl, OwnI.empty _ _, by (repeat' (first | (with_reducible exact Below.refl _ _) | (with_reducible assumption) | (with_reducible refine Below.drew ?_) | (with_reducible refine belowDrewN ?_ _) | (with_reducible refine Below.alloc ?_ ?_ _) | (with_reducible refine Below.setCell ?_ ?_ _) | (with_reducible refine belowStep (by assumption) ?_ ?_) | (with_reducible exact Below.size (by assumption)) | go_size))⟩
      · by_cases h3 : d < 1
        · clear hx
          go_enter Try.func54, Try.ntmps54
          go_wp2
          go_ret2
          exact ⟨_, rfl, OwnI.empty _ _, by (repeat' (first | (with_reducible exact Below.refl _ _) | (with_reducible assumption) | (with_reducible refine Below.drew ?_) | (with_reducible refine belowDrewN ?_ _) | (with_reducible refine Below.alloc ?_ ?_ _) | (with_reducible refine Below.setCell ?_ ?_ _) | (with_reducible refine belowStep (by assumption) ?_ ?_) | (with_reducible exact Below.size (by assumption)) | go_size))⟩
        · have h4 : 1000 < d := by omega
          clear hx
          go_enter Try.func54, Try.ntmps54
          go_wp2
          go_ret2
          exact ⟨_, rfl, OwnI.empty _ _, by (repeat' (first | (with_reducible exact Below.refl _ _) | (with_reducible assumption) | (with_reducible refine Below.drew ?_) | (with_reducible refine belowDrewN ?_ _) | (with_reducible refine Below.alloc ?_ ?_ _) | (with_reducible refine Below.setCell ?_ ?_ _) | (with_reducible refine belowStep (by assumption) ?_ ?_) | (with_reducible exact Below.size (by assumption)) | go_size))⟩
  | true =>
    have E := Lib.hid (shO_yes hs)
    obtain ⟨⟨h1, h2⟩, h3, h4⟩ := (shB_iff n d).1 hs
    have HG := Lib.hid fun (w : World) => greedyQuo_any n d w (by omega) (by omega) (by omega) (by omega)
    clear hs
    rw [E.out]
    generalize gqO n d = o at *
    go_enter Try.func54, Try.ntmps54
    go_wp2_with fail
    refine (HG.out _).mono ?_; rintro e w2 ⟨v2, rfl, ho2, hb2⟩; have hz2 := hb2.size; (try simp only [World.size_alloc, World.size_setCell, World.size_drew, World.heap_drewN] at hz2)
    go_wp2
    go_ret2
    exact ⟨_, rfl, ho2.mono (by (first | (go_size; done) | ((try simp only [World.size_alloc, World.size_setCell, World.size_drew, World.heap_drewN]); omega))), by (repeat' (first | (with_reducible exact Below.refl _ _) | (with_reducible assumption) | (with_reducible refine Below.drew ?_) | (with_reducible refine belowDrewN ?_ _) | (with_reducible refine Below.alloc ?_ ?_ _) | (with_reducible refine Below.setCell ?_ ?_ _) | (with_reducible refine belowStep (by assumption) ?_ ?_) | (with_reducible exact Below.size (by assumption)) | go_size))⟩
set_option maxRecDepth 100000 in
set_option maxHeartbeats 2000000 in
theorem spec_shares_any (n d : Int) (w : World) : Calls Try.prog 55 #[.int .i64 n, .int .i64 d] w (RetRB ((shO n d).getD []) (shO n d).isSome w) := by
  cases hs : shB n d with
  | false =>
    have E := Lib.hid (shO_no hs)
    have hx : ¬ ((1 ≤ d ∧ d ≤ 1000) ∧ 0 ≤ n ∧ n ≤ d) := fun h => by rw [(shB_iff n d).2 h] at hs; cases hs
    clear hs
    rw [E.out]
    clear E
    by_cases h1 : 1 ≤ d ∧ d ≤ 1000
    · have h2 : ¬ (0 ≤ n ∧ n ≤ d) := fun h => hx ⟨h1, h⟩
      obtain ⟨h3, h4⟩ := h1
      clear hx
      go_enter Try.func55, Try.ntmps55
      go_wp2_with fail
      refine (l1In_yes _ _ _ _ h3 h4).mono ?_; rintro e w1 ⟨rfl, k1, rfl⟩
      go_wp2_with fail
      refine (l1In_no _ _ _ _ h2).mono ?_; rintro e w2 ⟨rfl, k2, rfl⟩
      go_wp2
      go_ret2
      exact ⟨none, 0, rfl, Reads.nil, by (repeat' (first | (with_reducible exact Below.refl _ _) | (with_reducible assumption) | (with_reducible refine Below.drew ?_) | (with_reducible refine belowDrewN ?_ _) | (with_reducible refine Below.alloc ?_ ?_ _) | (with_reducible refine Below.setCell ?_ ?_ _) | (with_reducible refine belowStep (by assumption) ?_ ?_) | (with_reducible exact Below.size (by assumption)) | go_size))⟩
    · clear hx
      go_enter Try.func55, Try.ntmps55
      go_wp2_with fail
      refine (l1In_no _ _ _ _ h1).mono ?_; rintro e w1 ⟨rfl, k1, rfl⟩
      go_wp2
      go_ret2
      exact ⟨none, 0, rfl, Reads.nil, by (repeat' (first | (with_reducible exact Below.refl _ _) | (with_reducible assumption) | (with_reducible refine Below.drew ?_) | (with_reducible refine belowDrewN ?_ _) | (with_reducible refine Below.alloc ?_ ?_ _) | (with_reducible refine Below.setCell ?_ ?_ _) | (with_reducible refine belowStep (by assumption) ?_ ?_) | (with_reducible exact Below.size (by assumption)) | go_size))⟩
  | true =>
    have E := Lib.hid (shO_yes hs)
    obtain ⟨⟨h1, h2⟩, h3, h4⟩ := (shB_iff n d).1 hs
    have HM := Lib.hid fun (w : World) => unMake_any n d w (by omega) (by omega) (by omega) (by omega)
    have HG : Hid (∀ w, Calls Try.prog 105 #[.agg #[.int .i64 (n / gcdI n d), .int .i64 (d / gcdI n d)]] w (RetRB ((gqO n d).getD []) (gqO n d).isSome w)) := Lib.hid fun w => spec_greedyExp_any _ _ w
    clear hs
    rw [E.out]
    generalize gqO n d = o at *
    generalize n / gcdI n d = x at *
    generalize d / gcdI n d = y at *
    go_enter Try.func55, Try.ntmps55
    go_wp2_with fail
    refine (l1In_yes _ _ _ _ h1 h2).mono ?_; rintro e w1 ⟨rfl, k1, rfl⟩
    go_wp2_with fail
    refine (l1In_yes _ _ _ _ h3 h4).mono ?_; rintro e w2 ⟨rfl, k2, rfl⟩
    go_wp2_with fail
    refine (HM.out _).mono ?_; rintro e w3 ⟨rfl, hb3⟩; obtain ⟨hc3, hf3⟩ := bcellB hb3; have hz3 := hb3.size; (try simp only [World.heap_drewN] at hc3 hf3 hz3); (try have hy3_r_0 : wr.heap.size < w3.heap.size := by omega); (try have hn3_r_0 : wr.heap.size ≠ w3.heap.size := by omega); (try have hm3_r_0 : w3.heap.size ≠ wr.heap.size := by omega); (try have hy3_r_1 : wr.heap.size + 1 < w3.heap.size := by omega); (try have hn3_r_1 : wr.heap.size + 1 ≠ w3.heap.size := by omega); (try have hm3_r_1 : w3.heap.size ≠ wr.heap.size + 1 := by omega); (try have hy3_r_2 : wr.heap.size + 1 + 1 < w3.heap.size := by omega); (try have hp3_r_1 : wr.heap.size < w3.heap.size + 1 := by omega); (try have hp3_r_2 : wr.heap.size < w3.heap.size + 1 + 1 := by omega); (try have hy3_0_0 : w.heap.size < w3.heap.size := by omega); (try have hn3_0_0 : w.heap.size ≠ w3.heap.size := by omega); (try have hm3_0_0 : w3.heap.size ≠ w.heap.size := by omega); (try have hy3_0_1 : w.heap.size + 1 < w3.heap.size := by omega); (try have hn3_0_1 : w.heap.size + 1 ≠ w3.heap.size := by omega); (try have hm3_0_1 : w3.heap.size ≠ w.heap.size + 1 := by omega); (try have hy3_0_2 : w.heap.size + 1 + 1 < w3.heap.size := by omega); (try have hp3_0_1 : w.heap.size < w3.heap.size + 1 := by omega); (try have hp3_0_2 : w.heap.size < w3.heap.size + 1 + 1 := by omega); (try have hy3_1_0 : w1.heap.size < w3.heap.size := by omega); (try have hn3_1_0 : w1.heap.size ≠ w3.heap.size := by omega); (try have hm3_1_0 : w3.heap.size ≠ w1.heap.size := by omega); (try have hy3_1_1 : w1.heap.size + 1 < w3.heap.size := by omega); (try have hn3_1_1 : w1.heap.size + 1 ≠ w3.heap.size := by omega); (try have hm3_1_1 : w3.heap.size ≠ w1.heap.size + 1 := by omega); (try have hy3_1_2 : w1.heap.size + 1 + 1 < w3.heap.size := by omega); (try have hp3_1_1 : w1.heap.size < w3.heap.size + 1 := by omega); (try have hp3_1_2 : w1.heap.size < w3.heap.size + 1 + 1 := by omega); (try have hy3_2_0 : w2.heap.size < w3.heap.size := by omega); (try have hn3_2_0 : w2.heap.size ≠ w3.heap.size := by omega); (try have hm3_2_0 : w3.heap.size ≠ w2.heap.size := by omega); (try have hy3_2_1 : w2.heap.size + 1 < w3.heap.size := by omega); (try have hn3_2_1 : w2.heap.size + 1 ≠ w3.heap.size := by omega); (try have hm3_2_1 : w3.heap.size ≠ w2.heap.size + 1 := by omega); (try have hy3_2_2 : w2.heap.size + 1 + 1 < w3.heap.size := by omega); (try have hp3_2_1 : w2.heap.size < w3.heap.size + 1 := by omega); (try have hp3_2_2 : w2.heap.size < w3.heap.size + 1 + 1 := by omega); (try have hg3_g1 : g1 < w3.heap.size := by omega); (try have hi3_g1 : g1 ≠ w3.heap.size := by omega); (try have hj3_g1 : w3.heap.size ≠ g1 := by omega); (try have hk3_g1 : g1 < w3.heap.size + 1 := by omega); (try have hg3_g2 : g2 < w3.heap.size := by omega); (try have hi3_g2 : g2 ≠ w3.heap.size := by omega); (try have hj3_g2 : w3.heap.size ≠ g2 := by omega); (try have hk3_g2 : g2 < w3.heap.size + 1 := by omega)
    go_wp2_with fail
    refine (HG.out _).mono ?_; rintro e w4 ⟨A4, c4, rfl, hr4, hb4⟩; have hz4 := hb4.size; (try simp only [World.size_alloc, World.size_setCell, World.size_drew, World.heap_drewN] at hz4)
    go_wp2
    go_ret2
    exact ⟨_, _, rfl, hr4, by (repeat' (first | (with_reducible exact Below.refl _ _) | (with_reducible assumption) | (with_reducible refine Below.drew ?_) | (with_reducible refine belowDrewN ?_ _) | (with_reducible refine Below.alloc ?_ ?_ _) | (with_reducible refine Below.setCell ?_ ?_ _) | (with_reducible refine belowStep (by assumption) ?_ ?_) | (with_reducible exact Below.size (by assumption)) | go_size))⟩
end Go.Proofs.Ytleookfdngnphaa
