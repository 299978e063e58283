
/-
  The rest of a fraction and completions: the contract of CompletionOf in the program.
-/
import Derived.Test.YthkchhjidihkpabOvI
import Derived.Test.YthkchhjidihkpabRest
import Derived.Test.YthkchhjidihkpabHas
namespace Go.Proofs.Ythkchhjidihkpab
open Go.RowKit
/-- the rest of a fraction, if there is one -/
def rsB (n d : Int) (xs : List Int) : Bool := goodB n d && expB xs && decide (sumN xs * d ≤ n * sumD xs) && redB (n * sumD xs - sumN xs * d) (d * sumD xs)
def rsP (n d : Int) (xs : List Int) : Int := if rsB n d xs = true then redN (n * sumD xs - sumN xs * d) (d * sumD xs) else 0
def rsQ (n d : Int) (xs : List Int) : Int := if rsB n d xs = true then redD (n * sumD xs - sumN xs * d) (d * sumD xs) else 0
theorem red_zero {a b : Int} (h : redB a b = false) : redN a b = 0 ∧ redD a b = 0 := by unfold redN redD; rw [h]; exact ⟨rfl, rfl⟩
theorem rs_no {n d : Int} {xs : List Int} (h : rsB n d xs = false) : rsP n d xs = 0 ∧ rsQ n d xs = 0 := by unfold rsP rsQ; rw [h]; exact ⟨rfl, rfl⟩
theorem rs_in {n d : Int} {xs : List Int} (ha : goodB n d = true) (hx : expB xs = true) (hle : sumN xs * d ≤ n * sumD xs) : rsB n d xs = redB (n * sumD xs - sumN xs * d) (d * sumD xs) ∧ rsP n d xs = redN (n * sumD xs - sumN xs * d) (d * sumD xs) ∧ rsQ n d xs = redD (n * sumD xs - sumN xs * d) (d * sumD xs) := by
  have e : rsB n d xs = redB (n * sumD xs - sumN xs * d) (d * sumD xs) := by unfold rsB; rw [ha, hx, decide_eq_true hle]; rfl
  refine ⟨e, ?_, ?_⟩
  · unfold rsP
    rw [e]
    cases hr : redB (n * sumD xs - sumN xs * d) (d * sumD xs) with
    | true => rfl
    | false => rw [(red_zero hr).1]; rfl
  · unfold rsQ
    rw [e]
    cases hr : redB (n * sumD xs - sumN xs * d) (d * sumD xs) with
    | true => rfl
    | false => rw [(red_zero hr).2]; rfl
theorem rs_parts {n d : Int} {xs : List Int} (h : rsB n d xs = true) : goodB n d = true ∧ expB xs = true ∧ sumN xs * d ≤ n * sumD xs ∧ redB (n * sumD xs - sumN xs * d) (d * sumD xs) = true := by
  unfold rsB at h
  simp only [Bool.and_eq_true, decide_eq_true_eq] at h
  exact ⟨h.1.1.1, h.1.1.2, h.1.2, h.2⟩
theorem rs_good {n d : Int} {xs : List Int} (h : rsB n d xs = true) : goodB (rsP n d xs) (rsQ n d xs) = true := by
  obtain ⟨a, b, c, e⟩ := rs_parts h
  obtain ⟨_, e1, e2⟩ := rs_in a b c
  obtain ⟨_, _, d1, _⟩ := good_bounds a
  obtain ⟨_, _, s1, _⟩ := good_bounds (good_sum b)
  rw [e1, e2]
  exact good_of_redB (by omega) (mul_pos1 d1 s1) e
theorem rs_small {n d : Int} {xs : List Int} : (-9223372036854775808 ≤ rsP n d xs ∧ rsP n d xs ≤ 9223372036854775807) ∧ -9223372036854775808 ≤ rsQ n d xs ∧ rsQ n d xs ≤ 9223372036854775807 := by
  cases h : rsB n d xs with
  | true =>
    obtain ⟨a, b, c, e⟩ := good_bounds (rs_good h)
    exact ⟨⟨by omega, by omega⟩, by omega, by omega⟩
  | false =>
    obtain ⟨a, b⟩ := rs_no h
    rw [a, b]
    exact ⟨⟨by omega, by omega⟩, by omega, by omega⟩
theorem rest_any (w : World) (n d : Int) (Axs : Option Addr) (cxs : Nat) (xs : List Int) (hxs : Reads w Axs xs) (lxs : xs.length ≤ 1048576) (r64 : In64 xs) (rn : -9223372036854775808 ≤ n ∧ n ≤ 9223372036854775807) (rd : -9223372036854775808 ≤ d ∧ d ≤ 9223372036854775807) : Calls Try.prog 64 #[.agg #[.int .i64 n, .int .i64 d], .slice Axs xs.length cxs] w (Ret (.tuple #[.agg #[.int .i64 (rsP n d xs), .int .i64 (rsQ n d xs)], .bool (rsB n d xs)]) w) := by
  by_cases h : goodB n d = true ∧ expB xs = true
  · by_cases hle : sumN xs * d ≤ n * sumD xs
    · obtain ⟨e1, e2, e3⟩ := rs_in h.1 h.2 hle
      rw [e1, e2, e3]
      exact rest_yes w n d Axs cxs xs hxs lxs r64 h.1 h.2 hle
    · have e : rsB n d xs = false := by unfold rsB; rw [decide_eq_false hle]; simp
      obtain ⟨e2, e3⟩ := rs_no e
      rw [e, e2, e3]
      exact rest_less w n d Axs cxs xs hxs lxs r64 h.1 h.2 (by omega)
  · have e : rsB n d xs = false := by
      cases hb : rsB n d xs with
      | false => rfl
      | true => exact absurd ⟨(rs_parts hb).1, (rs_parts hb).2.1⟩ h
    obtain ⟨e2, e3⟩ := rs_no e
    rw [e, e2, e3]
    exact rest_no w n d Axs cxs xs hxs lxs r64 rn rd h
def anyB (xs ts : List Int) : Bool := ts.any (fun t => hasB xs t)
def coO (n d : Int) (xs : List Int) (N : Int) : Option (List Int) := if rsB n d xs = true then (ovO (rsP n d xs) (rsQ n d xs) N).bind (fun ts => if anyB xs ts = true then none else some ts) else none
theorem coO_rs {n d : Int} {xs : List Int} {N : Int} (h : rsB n d xs = false) : coO n d xs N = none := by unfold coO; rw [h]; rfl
theorem coO_ov {n d : Int} {xs : List Int} {N : Int} (h : ovO (rsP n d xs) (rsQ n d xs) N = none) : coO n d xs N = none := by unfold coO; rw [h]; split <;> rfl
theorem coO_some {n d : Int} {xs ts : List Int} {N : Int} (hb : rsB n d xs = true) (h : ovO (rsP n d xs) (rsQ n d xs) N = some ts) : coO n d xs N = if anyB xs ts = true then none else some ts := by unfold coO; rw [if_pos hb, h]; rfl
theorem coO_len (n d : Int) (xs : List Int) (N : Int) : ((coO n d xs N).getD []).length ≤ 24 := by
  cases hb : rsB n d xs with
  | false => rw [coO_rs hb]; simp
  | true =>
    have hl := ovO_len (rsP n d xs) (rsQ n d xs) N
    cases ho : ovO (rsP n d xs) (rsQ n d xs) N with
    | none => rw [coO_ov ho]; simp
    | some ts =>
      rw [ho] at hl
      rw [coO_some hb ho]
      split
      · simp
      · exact hl
theorem clo_any (x : Int) (g : Nat) (w : World) (Axs : Option Addr) (cxs : Nat) (xs : List Int) (hxs : Reads w Axs xs) (lxs : xs.length ≤ 1048576) (hg : w.cell? ⟨g, 0, none⟩ = some (.slice Axs xs.length cxs)) : Calls Try.prog 67 #[.int .i64 x, .pointer (some ⟨g, 0, none⟩)] w (RetQ (.bool (hasB xs x)) w) := by
  have HC := Lib.hid (contains_any w x Axs cxs xs hxs lxs)
  clear hxs
  go_enter Try.func67, Try.ntmps67
  go_wp2_with fail
  refine (HC.out).mono ?_; rintro e w1 ⟨rfl, k1, rfl⟩
  go_wp2
  go_ret
  exact ⟨rfl, _, rfl⟩
theorem any_take {xs ts : List Int} {k : Nat} {t : Int} (h : ts[k]? = some t) : anyB xs (ts.take (k + 1)) = (anyB xs (ts.take k) || hasB xs t) := by
  unfold anyB
  rw [List.take_add_one, h, List.any_append]
  simp
theorem any_hit {xs ts : List Int} {k : Nat} {t : Int} (h : ts[k]? = some t) (ht : hasB xs t = true) : anyB xs ts = true := List.any_eq_true.2 ⟨t, List.mem_of_getElem? h, ht⟩
set_option maxRecDepth 100000 in
set_option maxHeartbeats 2000000 in
theorem indexFunc_any (g : Nat) (w : World) (Axs : Option Addr) (cxs : Nat) (xs : List Int) (hxs : Reads w Axs xs) (lxs : xs.length ≤ 1048576) (Ats : Option Addr) (cts : Nat) (ts : List Int) (hts : Reads w Ats ts) (lts : ts.length ≤ 1048576) (hg : w.cell? ⟨g, 0, none⟩ = some (.slice Axs xs.length cxs)) : Calls Try.prog 113 #[.slice Ats ts.length cts, .func (.func 67) #[] #[.pointer (some ⟨g, 0, none⟩)]] w (fun e w' => ∃ (v : Int) (n : Nat), e = .returned (.int .i64 v) ∧ decide (0 ≤ v) = anyB xs ts ∧ -1 ≤ v ∧ v ≤ 2000000 ∧ w' = w.drewN n) := by
  have Hts := Lib.hid hts
  have HC := Lib.hid fun (x : Int) (n : Nat) => clo_any x g (w.drewN n) Axs cxs xs (hxs.drewN n) lxs hg
  have hent : ∀ (args : Array Value) (w1 : World), Sem.run Try.prog (callFunc 67 args) w1 = .ok (.enter 67 args) w1 := fun _ _ => rfl
  have HE := Lib.hid hent
  clear hts hxs hg hent
  go_enter Try.func113, Try.ntmps113
  go_wp2
  go_loopw [8] (fun v8 wr => ∃ k n : Nat, k ≤ ts.length ∧ v8 = .int .i64 (k : Int) ∧ Hid (anyB xs (ts.take k) = false) ∧ wr = w.drewN n) (fun v8 _ => ts.length - (intOf v8).toNat)
  case atStart => exact ⟨0, 0, Nat.zero_le _, rfl, Lib.hid rfl, rfl⟩
  case round =>
    obtain ⟨k, n, hk, rfl, HA, rfl⟩ := hrel
    by_cases hlt : k < ts.length
    · obtain ⟨b9, o9, t, rfl, hbb, hx, hcell⟩ := (Hts.out.drewN n).at_ hlt
      have HT := Lib.hid (any_take (xs := xs) hx)
      have HH := Lib.hid fun h => any_hit (xs := xs) hx h
      have HCt := Lib.hid (HC.out t n)
      clear hx
      cases hh : hasB xs t with
      | true =>
        have E := Lib.hid (HH.out hh)
        rw [hh] at HCt
        clear hh
        go_wp2_with fail
        (try (rw [HE.out, Oper.upon_enter]))
        refine HCt.out.mono ?_; rintro e w1 ⟨rfl, k1, rfl⟩
        go_wp2
        go_ret
        exact ⟨(k : Int), _, rfl, by rw [E.out]; exact decide_eq_true (by omega), by omega, by omega, rfl⟩
      | false =>
        have HA2 : Hid (anyB xs (ts.take (k + 1)) = false) := Lib.hid (by rw [HT.out, HA.out, hh]; rfl)
        rw [hh] at HCt
        clear hh
        go_wp2_with fail
        (try (rw [HE.out, Oper.upon_enter]))
        refine HCt.out.mono ?_; rintro e w1 ⟨rfl, k1, rfl⟩
        go_wp2
        go_roundw
        case rel => exact ⟨k + 1, n + k1, by omega, by go_num, HA2, by first | rfl | simp⟩
        case measure => simp [intOf]; omega
    · obtain rfl : k = ts.length := by omega
      have E : Hid (anyB xs ts = false) := Lib.hid (by have := HA.out; rwa [List.take_length] at this)
      go_wp2
      go_ret
      exact ⟨-1, n, rfl, by rw [E.out]; rfl, by omega, by omega, rfl⟩
theorem containsFunc_any (g : Nat) (w : World) (Axs : Option Addr) (cxs : Nat) (xs : List Int) (hxs : Reads w Axs xs) (lxs : xs.length ≤ 1048576) (Ats : Option Addr) (cts : Nat) (ts : List Int) (hts : Reads w Ats ts) (lts : ts.length ≤ 1048576) (hg : w.cell? ⟨g, 0, none⟩ = some (.slice Axs xs.length cxs)) : Calls Try.prog 66 #[.slice Ats ts.length cts, .func (.func 67) #[] #[.pointer (some ⟨g, 0, none⟩)]] w (RetQ (.bool (anyB xs ts)) w) := by
  have HI := Lib.hid (indexFunc_any g w Axs cxs xs hxs lxs Ats cts ts hts lts hg)
  clear hxs hts hg
  go_enter Try.func66, Try.ntmps66
  go_wp2_with fail
  refine HI.out.mono ?_; rintro e w1 ⟨v, k1, rfl, hv, hv1, hv2, rfl⟩
  have HV := Lib.hid hv
  clear hv
  go_wp2
  go_ret
  exact ⟨ret_bool HV.out, k1, rfl⟩
end Go.Proofs.Ythkchhjidihkpab
