
/-
  Contracts of AreDivisorsFor, in the program and in the model.
-/
import Derived.Test.YtiapljimgnhgoacDivC
import Derived.Test.YtiapljimgnhgoacLists
namespace Go.Proofs.Ytiapljimgnhgoac
open Go.RowKit
/-- a sum that may be asked for -/
def askB (s : Int) : Bool := decide (0 ≤ s) && decide (s ≤ 100000)
theorem askB_iff (s : Int) : askB s = true ↔ 0 ≤ s ∧ s ≤ 100000 := by simp [askB]
theorem isAskedSum_any (n : Int) (w : World) : Calls Try.prog 47 #[.int .i64 n] w (RetQ (.bool (askB n)) w) := by
  by_cases h : 0 ≤ n ∧ n ≤ 100000
  · have E := Lib.hid ((askB_iff n).2 h)
    obtain ⟨h1, h2⟩ := h
    go_enter Try.func47, Try.ntmps47
    go_wp2
    go_ret
    exact ⟨ret_bool E.out.symm, 0, rfl⟩
  · have E : Hid (askB n = false) := Lib.hid (by simp [askB]; omega)
    by_cases h1 : 0 ≤ n
    · have h2 : ¬ n ≤ 100000 := fun h2 => h ⟨h1, h2⟩
      go_enter Try.func47, Try.ntmps47
      go_wp2
      go_ret
      exact ⟨ret_bool E.out.symm, 0, rfl⟩
    · clear h
      go_enter Try.func47, Try.ntmps47
      go_wp2
      go_ret
      exact ⟨ret_bool E.out.symm, 0, rfl⟩
theorem prTotal_any (n : Int) (w : World) : Calls Try.prog 50 #[.int .i64 n] w (RetQ (.bool (askB n)) w) := by
  by_cases h : 0 ≤ n ∧ n ≤ 100000
  · have E := Lib.hid ((askB_iff n).2 h)
    obtain ⟨h1, h2⟩ := h
    go_enter Try.func50, Try.ntmps50
    go_wp2_with fail
    refine (l1In_yes _ _ _ _ h1 h2).mono ?_; rintro e w1 ⟨rfl, k1, rfl⟩
    go_wp2
    go_ret
    exact ⟨ret_bool E.out.symm, _, rfl⟩
  · have E : Hid (askB n = false) := Lib.hid (by simp [askB]; omega)
    go_enter Try.func50, Try.ntmps50
    go_wp2_with fail
    refine (l1In_no _ _ _ _ h).mono ?_; rintro e w1 ⟨rfl, k1, rfl⟩
    go_wp2
    go_ret
    exact ⟨ret_bool E.out.symm, _, rfl⟩
/-- a falling list of divisors, and its sum -/
def adF (n : Int) : Int → Int → List Int → Option Int
  | _, t, [] => some t
  | last, t, d :: ds => if d < 1 ∨ last ≤ d ∨ n % d ≠ 0 then none else adF n d (t + d) ds
theorem adF_yes {n last t d : Int} {ds : List Int} (h : ¬ (d < 1 ∨ last ≤ d ∨ n % d ≠ 0)) : adF n last t (d :: ds) = adF n d (t + d) ds := by rw [adF, if_neg h]
theorem adF_no {n last t d : Int} {ds : List Int} (h : d < 1 ∨ last ≤ d ∨ n % d ≠ 0) : adF n last t (d :: ds) = none := by rw [adF, if_pos h]
def adB (n s : Int) (xs : List Int) : Bool := numB n && askB s && decide (adF n (n + 1) 0 xs = some s)
theorem adB_bad {n s : Int} {xs : List Int} (h : (numB n && askB s) = false) : adB n s xs = false := by unfold adB; rw [h]; rfl
theorem adB_ok {n s : Int} {xs : List Int} (h : (numB n && askB s) = true) : adB n s xs = decide (adF n (n + 1) 0 xs = some s) := by unfold adB; rw [h]; rfl
theorem dropI {xs : List Int} {k : Nat} {x : Int} (h : xs[k]? = some x) : xs.drop k = x :: xs.drop (k + 1) := by
  obtain ⟨h1, h2⟩ := List.getElem?_eq_some_iff.1 h
  rw [List.drop_eq_getElem_cons h1, h2]
/-- the last number ahead of place k -/
def lastI (n : Int) (xs : List Int) (k : Nat) : Int := match k with | 0 => n + 1 | j + 1 => (xs[j]?).getD 0
theorem lastI_next {n : Int} {xs : List Int} {k : Nat} {x : Int} (h : xs[k]? = some x) : lastI n xs (k + 1) = x := by simp [lastI, h]
structure Ad (n s : Int) (xs : List Int) (k : Nat) (last t : Int) : Prop where
  all : adF n (n + 1) 0 xs = adF n last t (xs.drop k)
  low : 0 ≤ t
  high : t ≤ 2000 * (k : Int)
  le : last ≤ n + 1
  is : last = lastI n xs k
theorem Ad.start (n s : Int) (xs : List Int) : Ad n s xs 0 (n + 1) 0 := ⟨rfl, by omega, by simp, by omega, rfl⟩
theorem Ad.next {n s : Int} {xs : List Int} {k : Nat} {last t d : Int} (h : Ad n s xs k last t) (hx : xs[k]? = some d) (hd : ¬ (d < 1 ∨ last ≤ d ∨ n % d ≠ 0)) (hn : n ≤ 2000) : Ad n s xs (k + 1) d (t + d) := by
  have h1 := h.low
  have h2 := h.high
  have h3 := h.le
  refine ⟨by rw [h.all, dropI hx, adF_yes hd], by omega, by omega, by omega, (lastI_next hx).symm⟩
theorem Ad.bad {n s : Int} {xs : List Int} {k : Nat} {last t d : Int} (h : Ad n s xs k last t) (hx : xs[k]? = some d) (hd : d < 1 ∨ last ≤ d ∨ n % d ≠ 0) (hk : (numB n && askB s) = true) : adB n s xs = false := by
  rw [adB_ok hk, h.all, dropI hx, adF_no hd]
  rfl
theorem Ad.done {n s : Int} {xs : List Int} {k : Nat} {last t : Int} (h : Ad n s xs k last t) (hl : xs.length ≤ k) (hk : (numB n && askB s) = true) : adB n s xs = (t == s) := by
  rw [adB_ok hk, h.all, List.drop_of_length_le hl, adF]
  by_cases e : t = s <;> simp [e]
set_option maxRecDepth 100000 in
set_option maxHeartbeats 4000000 in
theorem areDivisorsFor_any (n s : Int) (w : World) (rn : -9223372036854775808 ≤ n ∧ n ≤ 9223372036854775807) (rs : -9223372036854775808 ≤ s ∧ s ≤ 9223372036854775807) (Axs : Option Addr) (cxs : Nat) (xs : List Int) (hxs : Reads w Axs xs) (lxs : xs.length ≤ 1048576) (r64 : ∀ (i : Nat) (x : Int), xs[i]? = some x → -9223372036854775808 ≤ x ∧ x ≤ 9223372036854775807) : Calls Try.prog 13 #[.int .i64 n, .int .i64 s, .slice Axs xs.length cxs] w (RetQ (.tuple #[.bool (adB n s xs), .bool (numB n && askB s)]) w) := by
  have Hxs := Lib.hid hxs
  have Hr64 := Lib.hid r64
  have HN := Lib.hid fun (w : World) => isNumber_any n w
  have HS := Lib.hid fun (w : World) => isAskedSum_any s w
  clear hxs r64
  cases hn : numB n with
  | false =>
    have E : Hid (adB n s xs = false) := Lib.hid (adB_bad (by rw [hn]; rfl))
    rw [hn] at HN
    clear hn
    go_enter Try.func13, Try.ntmps13
    go_wp2_with fail
    refine (HN.out _).mono ?_; rintro e w1 ⟨rfl, k1, rfl⟩
    go_wp2
    go_ret2
    rw [E.out]
    exact ⟨rfl, _, rfl⟩
  | true =>
    cases hs : askB s with
    | false =>
      have E : Hid (adB n s xs = false) := Lib.hid (adB_bad (by rw [hs]; simp))
      rw [hn] at HN
      rw [hs] at HS
      clear hn hs
      go_enter Try.func13, Try.ntmps13
      go_wp2_with fail
      refine (HN.out _).mono ?_; rintro e w1 ⟨rfl, k1, rfl⟩
      go_wp2_with fail
      refine (HS.out _).mono ?_; rintro e w2 ⟨rfl, k2, rfl⟩
      go_wp2
      go_ret2
      rw [E.out]
      exact ⟨rfl, _, rfl⟩
    | true =>
      have hk : (numB n && askB s) = true := by rw [hn, hs]; rfl
      have Hk := Lib.hid hk
      obtain ⟨n1, n2⟩ := (numB_iff n).1 hn
      obtain ⟨s1, s2⟩ := (askB_iff s).1 hs
      rw [hn] at HN
      rw [hs] at HS
      clear hn hs hk
      go_enter Try.func13, Try.ntmps13
      go_wp2_with fail
      refine (HN.out _).mono ?_; rintro e w1 ⟨rfl, k1, rfl⟩
      go_wp2_with fail
      refine (HS.out _).mono ?_; rintro e w2 ⟨rfl, k2, rfl⟩
      go_wp2
      go_loopw [8, 9, 24] (fun v8 v9 v24 wr => ∃ (k : Nat) (last t : Int), v8 = .int .i64 t ∧ v9 = .int .i64 last ∧ v24 = .int .i64 (k : Int) ∧ k ≤ xs.length ∧ Ad n s xs k last t ∧ ∃ m, wr = w.drewN m) (fun _ _ v24 _ => xs.length - (intOf v24).toNat)
      case atStart => exact ⟨0, n + 1, 0, rfl, by go_num, rfl, Nat.zero_le _, Ad.start n s xs, _, rfl⟩
      case round =>
        obtain ⟨k, last, t, rfl, rfl, rfl, hkl, ha, m, rfl⟩ := hrel
        have HA := Lib.hid ha
        have a1 := ha.low
        have a2 := ha.high
        have a3 := ha.le
        clear ha
        by_cases hlt : k < xs.length
        · obtain ⟨b, o, d, rfl, hbb, hx, hcell⟩ := (Hxs.out.drewN m).at_ hlt
          have hki : (k : Int) < (xs.length : Int) := by omega
          obtain ⟨d1, d2⟩ := Hr64.out k d hx
          by_cases hd : d < 1 ∨ last ≤ d ∨ n % d ≠ 0
          · have E := Lib.hid (HA.out.bad hx hd Hk.out)
            clear hx
            by_cases h1 : d < 1
            · go_wp2
              go_ret2
              rw [E.out]
              exact ⟨rfl, _, rfl⟩
            · by_cases h2 : last ≤ d
              · go_wp2
                go_ret2
                rw [E.out]
                exact ⟨rfl, _, rfl⟩
              · have h3 : n % d ≠ 0 := by
                  rcases hd with h | h | h
                  · exact absurd h h1
                  · exact absurd h h2
                  · exact h
                have hne : d ≠ 0 := by omega
                have e1 : n.tmod d ≠ 0 := by rw [Int.tmod_eq_emod_of_nonneg (by omega)]; exact h3
                have e2 : (n.tmod d != 0) = true := by simp [e1]
                have e3 : (n % d != 0) = true := by simp [h3]
                clear hd
                go_wp2
                go_ret2
                rw [E.out]
                exact ⟨rfl, _, rfl⟩
          · have hnx := Lib.hid (HA.out.next hx hd n2)
            have h1 : ¬ d < 1 := fun h => hd (.inl h)
            have h2 : ¬ last ≤ d := fun h => hd (.inr (.inl h))
            have h3 : n % d = 0 := by
              by_cases h : n % d = 0
              · exact h
              · exact absurd (.inr (.inr h)) hd
            have hne : d ≠ 0 := by omega
            have e1 : n.tmod d = 0 := by rw [Int.tmod_eq_emod_of_nonneg (by omega)]; exact h3
            have e2 : (n.tmod d != 0) = false := by simp [e1]
            have e3 : (n % d != 0) = false := by simp [h3]
            clear hd hx
            go_wp2
            go_roundw
            case rel => exact ⟨k + 1, d, t + d, rfl, rfl, by go_num, by omega, hnx.out, m, rfl⟩
            case measure => simp [intOf]; omega
        · have hki : ¬ (k : Int) < (xs.length : Int) := by omega
          have E := Lib.hid (HA.out.done (by omega) Hk.out)
          go_wp2
          go_ret2
          rw [E.out]
          exact ⟨rfl, _, rfl⟩
end Go.Proofs.Ytiapljimgnhgoac
