
/-
  Contract of AreDivisorsFor in the model.
-/
import Derived.Test.YtiapljimgnhgoacAdC
namespace Go.Proofs.Ytiapljimgnhgoac
open Go.RowKit
set_option maxRecDepth 100000 in
set_option maxHeartbeats 4000000 in
theorem spec_areDivisorsFor_any (n s : Int) (w : World) (rn : -9223372036854775808 ≤ n ∧ n ≤ 9223372036854775807) (rs : -9223372036854775808 ≤ s ∧ s ≤ 9223372036854775807) (Axs : Option Addr) (cxs : Nat) (xs : List Int) (hxs : Reads w Axs xs) (lxs : xs.length ≤ 1048576) (r64 : ∀ (i : Nat) (x : Int), xs[i]? = some x → -9223372036854775808 ≤ x ∧ x ≤ 9223372036854775807) : Calls Try.prog 17 #[.int .i64 n, .int .i64 s, .slice Axs xs.length cxs] w (RetQ (.tuple #[.bool (adB n s xs), .bool (numB n && askB s)]) w) := by
  have Hxs := Lib.hid hxs
  have Hr64 := Lib.hid r64
  have HN := Lib.hid fun (w : World) => prNumber_any n w
  have HS := Lib.hid fun (w : World) => prTotal_any s w
  clear hxs r64
  cases hn : numB n with
  | false =>
    have E : Hid (adB n s xs = false) := Lib.hid (adB_bad (by rw [hn]; rfl))
    rw [hn] at HN
    clear hn
    go_enter Try.func17, Try.ntmps17
    go_wp2_with fail
    refine (HN.out _).mono ?_; rintro e w1 ⟨rfl, k1, rfl⟩
    go_wp2
    go_ret2
    rw [E.out]
    exact ⟨rfl, _, rfl⟩
  | true =>
    cases hs : askB s with
    | false =>
      have E : Hid (adB n s xs = false) := Lib.hid (adB_bad (by rw [hs]; simp))
      rw [hn] at HN
      rw [hs] at HS
      clear hn hs
      go_enter Try.func17, Try.ntmps17
      go_wp2_with fail
      refine (HN.out _).mono ?_; rintro e w1 ⟨rfl, k1, rfl⟩
      go_wp2_with fail
      refine (HS.out _).mono ?_; rintro e w2 ⟨rfl, k2, rfl⟩
      go_wp2
      go_ret2
      rw [E.out]
      exact ⟨rfl, _, rfl⟩
    | true =>
      have hk : (numB n && askB s) = true := by rw [hn, hs]; rfl
      have Hk := Lib.hid hk
      obtain ⟨n1, n2⟩ := (numB_iff n).1 hn
      obtain ⟨s1, s2⟩ := (askB_iff s).1 hs
      rw [hn] at HN
      rw [hs] at HS
      clear hn hs hk
      go_enter Try.func17, Try.ntmps17
      go_wp2_with fail
      refine (HN.out _).mono ?_; rintro e w1 ⟨rfl, k1, rfl⟩
      go_wp2_with fail
      refine (HS.out _).mono ?_; rintro e w2 ⟨rfl, k2, rfl⟩
      go_wp2
      go_loopw [8, 21] (fun v8 v21 wr => ∃ (k : Nat) (last t : Int), v8 = .int .i64 t ∧ v21 = .int .i64 (k : Int) ∧ k ≤ xs.length ∧ Ad n s xs k last t ∧ ∃ m, wr = w.drewN m) (fun _ v21 _ => xs.length - (intOf v21).toNat)
      case atStart => exact ⟨0, n + 1, 0, rfl, rfl, Nat.zero_le _, Ad.start n s xs, _, rfl⟩
      case round =>
        obtain ⟨k, last, t, rfl, rfl, hkl, ha, m, rfl⟩ := hrel
        have HA := Lib.hid ha
        have a1 := ha.low
        have a2 := ha.high
        have a3 := ha.le
        have a4 := ha.is
        clear ha
        by_cases hlt : k < xs.length
        · obtain ⟨b, o, d, rfl, hbb, hx, hcell⟩ := (Hxs.out.drewN m).at_ hlt
          have hki : (k : Int) < (xs.length : Int) := by omega
          obtain ⟨d1, d2⟩ := Hr64.out k d hx
          have hpr : ∀ j, k = j + 1 → ∃ y, last = y ∧ w.cell? ⟨b, o + j, none⟩ = some (.int .i64 y) := fun j h0 => by
            subst h0
            obtain ⟨b', o', y, e, _, hy, hc⟩ := (Hxs.out.drewN m).at_ (show j < xs.length by omega)
            injection e with e
            injection e with eb eo _
            subst eb eo
            refine ⟨y, ?_, hc⟩
            rw [a4]
            simp [lastI, hy]
          have HPR := Lib.hid hpr
          have h0l : k = 0 → last = n + 1 := fun h0 => by rw [a4, h0]; rfl
          clear hpr a4
          by_cases hd : d < 1 ∨ last ≤ d ∨ n % d ≠ 0
          · have E := Lib.hid (HA.out.bad hx hd Hk.out)
            clear hx
            by_cases h1 : 1 ≤ d ∧ d ≤ n
            · have HI := Lib.hid fun (w : World) => l1In_yes d 1 n w h1.1 h1.2
              obtain ⟨h11, h12⟩ := h1
              have hne : d ≠ 0 := by omega
              by_cases h3 : n % d = 0
              · have e1 : n.tmod d = 0 := by rw [Int.tmod_eq_emod_of_nonneg (by omega)]; exact h3
                have e2 : (n.tmod d != 0) = false := by simp [e1]
                have e3 : (n % d != 0) = false := by simp [h3]
                have h2 : last ≤ d := by
                  rcases hd with h | h | h
                  · omega
                  · exact h
                  · exact absurd h3 h
                have hk0 : 0 < k := by
                  rcases Nat.eq_zero_or_pos k with h0 | h0
                  · have := h0l h0; omega
                  · exact h0
                obtain ⟨j, rfl⟩ : ∃ j, k = j + 1 := ⟨k - 1, by omega⟩
                obtain ⟨y, rfl, hcy⟩ := HPR.out j rfl
                have hk0' : (0 : Int) < ((j + 1 : Nat) : Int) := by omega
                have hkm : IntKind.i64.wrap (((j + 1 : Nat) : Int) - 1) = (j : Int) := by rw [IntWalk.i64_in _ (by omega)]; omega
                have hkb : j < xs.length := by omega
                have hkb' : (j : Int) < (xs.length : Int) := by omega
                clear hd h0l
                go_wp2_with fail
                refine (HI.out _).mono ?_; rintro e w3 ⟨rfl, k3, rfl⟩
                go_wp2
                go_ret2
                rw [E.out]
                exact ⟨rfl, _, rfl⟩
              · have e1 : n.tmod d ≠ 0 := by rw [Int.tmod_eq_emod_of_nonneg (by omega)]; exact h3
                have e2 : (n.tmod d != 0) = true := by simp [e1]
                have e3 : (n % d != 0) = true := by simp [h3]
                clear hd h0l
                go_wp2_with fail
                refine (HI.out _).mono ?_; rintro e w3 ⟨rfl, k3, rfl⟩
                go_wp2
                go_ret2
                rw [E.out]
                exact ⟨rfl, _, rfl⟩
            · have HI := Lib.hid fun (w : World) => l1In_no d 1 n w h1
              clear hd h0l h1
              go_wp2_with fail
              refine (HI.out _).mono ?_; rintro e w3 ⟨rfl, k3, rfl⟩
              go_wp2
              go_ret2
              rw [E.out]
              exact ⟨rfl, _, rfl⟩
          · have hnx := Lib.hid (HA.out.next hx hd n2)
            have h1 : ¬ d < 1 := fun h => hd (.inl h)
            have h2 : ¬ last ≤ d := fun h => hd (.inr (.inl h))
            have h3 : n % d = 0 := by
              by_cases h : n % d = 0
              · exact h
              · exact absurd (.inr (.inr h)) hd
            have HI := Lib.hid fun (w : World) => l1In_yes d 1 n w (by omega) (by omega)
            have hne : d ≠ 0 := by omega
            have e1 : n.tmod d = 0 := by rw [Int.tmod_eq_emod_of_nonneg (by omega)]; exact h3
            have e2 : (n.tmod d != 0) = false := by simp [e1]
            have e3 : (n % d != 0) = false := by simp [h3]
            clear hd hx
            by_cases hk0 : 0 < k
            · obtain ⟨j, rfl⟩ : ∃ j, k = j + 1 := ⟨k - 1, by omega⟩
              obtain ⟨y, rfl, hcy⟩ := HPR.out j rfl
              have hk0' : (0 : Int) < ((j + 1 : Nat) : Int) := by omega
              have hkm : IntKind.i64.wrap (((j + 1 : Nat) : Int) - 1) = (j : Int) := by rw [IntWalk.i64_in _ (by omega)]; omega
              have hkb : j < xs.length := by omega
              have hkb' : (j : Int) < (xs.length : Int) := by omega
              clear h0l
              go_wp2_with fail
              refine (HI.out _).mono ?_; rintro e w3 ⟨rfl, k3, rfl⟩
              go_wp2
              go_roundw
              case rel => exact ⟨j + 1 + 1, d, t + d, rfl, by go_num, by omega, hnx.out, _, rfl⟩
              case measure => simp [intOf]; omega
            · have hk0' : ¬ (0 : Int) < (k : Int) := by omega
              clear h0l
              go_wp2_with fail
              refine (HI.out _).mono ?_; rintro e w3 ⟨rfl, k3, rfl⟩
              go_wp2
              go_roundw
              case rel => exact ⟨k + 1, d, t + d, rfl, by go_num, by omega, hnx.out, _, rfl⟩
              case measure => simp [intOf]; omega
        · have hki : ¬ (k : Int) < (xs.length : Int) := by omega
          have E := Lib.hid (HA.out.done (by omega) Hk.out)
          go_wp2
          go_ret2
          rw [E.out]
          exact ⟨rfl, _, rfl⟩
end Go.Proofs.Ytiapljimgnhgoac
