
/-
  Contracts of the program's helpers on lists in which numbers stand twice.
-/
import Derived.Test.YtbjblkfibinenadGreatTwS
namespace Go.Proofs.YtbjblkfibinenadGreat
open Go.RowKit
def twK (xs : List Int) : Int := match tw xs with | some i => (i : Int) | none => 0
theorem twK_some {xs : List Int} {i : Nat} (h : tw xs = some i) : twK xs = (i : Int) := by simp [twK, h]
theorem twK_none {xs : List Int} (h : tw xs = none) : twK xs = 0 := by simp [twK, h]
set_option maxHeartbeats 2000000 in
theorem firstTwice_any (w : World) (Axs : Option Addr) (cxs : Nat) (xs : List Int) (hxs : Reads w Axs xs) (lxs : xs.length ≤ 1048576) : Calls Tryz.prog 135 #[.slice Axs xs.length cxs] w (RetQ (.tuple #[.int .i64 (twK xs), .bool (tw xs).isSome]) w) := by
  have Hxs := Lib.hid hxs
  clear hxs
  go_enter Tryz.func135, Tryz.ntmps135
  go_wp2
  go_loopw [4] (fun v4 wr => ∃ k : Nat, (k ≤ xs.length ∨ k = 0) ∧ v4 = .int .i64 ((k : Int) + 1) ∧ tw xs = (tw (xs.drop k)).map (· + k) ∧ ∃ n, wr = w.drewN n) (fun v4 _ => xs.length - (intOf v4).toNat)
  case atStart => exact ⟨0, Or.inr rfl, rfl, by cases h : tw xs <;> simp [h], 0, rfl⟩
  case round =>
    obtain ⟨k, hk, rfl, ht, n, rfl⟩ := hrel
    have HT := Lib.hid ht
    clear ht
    by_cases hlt : k + 1 < xs.length
    · obtain ⟨b, o, x, y, rfl, hb, hx, hy, hcell, hcell2⟩ := Hxs.out.at2 (k := k) (j := k + 1) (by omega) hlt
      have hki : (k : Int) + 1 < (xs.length : Int) := by omega
      by_cases hxy : x = y
      · subst hxy
        have E0 : tw xs = some k := by rw [HT.out, tw_hit hx hy]; simp
        have E : Hid (twK xs = (k : Int)) := Lib.hid (twK_some E0)
        have E1 : Hid ((tw xs).isSome = true) := Lib.hid (by rw [E0]; rfl)
        clear hx hy E0
        go_wp2
        go_quiet (fail)
        go_wp2
        go_ret2
        rw [E.out, E1.out]
        exact ⟨by go_num, _, rfl⟩
      · have E : Hid (tw xs = (tw (xs.drop (k + 1))).map (· + (k + 1))) := Lib.hid (by
          rw [HT.out, tw_miss hx hy hxy, Option.map_map]
          congr 1
          funext z
          simp; omega)
        have hne : (y == x) = false := by simp [Ne.symm hxy]
        clear hx hy hxy
        go_wp2
        go_quiet (fail)
        go_wp2
        go_roundw
        case rel => exact ⟨k + 1, by omega, by go_num, E.out, _, rfl⟩
        case measure => simp [intOf]; omega
    · have hki : ¬ (k : Int) + 1 < (xs.length : Int) := by omega
      have E0 : tw xs = none := by rw [HT.out, tw_end (by omega)]; rfl
      have E : Hid (twK xs = 0) := Lib.hid (twK_none E0)
      have E1 : Hid ((tw xs).isSome = false) := Lib.hid (by rw [E0]; rfl)
      clear E0
      go_wp2
      go_ret2
      rw [E.out, E1.out]
      exact ⟨rfl, n, rfl⟩
end Go.Proofs.YtbjblkfibinenadGreat
