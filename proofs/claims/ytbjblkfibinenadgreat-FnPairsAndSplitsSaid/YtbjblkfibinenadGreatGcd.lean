
/-
  Contracts of the two functions that compute greatest common divisors.
-/
import Derived.Test.YtbjblkfibinenadGreatPure
namespace Go.Proofs.YtbjblkfibinenadGreat
open Go.RowKit

set_option maxHeartbeats 400000 in
theorem commonDivisor_any (a b : Int) (w : World) (ha : 0 ≤ a) (hb : 0 ≤ b) (ha2 : a ≤ 9223372036854775807) (hb2 : b ≤ 9223372036854775807) :
    Calls Tryz.prog 67 #[.int .i64 a, .int .i64 b] w (RetQ (.int .i64 (gcdI a b)) w) := by
  go_enter Tryz.func67, Tryz.ntmps67
  go_wp2
  go_loopw [0, 1] (fun v0 v1 wr => ∃ x y : Int, 0 ≤ x ∧ 0 ≤ y ∧ x ≤ 9223372036854775807 ∧ y ≤ 9223372036854775807 ∧ v0 = .int .i64 x ∧ v1 = .int .i64 y ∧ gcdI x y = gcdI a b ∧ ∃ n, wr = w.drewN n) (fun _ v1 _ => (intOf v1).toNat)
  case atStart => exact ⟨a, b, ha, hb, ha2, hb2, rfl, rfl, rfl, 0, rfl⟩
  case round =>
    obtain ⟨x, y, hx, hy, hx2, hy2, rfl, rfl, hg, k, rfl⟩ := hrel
    have Hg := Lib.hid hg
    clear hg
    by_cases h0 : y = 0
    · subst h0
      go_wp2
      go_ret
      exact ⟨ret_int (by rw [← Hg.out, gcdI_zero x hx]), k, rfl⟩
    · have hne : ((y : Int) != 0) = true := by rw [bne_iff_ne]; omega
      have hy1 : 1 ≤ y := by omega
      have hr1 := Int.emod_nonneg x h0
      have hr2 := Int.emod_lt_of_pos x (b := y) (by omega)
      go_wp2
      go_region
      all_goals
        go_wp2
        go_roundw
        case rel => exact ⟨y, x % y, by omega, by omega, by omega, by omega, rfl, rfl, by rw [gcdI_step x y hx hy]; exact Hg.out, k + 1, rfl⟩
        case measure => simp [intOf]; omega

set_option maxHeartbeats 400000 in
theorem unGcd_any (a b : Int) (w : World) (ha : 0 ≤ a) (hb : 0 ≤ b) (ha2 : a ≤ 9223372036854775807) (hb2 : b ≤ 9223372036854775807) :
    Calls Tryz.prog 53 #[.int .i64 a, .int .i64 b] w (RetQ (.int .i64 (gcdI a b)) w) := by
  go_enter Tryz.func53, Tryz.ntmps53
  go_wp2
  go_loopw [0, 1] (fun v0 v1 wr => ∃ x y : Int, 0 ≤ x ∧ 0 ≤ y ∧ x ≤ 9223372036854775807 ∧ y ≤ 9223372036854775807 ∧ v0 = .int .i64 x ∧ v1 = .int .i64 y ∧ gcdI x y = gcdI a b ∧ ∃ n, wr = w.drewN n) (fun _ v1 _ => (intOf v1).toNat)
  case atStart => exact ⟨a, b, ha, hb, ha2, hb2, rfl, rfl, rfl, 0, rfl⟩
  case round =>
    obtain ⟨x, y, hx, hy, hx2, hy2, rfl, rfl, hg, k, rfl⟩ := hrel
    have Hg := Lib.hid hg
    clear hg
    by_cases h0 : y = 0
    · subst h0
      go_wp2
      go_ret
      exact ⟨ret_int (by rw [← Hg.out, gcdI_zero x hx]), k, rfl⟩
    · have hy1 : 1 ≤ y := by omega
      have hr1 := Int.emod_nonneg x h0
      have hr2 := Int.emod_lt_of_pos x (b := y) (by omega)
      go_wp2
      go_region
      all_goals
        go_wp2
        go_roundw
        case rel => exact ⟨y, x % y, by omega, by omega, by omega, by omega, rfl, rfl, by rw [gcdI_step x y hx hy]; exact Hg.out, k + 1, rfl⟩
        case measure => simp [intOf]; omega
end Go.Proofs.YtbjblkfibinenadGreat
