
/-
  The contract of the library's binary search in a rising list.
-/
import Derived.Test.YtbjblkfibinenacInsP
import Derived.Test.YtbjblkfibinenacOrder
namespace Go.Proofs.Ytbjblkfibinenac
open Go.RowKit
theorem isNaN2_any (a : Int) (w : World) : Calls Try.prog 142 #[.int .i64 a] w (RetQ (.bool false) w) := by
  go_enter Try.func142, Try.ntmps142
  go_wp2
  go_ret
  exact ⟨ret_bool (by simp), 0, rfl⟩
theorem less_yes (a b : Int) (w : World) (h : a < b) : Calls Try.prog 127 #[.int .i64 a, .int .i64 b] w (RetQ (.bool true) w) := by
  go_enter Try.func127, Try.ntmps127
  go_wp2_with (go_at_call 103; refine (isNaN_any _ _).mono ?_; rintro e w1 ⟨rfl, k1, rfl⟩)
  go_ret
  exact ⟨ret_bool (by first | (simp; done) | (simp; omega)), _, rfl⟩
theorem less_no (a b : Int) (w : World) (h : b ≤ a) : Calls Try.prog 127 #[.int .i64 a, .int .i64 b] w (RetQ (.bool false) w) := by
  go_enter Try.func127, Try.ntmps127
  go_wp2_with (go_at_call 103; refine (isNaN_any _ _).mono ?_; rintro e w1 ⟨rfl, k1, rfl⟩)
  go_ret
  exact ⟨ret_bool (by first | (simp; done) | (simp; omega)), _, rfl⟩

set_option maxHeartbeats 2000000 in
theorem search_any (w : World) (v : Int) (Axs : Option Addr) (cxs : Nat) (xs : List Int) (hxs : Reads w Axs xs) (lxs : xs.length ≤ 1048576) (hs : Rising xs) :
    Calls Try.prog 139 #[.slice Axs xs.length cxs, .int .i64 v] w (RetQ (.tuple #[.int .i64 (pos xs v), .bool (decide (xs[pos xs v]? = some v))]) w) := by
  have Hs := Lib.hid hs
  have Hxs := Lib.hid hxs
  clear hs hxs
  go_enter Try.func139, Try.ntmps139
  go_wp2
  go_loopw [7, 8] (fun v7 v8 wr => ∃ i j : Nat, i ≤ j ∧ j ≤ xs.length ∧ v7 = .int .i64 i ∧ v8 = .int .i64 j ∧ (∀ (k : Nat) (x : Int), k < i → xs[k]? = some x → x < v) ∧ (∀ (k : Nat) (x : Int), j ≤ k → xs[k]? = some x → v ≤ x) ∧ ∃ n, wr = w.drewN n) (fun v7 v8 _ => (intOf v8).toNat - (intOf v7).toNat)
  case atStart => exact ⟨0, xs.length, Nat.zero_le _, Nat.le_refl _, rfl, rfl, fun k x h => by omega, (fun k x h h2 => by rw [List.getElem?_eq_none h] at h2; cases h2), 0, rfl⟩
  case round =>
    obtain ⟨i, j, hij, hj, rfl, rfl, h1, h2, n, rfl⟩ := hrel
    have H1 := Lib.hid h1
    have H2 := Lib.hid h2
    clear h1 h2
    by_cases hlt : i < j
    · obtain ⟨b, o, x, rfl, hb, hx, hcell⟩ := Hxs.out.at_ (k := (i + j) / 2) (by omega)
      have Hx := Lib.hid hx
      clear hx
      by_cases hle : x < v
      · go_wp2_with (go_at_call 127; refine (less_yes _ _ _ hle).mono ?_; rintro e w1 ⟨rfl, k1, rfl⟩)
        go_roundw
        case rel => exact ⟨(i + j) / 2 + 1, j, by omega, hj, congrArg (Value.int .i64) (by omega), rfl, (fun k y h hy => by have := (Hs.out).le (show k ≤ (i + j) / 2 by omega) hy Hx.out; omega), H2.out, _, rfl⟩
        case measure => simp [intOf]; omega
      · go_wp2_with (go_at_call 127; refine (less_no _ _ _ (by omega)).mono ?_; rintro e w1 ⟨rfl, k1, rfl⟩)
        go_roundw
        case rel => exact ⟨i, (i + j) / 2, by omega, by omega, rfl, congrArg (Value.int .i64) (by omega), H1.out, (fun k y h hy => by have := (Hs.out).le h Hx.out hy; omega), _, rfl⟩
        case measure => simp [intOf]; omega
    · obtain rfl : i = j := by omega
      have Hp := Lib.hid (pos_of hj H1.out (fun x hx => H2.out i x (Nat.le_refl _) hx))
      by_cases hl : i < xs.length
      · obtain ⟨b, o, x, rfl, hb, hx, hcell⟩ := Hxs.out.at_ hl
        have Hx := Lib.hid hx
        clear hx
        by_cases he : x = v
        · have hee : (x == v) = true := by simp [he]
          have He := Lib.hid he
          clear he
          go_wp2_with (go_at_call 142; refine (isNaN2_any _ _).mono ?_; rintro e w1 ⟨rfl, k1, rfl⟩)
          go_ret2
          exact ⟨ret_ib (by rw [Hp.out]) (by rw [Hp.out, Hx.out, He.out]; simp), _, rfl⟩
        · have hee : (x == v) = false := by simp [he]
          have He := Lib.hid he
          clear he
          go_wp2_with (go_at_call 142; refine (isNaN2_any _ _).mono ?_; rintro e w1 ⟨rfl, k1, rfl⟩)
          go_ret2
          exact ⟨ret_ib (by rw [Hp.out]) (by rw [Hp.out, Hx.out]; simp [He.out]), _, rfl⟩
      · go_wp2
        go_ret2
        exact ⟨ret_ib (by rw [Hp.out]) (by rw [Hp.out, List.getElem?_eq_none (by omega)]; rfl), _, rfl⟩
end Go.Proofs.Ytbjblkfibinenac
