
/-
  What the listed package-level variables give the walks: the table of powers of ten, the two sentinels, and that a number lies in MaxLen; all of it stands in later worlds.
-/
import Derived.Test.YtbjblkfibinenabDoorNum
import Derived.Test.YtbjblkfibinenabDoorShelf
import Derived.WalkSmall
import Derived.Lib.LaidTab
import Derived.Stop.LaidErr
import Derived.Stop.Joined
import Derived.Handed
import Derived.HandedShaped
import Derived.Shelf.Vars
import Derived.Shelf.GgClosure.Gives
namespace Go.Proofs.YtbjblkfibinenabDoor
open Go.RowKit
def EnvI (w : World) : Prop := Lib.TabIs Tryd.prog w "internal/strconv.uint64pow10" .u64 Lib.pow10Tab ∧ 3 < w.heap.size
theorem gPow : Tryd.prog.globalNamed "internal/strconv.uint64pow10" = some 3 := by kernel_rfl
theorem EnvI.below {w w' : World} (h : EnvI w) (hb : Below w.heap.size w w') : EnvI w' := ⟨var?_below hb gPow h.2 h.1, Nat.lt_of_lt_of_le h.2 hb.size⟩
theorem pow_data : (Rows.laid_internal_strconv_uint64pow10 : DataW Unit) = Lib.tabData .u64 Lib.pow10Tab := by kernel_rfl
theorem EnvI.of_laid {rest : List (String × DataW Unit)} {W : World} (h : laidMet Tryd.prog (("internal/strconv.uint64pow10", Rows.laid_internal_strconv_uint64pow10) :: rest) W) : EnvI W := by
  rw [pow_data] at h
  have ht : Lib.TabIs Tryd.prog W "internal/strconv.uint64pow10" .u64 Lib.pow10Tab :=
    Lib.tabIs_of_head gPow (by kernel_rfl) Tryd.underlying130 Tryd.underlying65 (by kernel_rfl) (by kernel_rfl) h
  refine ⟨ht, ?_⟩
  have hc := ht.cell gPow 0 (by rw [Lib.pow10Tab_length]; omega)
  exact Lib.lt_of_cell hc
theorem itoa_any (n : Int) (w : World) (h0 : -9223372036854775808 ≤ n) (h1 : n ≤ 9223372036854775807) (hE : EnvI w) : Calls Tryd.prog 69 #[.int .i64 n] w (RetS (Lib.itoa n) w) :=
  (Tryd.strconv_Itoa n h0 h1 w hE.1).mono fun e w' ⟨he, k, os, hw⟩ => ⟨he, by rw [hw]; exact below_grown w k os⟩
theorem itoa_nat (n : Int) (w : World) (h0 : 0 ≤ n) (h1 : n ≤ 9223372036854775807) (hE : EnvI w) : Calls Tryd.prog 69 #[.int .i64 n] w (RetS (Lib.decDigits n.toNat) w) := by
  have h := itoa_any n w (by omega) h1 hE
  rwa [Lib.itoa, if_neg (by omega)] at h
end Go.Proofs.YtbjblkfibinenabDoor
