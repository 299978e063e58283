
/-
  Contracts of the last step of functions that make an expansion: it is let pass only if it is one.
-/
import Derived.Test.YtbjblkfibinenadGreatLists
import Derived.Test.YtbjblkfibinenadGreatSum2
namespace Go.Proofs.YtbjblkfibinenadGreat
open Go.RowKit
def In64 (xs : List Int) : Prop := ∀ (i : Nat) (x : Int), xs[i]? = some x → -9223372036854775808 ≤ x ∧ x ≤ 9223372036854775807
theorem In64.of_mem {xs : List Int} (h : ∀ x ∈ xs, -9223372036854775808 ≤ x ∧ x ≤ 9223372036854775807) : In64 xs := fun _ x hx => h x (List.mem_of_getElem? hx)
theorem In64.mem {xs : List Int} (h : In64 xs) : ∀ x ∈ xs, -9223372036854775808 ≤ x ∧ x ≤ 9223372036854775807 := fun x hx => by
  obtain ⟨i, hi⟩ := List.getElem?_of_mem hx
  exact h i x hi
theorem expB_small {xs : List Int} (h : expB xs = true) : ∀ x ∈ xs, 1 ≤ x ∧ x ≤ 1000000000 := fun x hx => by
  obtain ⟨i, hi⟩ := List.getElem?_of_mem hx
  exact rise_in (expB_parts h).2.1 i x hi
theorem expB_len {xs : List Int} (h : expB xs = true) : xs.length ≤ 24 := (expB_parts h).1
theorem ifExp_yes (w : World) (Axs : Option Addr) (cxs : Nat) (xs : List Int) (hxs : Reads w Axs xs) (lxs : xs.length ≤ 1048576) (r64 : In64 xs) (h : expB xs = true) : Calls Tryz.prog 62 #[.slice Axs xs.length cxs] w (Ret (.tuple #[.slice Axs xs.length cxs, .bool true]) w) := by
  have Hr64 := Lib.hid r64
  have Hxs := Lib.hid hxs
  clear r64 hxs
  go_enter Tryz.func62, Tryz.ntmps62
  go_wp2_with fail
  refine (isExpansion_any _ _ _ _ Hxs.out lxs Hr64.out).mono ?_; rintro e w1 ⟨rfl, hb1⟩
  go_wp2
  go_ret2
  exact ⟨rfl, by (repeat' (first | (with_reducible exact Below.refl _ _) | (with_reducible assumption) | (with_reducible refine Below.drew ?_) | (with_reducible refine belowDrewN ?_ _) | (with_reducible refine Below.alloc ?_ ?_ _) | (with_reducible refine Below.setCell ?_ ?_ _) | (with_reducible refine belowStep (by assumption) ?_ ?_) | (with_reducible exact Below.size (by assumption)) | go_size))⟩
theorem ifExp_no (w : World) (Axs : Option Addr) (cxs : Nat) (xs : List Int) (hxs : Reads w Axs xs) (lxs : xs.length ≤ 1048576) (r64 : In64 xs) (h : expB xs = false) : Calls Tryz.prog 62 #[.slice Axs xs.length cxs] w (Ret (.tuple #[.slice none 0 0, .bool false]) w) := by
  have Hr64 := Lib.hid r64
  have Hxs := Lib.hid hxs
  clear r64 hxs
  go_enter Tryz.func62, Tryz.ntmps62
  go_wp2_with fail
  refine (isExpansion_any _ _ _ _ Hxs.out lxs Hr64.out).mono ?_; rintro e w1 ⟨rfl, hb1⟩
  go_wp2
  go_ret2
  exact ⟨rfl, by (repeat' (first | (with_reducible exact Below.refl _ _) | (with_reducible assumption) | (with_reducible refine Below.drew ?_) | (with_reducible refine belowDrewN ?_ _) | (with_reducible refine Below.alloc ?_ ?_ _) | (with_reducible refine Below.setCell ?_ ?_ _) | (with_reducible refine belowStep (by assumption) ?_ ?_) | (with_reducible exact Below.size (by assumption)) | go_size))⟩
theorem unList_yes (w : World) (Axs : Option Addr) (cxs : Nat) (xs : List Int) (hxs : Reads w Axs xs) (lxs : xs.length ≤ 1048576) (h : expB xs = true) : Calls Tryz.prog 40 #[.slice Axs xs.length cxs] w (Ret (.tuple #[.slice Axs xs.length cxs, .bool true]) w) := by
  have Hxs := Lib.hid hxs
  clear hxs
  go_enter Tryz.func40, Tryz.ntmps40
  go_wp2_with fail
  refine (unExpansion_any _ _ _ _ Hxs.out lxs).mono ?_; rintro e w1 ⟨rfl, hb1⟩
  go_wp2
  go_ret2
  exact ⟨rfl, by (repeat' (first | (with_reducible exact Below.refl _ _) | (with_reducible assumption) | (with_reducible refine Below.drew ?_) | (with_reducible refine belowDrewN ?_ _) | (with_reducible refine Below.alloc ?_ ?_ _) | (with_reducible refine Below.setCell ?_ ?_ _) | (with_reducible refine belowStep (by assumption) ?_ ?_) | (with_reducible exact Below.size (by assumption)) | go_size))⟩
theorem unList_no (w : World) (Axs : Option Addr) (cxs : Nat) (xs : List Int) (hxs : Reads w Axs xs) (lxs : xs.length ≤ 1048576) (h : expB xs = false) : Calls Tryz.prog 40 #[.slice Axs xs.length cxs] w (Ret (.tuple #[.slice none 0 0, .bool false]) w) := by
  have Hxs := Lib.hid hxs
  clear hxs
  go_enter Tryz.func40, Tryz.ntmps40
  go_wp2_with fail
  refine (unExpansion_any _ _ _ _ Hxs.out lxs).mono ?_; rintro e w1 ⟨rfl, hb1⟩
  go_wp2
  go_ret2
  exact ⟨rfl, by (repeat' (first | (with_reducible exact Below.refl _ _) | (with_reducible assumption) | (with_reducible refine Below.drew ?_) | (with_reducible refine belowDrewN ?_ _) | (with_reducible refine Below.alloc ?_ ?_ _) | (with_reducible refine Below.setCell ?_ ?_ _) | (with_reducible refine belowStep (by assumption) ?_ ?_) | (with_reducible exact Below.size (by assumption)) | go_size))⟩
end Go.Proofs.YtbjblkfibinenadGreat
