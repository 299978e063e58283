
/-
  Contracts of the program's expansions by pairs and by splits.
-/
import Derived.Test.YtolgjokghecceaaTwX
namespace Go.Proofs.Ytolgjokghecceaa
open Go.RowKit
open Go.Maps Go.WideMaps
set_option maxRecDepth 100000 in
set_option maxHeartbeats 2000000 in
theorem pairExp_any (n d : Int) (w : World) (rn : -9223372036854775808 ≤ n ∧ n ≤ 9223372036854775807) (rd : -9223372036854775808 ≤ d ∧ d ≤ 9223372036854775807) : Calls Try.prog 7 #[.agg #[.int .i64 n, .int .i64 d]] w (RetLB ((twE repP n d).getD []) (twE repP n d).isSome w) := by
  have HX := Lib.hid fun (w : World) => expandBy_any ⟨#[112, 97, 105, 114]⟩ (by decide) 53 97 pairD n d (if proB n d = true then twO repP n d else none) w rn rd pairMethod (fun _ _ => rfl) (fun hp w => by rw [if_pos hp]; exact pairTerms_any n d w hp) (fun xs hx => by
    split at hx
    · rename_i hp
      exact twO_facts repP_good hp hx
    · cases hx)
  have E : Hid (pexO n d (if proB n d = true then twO repP n d else none) = twE repP n d) := Lib.hid (by unfold twE pexO; cases proB n d <;> rfl)
  go_enter Try.func7, Try.ntmps7
  go_wp2_with fail
  refine (HX.out _).mono ?_; rintro e w2 ⟨v2, rfl, ho2, hb2⟩
  rw [E.out] at ho2 ⊢
  have Ho2 := Lib.hid ho2
  have hz2 := hb2.size
  clear ho2
  go_wp2
  go_ret2
  exact ⟨_, rfl, Ho2.out.mono (by (first | (go_size; done) | ((try simp only [World.size_alloc, World.size_setCell, World.size_drew, World.heap_drewN]); omega))), by (repeat' (first | (with_reducible exact Below.refl _ _) | (with_reducible assumption) | (with_reducible refine Below.drew ?_) | (with_reducible refine belowDrewN ?_ _) | (with_reducible refine Below.alloc ?_ ?_ _) | (with_reducible refine Below.setCell ?_ ?_ _) | (with_reducible refine belowStep (by assumption) ?_ ?_) | (with_reducible exact Below.size (by assumption)) | go_size))⟩
set_option maxRecDepth 100000 in
set_option maxHeartbeats 2000000 in
theorem splitExp_any (n d : Int) (w : World) (rn : -9223372036854775808 ≤ n ∧ n ≤ 9223372036854775807) (rd : -9223372036854775808 ≤ d ∧ d ≤ 9223372036854775807) : Calls Try.prog 12 #[.agg #[.int .i64 n, .int .i64 d]] w (RetLB ((twE repS n d).getD []) (twE repS n d).isSome w) := by
  have HX := Lib.hid fun (w : World) => expandBy_any ⟨#[115, 112, 108, 105, 116]⟩ (by decide) 54 107 splitD n d (if proB n d = true then twO repS n d else none) w rn rd splitMethod (fun _ _ => rfl) (fun hp w => by rw [if_pos hp]; exact splitTerms_any n d w hp) (fun xs hx => by
    split at hx
    · rename_i hp
      exact twO_facts repS_good hp hx
    · cases hx)
  have E : Hid (pexO n d (if proB n d = true then twO repS n d else none) = twE repS n d) := Lib.hid (by unfold twE pexO; cases proB n d <;> rfl)
  go_enter Try.func12, Try.ntmps12
  go_wp2_with fail
  refine (HX.out _).mono ?_; rintro e w2 ⟨v2, rfl, ho2, hb2⟩
  rw [E.out] at ho2 ⊢
  have Ho2 := Lib.hid ho2
  have hz2 := hb2.size
  clear ho2
  go_wp2
  go_ret2
  exact ⟨_, rfl, Ho2.out.mono (by (first | (go_size; done) | ((try simp only [World.size_alloc, World.size_setCell, World.size_drew, World.heap_drewN]); omega))), by (repeat' (first | (with_reducible exact Below.refl _ _) | (with_reducible assumption) | (with_reducible refine Below.drew ?_) | (with_reducible refine belowDrewN ?_ _) | (with_reducible refine Below.alloc ?_ ?_ _) | (with_reducible refine Below.setCell ?_ ?_ _) | (with_reducible refine belowStep (by assumption) ?_ ?_) | (with_reducible exact Below.size (by assumption)) | go_size))⟩
end Go.Proofs.Ytolgjokghecceaa
