
/-
  Contract of CountSums in the model.
-/
import Derived.Test.YtbjblkfibinenadCntP
import Derived.Test.YtbjblkfibinenadRchC
import Derived.Test.YtbjblkfibinenadDivS
import Derived.Test.YtbjblkfibinenadAdC
namespace Go.Proofs.Ytbjblkfibinenad
open Go.RowKit
theorem mk_own {w1 : World} {base n : Nat} {v : Value} (h : w1.ownsRow base 3 1 v n (madeCells (Value.int .i64 0).cells (n * 1)).toList) : OwnI w1 base v (List.replicate n 0) := by
  unfold OwnI
  rw [List.map_replicate, List.length_replicate]
  rw [show (Value.int IntKind.i64 0).cells = #[Value.int IntKind.i64 0] from rfl, Nat.mul_one, toList_madeCells_one] at h
  exact h
theorem mk_one {w1 : World} {base g S c : Nat} (h : OwnI w1 base (.slice (some ⟨g, 0, none⟩) (S + 1) c) (List.replicate (S + 1) 0)) : OwnI (w1.setCell ⟨g, 0, none⟩ (.int .i64 1)) base (.slice (some ⟨g, 0, none⟩) (S + 1) c) (wl [] S) := by
  rw [← wl_begin]
  exact h.set_ (by simp) 0 1
/-- what the counts tell -/
def csV (n s : Int) : Value := if numB n = true ∧ askB s = true ∧ ways (dsc n.toNat n.toNat) s.toNat ≤ 1000000000 then .tuple #[.int .i64 (ways (dsc n.toNat n.toNat) s.toNat : Nat), .bool true] else .tuple #[.int .i64 0, .bool false]
theorem csV_n {n s : Int} (h : numB n = false) : csV n s = .tuple #[.int .i64 0, .bool false] := by unfold csV; rw [if_neg (fun e => by rw [h] at e; cases e.1)]
theorem csV_s {n s : Int} (h : askB s = false) : csV n s = .tuple #[.int .i64 0, .bool false] := by unfold csV; rw [if_neg (fun e => by rw [h] at e; cases e.2.1)]
theorem csV_big {N S : Nat} (h : ¬ ways (dsc N N) S ≤ 1000000000) : csV (N : Int) (S : Int) = .tuple #[.int .i64 0, .bool false] := by unfold csV; rw [if_neg (fun e => h (by simpa using e.2.2))]
theorem csV_ok {N S : Nat} (hn : numB (N : Int) = true) (hs : askB (S : Int) = true) (h : ways (dsc N N) S ≤ 1000000000) : csV (N : Int) (S : Int) = .tuple #[.int .i64 ((ways (dsc N N) S : Nat) : Int), .bool true] := by
  unfold csV
  rw [if_pos ⟨hn, hs, by simpa using h⟩]
  rfl
theorem askB_nat {s : Int} (h : askB s = true) : ∃ S : Nat, s = (S : Int) ∧ S ≤ 100000 := by
  obtain ⟨h1, h2⟩ := (askB_iff s).1 h
  exact ⟨s.toNat, by omega, by omega⟩
end Go.Proofs.Ytbjblkfibinenad
