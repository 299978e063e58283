
/-
  Contracts of the laws' own helpers.
-/
import Derived.Test.YtiapljimgnhgoacDraw
import Derived.Test.YtiapljimgnhgoacSum2
import Derived.Test.YtiapljimgnhgoacHas
import Derived.Test.YtiapljimgnhgoacShell
namespace Go.Proofs.Ytiapljimgnhgoac
open Go.RowKit
def bigB (n m : Nat) : Bool := decide (1048576 < n) || decide (1048576 < n + m)
theorem big_any (w : World) (A B : Option Addr) (n m c d : Nat) (hn : n ≤ 9223372036854775807) (hm : m ≤ 9223372036854775807) : Calls Try.prog 6 #[.slice A n c, .slice B m d] w (RetQ (.bool (bigB n m)) w) := by
  by_cases h : 1048576 < n
  · have h1 : 1048576 < (n : Int) := by omega
    have E : Hid (bigB n m = true) := by show bigB n m = true; simp [bigB, h]
    go_enter Try.func6, Try.ntmps6
    go_wp2
    go_ret
    exact ⟨ret_bool (by first | (rw [E.out]; done) | (rw [E.out]; simp; done) | (rw [E.out]; simp; omega)), 0, rfl⟩
  · have h1 : ¬ 1048576 < (n : Int) := by omega
    have h2 : (n : Int) ≤ 1048576 := by omega
    have E : Hid (bigB n m = decide (1048576 - (n : Int) < m)) := by
      show bigB n m = _
      rw [Bool.eq_iff_iff]; simp [bigB, h]; omega
    go_enter Try.func6, Try.ntmps6
    go_wp2
    go_ret
    exact ⟨ret_bool (by first | (rw [E.out]; done) | (rw [E.out]; simp; done) | (rw [E.out]; simp; omega)), 0, rfl⟩
open Go.ChangeShapes Go.WideShapes Go.ChangeAt Go.Joins Go.Deep
section
variable {H : Type} {enc : TypeId × Value → H} {P : Program}
/-- A slice of bytes: nil, empty or not, one way. -/
theorem open_bytes_reads {W : World} {r : Reach} {b0 : Nat} {t ti : TypeId} {v : Value} {d : DataW H} {p : List MemPlace} (ht : P.underlying t = some (.slice ti)) (hti : P.underlying ti = some (.int .u8)) (hC : P.cellsOf ti = 1)
    (hv : Value.okWide P W r b0 t v) (h : DataW.Trod enc P W 0 (fun _ => true) true t v d p) (hlt : ∀ y ∈ p, y.block < W.heap.size) :
    ∃ (A : Option Addr) (c : Nat) (n : Nat), v = .slice A n c ∧ (ReadsB W A n ∧ n ≤ 9223372036854775807) := by
  obtain ⟨a0, len, cap, rfl⟩ := okWide_slice ht hv
  obtain ⟨fuel, hf⟩ := h
  rcases open_ints ht hti hC hf with ⟨hcs, _⟩ | ⟨a, len', cap', zs, hcs, _, hl, hm, hz, hx, hcell, hw⟩
  · simp [Value.cells] at hcs
    obtain ⟨rfl, rfl, rfl⟩ := hcs
    exact ⟨none, 0, 0, rfl, fun h0 => by omega, by omega⟩
  · simp [Value.cells] at hcs
    obtain ⟨rfl, rfl, rfl⟩ := hcs
    simp only [if_true] at hz
    unfold maxLen at hm
    refine ⟨some a, cap, len, rfl, fun h0 => ?_, by omega⟩
    obtain ⟨b, o, spot⟩ := a
    have hspot : spot = none := by simpa [Addr.add] using World.cell?_spot (hcell 0 (by omega))
    subst hspot
    refine ⟨b, o, rfl, ?_, fun i hi => ?_⟩
    · simp only [Prod.mk.injEq] at hx
      exact hlt (.cell b o) (by rw [hx.2]; exact MemPlace.mem_row.2 ⟨0, by omega, by simp⟩)
    · have hc := hcell i (by omega)
      have hb := range_u8 hw i
      refine ⟨zs.getD i 0, by simpa [Go.WideShapes.add_plain] using hc, ?_⟩
      simpa [List.getD] using hb
end
end Go.Proofs.Ytiapljimgnhgoac
