
/-
  Rows of doublings: arrays of 20 numbers as values and as blocks.
-/
import Derived.Deep.WholeRow
import Derived.Laws.CopyOwn
import Derived.Laws.Tables
import Derived.Test.YthkchhjidihkpaaLists
import Derived.Test.YthkchhjidihkpaaList
namespace Go.Proofs.Ythkchhjidihkpaa
open Go.RowKit
def rowA (xs : List Int) : Array Value := (xs.map (Value.int .i64)).toArray
def rowV (xs : List Int) : Value := .agg (rowA xs)
def zr : List Int := List.replicate 20 0
theorem rowA_size (xs : List Int) : (rowA xs).size = xs.length := by simp [rowA]
theorem rowA_at {xs : List Int} {k : Nat} {x : Int} (h : xs[k]? = some x) : (rowA xs)[k]? = some (.int .i64 x) := by simp [rowA, h]
theorem rowA_set (xs : List Int) (k : Nat) (x : Int) : (rowA xs).setIfInBounds k (.int .i64 x) = rowA (xs.set k x) := by
  unfold rowA
  simp [List.map_set]
theorem rowA_one (xs : List Int) : (rowA xs).all (·.oneCell') = true := by
  rw [Array.all_eq_true_iff_forall_mem]
  intro v hv
  unfold rowA at hv
  rw [List.mem_toArray] at hv
  obtain ⟨x, _, rfl⟩ := List.mem_map.1 hv
  rfl
theorem rowV_inj {xs ys : List Int} (h : rowV xs = rowV ys) : xs = ys := by
  unfold rowV rowA at h
  injection h with h
  have h2 := congrArg Array.toList h
  simp only [] at h2
  exact (List.map_inj_right (fun _ _ e => by injection e)).1 h2
theorem rowInfo : (Try.prog.info? 53).map (fun i => (i.zero, i.size)) = some (some (rowV zr), 20) := by kernel_rfl
theorem rowUnd : Try.prog.underlying 53 = some (.array 20 3) := by kernel_rfl
theorem rowSize {xs : List Int} (h : xs.length = 20) : (Try.prog.info? 53).map (·.size) = some (rowA xs).size := by rw [rowA_size, h]; exact (zero_of_info rowInfo).2
/-- a block that holds a row -/
def RowAt (w : World) (g : Nat) (xs : List Int) : Prop := w.heap[g]? = some (.cells (rowA xs) 53 (0, 0)) ∧ xs.length = 20
theorem RowAt.lt {w : World} {g : Nat} {xs : List Int} (h : RowAt w g xs) : g < w.heap.size := (Array.getElem?_eq_some_iff.1 h.1).1
theorem RowAt.below {w w' : World} {g : Nat} {xs : List Int} (h : RowAt w g xs) (hb : Below w.heap.size w w') : RowAt w' g xs := ⟨by rw [hb.block g h.lt]; exact h.1, h.2⟩
theorem RowAt.belowB {w w' : World} {g B : Nat} {xs : List Int} (h : RowAt w g xs) (hb : Below B w w') (hg : g < B) : RowAt w' g xs := ⟨by rw [hb.block g hg]; exact h.1, h.2⟩
theorem RowAt.cell {w : World} {g k : Nat} {xs : List Int} {x : Int} (h : RowAt w g xs) (hk : xs[k]? = some x) : w.cell? ⟨g, k, none⟩ = some (.int .i64 x) := by
  rw [cell_of_row w g k _ _ _ h.1]; exact rowA_at hk
theorem RowAt.frozen {w : World} {g : Nat} {xs : List Int} (h : RowAt w g xs) (k : Nat) : w.frozen? ⟨g, k, none⟩ = false := frozen_of_row w g k _ _ h.1
theorem RowAt.set {w : World} {g : Nat} {xs : List Int} (h : RowAt w g xs) (k : Nat) (x : Int) : RowAt (w.setCell ⟨g, k, none⟩ (.int .i64 x)) g (xs.set k x) := by
  refine ⟨?_, by rw [List.length_set]; exact h.2⟩
  rw [heap_setCell_same w g k _ _ _ h.1, rowA_set]
section
variable {ops : Array Oper} {rest : List Oper} {o : Oper} {a : Act} {w : World} {Q : Exit → Act → World → Prop}
theorem step_runR (hgd : o.guard = none) (v : Value) (w' : World) (hrun : (execOp a.eval o).run Try.prog w = .ok (.value v) w') (h : wpList Try.prog ops Q rest (a.put o.dst v) w') : wpList Try.prog ops Q (o :: rest) a w :=
  wpList_plain hgd fun K hK => by
    unfold Oper.wp
    rw [hrun, Oper.upon_value]
    exact hK _ _ h
theorem step_allocR (hgd : o.guard = none) (ho : o.op = .alloc 53)
    (h : ∀ w', RowAt w' w.heap.size zr → Below w.heap.size w w' → w'.heap.size = w.heap.size + 1 → wpList Try.prog ops Q rest (a.put o.dst (.pointer (some ⟨w.heap.size, 0, none⟩))) w') : wpList Try.prog ops Q (o :: rest) a w := by
  refine step_runR hgd _ (w.alloc (.cells (rowA zr) 53)) ?_ (h _ ⟨heap_alloc_last _ _, rfl⟩ ((Below.refl _ _).alloc (Nat.le_refl _) _) (by simp))
  have hz := (zero_of_info rowInfo).1 w
  unfold execOp
  rw [ho]
  simp [Instr.alloc, newVar, newRow, Sem.run_bind, hz, rowV, Value.cells, go_sem]
theorem step_boxR (xs : List Int) (hx : xs.length = 20) (x : Operand) (hgd : o.guard = none) (ho : o.op = .box 53 x) (hv : a.eval x = rowV xs)
    (h : ∀ w', RowAt w' w.heap.size xs → Below w.heap.size w w' → w'.heap.size = w.heap.size + 1 → wpList Try.prog ops Q rest (a.put o.dst (.pointer (some ⟨w.heap.size, 0, none⟩))) w') : wpList Try.prog ops Q (o :: rest) a w := by
  refine step_runR hgd _ (w.alloc (.cells (rowA xs) 53)) ?_ (h _ ⟨heap_alloc_last _ _, hx⟩ ((Below.refl _ _).alloc (Nat.le_refl _) _) (by simp))
  unfold execOp
  rw [ho]
  simp only [hv]
  simp [Instr.box, newVar, newRow, rowV, Value.cells, go_sem]
theorem step_storeR (g : Nat) (xs : List Int) {old : List Int} (hR : RowAt w g old) (hx : xs.length = 20) (x y : Operand) (hgd : o.guard = none) (ho : o.op = .store 53 x y) (hp : a.eval x = .pointer (some ⟨g, 0, none⟩)) (hv : a.eval y = rowV xs)
    (h : ∀ w', RowAt w' g xs → Below g w w' → w'.heap.size = w.heap.size → (∀ k, k ≠ g → w'.heap[k]? = w.heap[k]?) → wpList Try.prog ops Q rest (a.put o.dst undef) w') : wpList Try.prog ops Q (o :: rest) a w := by
  refine wpList_store_row hgd _ x y ho g (rowA xs) hp hv 53 (rowA old) hR.1 (rowSize hx) (by rw [rowA_size, rowA_size, hR.2, hx]) (rowA_one xs) (h _ ⟨setRow_heap w g _ _ _ _ hR.1, hx⟩ (below_setRow (Below.refl _ _) (Nat.le_refl _) _) (by simp) (fun k hk => setRow_other w g k _ hk))
theorem step_loadR (g : Nat) (xs : List Int) (hR : RowAt w g xs) (x : Operand) (hgd : o.guard = none) (ho : o.op = .load 53 x) (hp : a.eval x = .pointer (some ⟨g, 0, none⟩))
    (h : wpList Try.prog ops Q rest (a.put o.dst (rowV xs)) w) : wpList Try.prog ops Q (o :: rest) a w :=
  wpList_load_row hgd _ x ho g hp _ _ _ _ hR.1 rowUnd rfl (rowSize hR.2) h
theorem builtR : Try.prog.built 53 [] = some (rowA zr) := by kernel_rfl
theorem step_buildR (hgd : o.guard = none) (ho : o.op = .build 53 #[]) (h : wpList Try.prog ops Q rest (a.put o.dst (rowV zr)) w) : wpList Try.prog ops Q (o :: rest) a w := by
  refine wpList_build hgd _ #[] ho ?_ ?_
  · simp only [List.map_toArray, List.map_nil, builtR, Option.isSome_some]
  · simp only [List.map_toArray, List.map_nil, builtR, Option.getD_some]
    exact h
theorem RowAt.other {w w' : World} {g : Nat} {xs : List Int} (h : RowAt w g xs) (e : w'.heap[g]? = w.heap[g]?) : RowAt w' g xs := ⟨by rw [e]; exact h.1, h.2⟩
theorem rowLoad {g : Nat} {xs : List Int} (hR : RowAt w g xs) : (loadVar 53 ⟨g, 0, none⟩).run Try.prog w = .ok (rowV xs) w := run_loadVar_row w g _ _ _ _ _ hR.1 rowUnd rfl (rowSize hR.2)
theorem results_rowR {fn : Func} {p : Tmp} (h : fn.results = #[.cell p 53]) (tmps : Array Value) (g : Nat) (xs : List Int) (hp : tmps.getD p undef = .pointer (some ⟨g, 0, none⟩)) (hR : RowAt w g xs) : (results fn tmps).run Try.prog w = .ok (rowV xs) w :=
  results_cell_row h tmps w g _ _ _ _ hp hR.1 rowUnd rfl (rowSize hR.2)
theorem results_rowB {fn : Func} {p q : Tmp} (h : fn.results = #[.cell p 53, .tmp q]) (tmps : Array Value) (g : Nat) (xs : List Int) (hp : tmps.getD p undef = .pointer (some ⟨g, 0, none⟩)) (hR : RowAt w g xs) : (results fn tmps).run Try.prog w = .ok (.tuple #[rowV xs, tmps.getD q undef]) w := by
  have hp' : tmps[p]?.getD undef = .pointer (some ⟨g, 0, none⟩) := by simpa using hp
  simp [results, h, hp', asAddr, rowLoad hR]
end
end Go.Proofs.Ythkchhjidihkpaa
