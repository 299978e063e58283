
/-
  Two rows of doublings compared.
-/
import Derived.ChangeKeysEq
import Derived.Laws.StructEq
import Derived.Test.YthkchhjidihkpaaRow
namespace Go.Proofs.Ythkchhjidihkpaa
open Go.RowKit
theorem part_row (w : World) {xs : List Int} {i : Nat} {x : Int} (h : xs[i]? = some x) : (part 3 (rowA xs) (i * 1)).run Try.prog w = .ok (.int .i64 x) w := by
  have h2 := rowA_at h
  rw [Nat.mul_one]
  simp [part, go_sem, h2]
theorem eqItems_row (w : World) (d : Nat) (xs ys : List Int) : ∀ (is : List Nat), (∀ i ∈ is, i < xs.length ∧ i < ys.length) →
    (Op.eqItems (d + 1) 3 1 (rowA xs) (rowA ys) is).run Try.prog w = .ok (is.all fun i => decide (xs[i]? = ys[i]?)) w
  | [], _ => by simp [Op.eqItems]
  | i :: is, h => by
    obtain ⟨h1, h2⟩ := h i (by simp)
    have hx : xs[i]? = some xs[i] := List.getElem?_eq_getElem h1
    have hy : ys[i]? = some ys[i] := List.getElem?_eq_getElem h2
    have ih := eqItems_row w d xs ys is (fun j hj => h j (by simp [hj]))
    have he : (Op.equalIn (d + 1) 3 (.int .i64 xs[i]) (.int .i64 ys[i])).run Try.prog w = .ok (xs[i] == ys[i]) w := run_equalIn_int w d _ .i64 .i64 _ _ Try.underlying3
    simp only [Op.eqItems, Sem.run_bind, part_row w hx, part_row w hy, he, Result.andThen_ok]
    by_cases hq : xs[i] = ys[i]
    · simp only [hq, beq_self_eq_true, Bool.not_true, Bool.false_eq_true, if_false, ih, List.all_cons]
      rw [hx, hy, hq]
      simp
    · have hb : (xs[i] == ys[i]) = false := by simp [hq]
      simp only [hb, Bool.not_false, if_true, Sem.run_pure, List.all_cons]
      rw [hx, hy]
      simp [hq]
theorem rows_eq {xs ys : List Int} (hx : xs.length = 20) (hy : ys.length = 20) : ((List.range 20).all fun i => decide (xs[i]? = ys[i]?)) = decide (xs = ys) := by
  by_cases h : xs = ys
  · subst h; simp
  · rw [decide_eq_false h]
    cases hall : (List.range 20).all fun i => decide (xs[i]? = ys[i]?) with
    | false => rfl
    | true =>
      exfalso
      apply h
      apply List.ext_getElem?
      intro i
      by_cases hi : i < 20
      · have := List.all_eq_true.1 hall i (List.mem_range.2 hi)
        simpa using this
      · rw [List.getElem?_eq_none (by omega), List.getElem?_eq_none (by omega)]
theorem intRow : ∃ i, Try.prog.info? 3 = some i := by
  obtain ⟨i0, hi, _⟩ := info_parts intInfo
  exact ⟨i0, hi⟩
theorem intCells : Try.prog.cellsOf 3 = 1 := by kernel_rfl
theorem equal_rows (w : World) {xs ys : List Int} (hx : xs.length = 20) (hy : ys.length = 20) : (Op.equalIn 10000 53 (rowV xs) (rowV ys)).run Try.prog w = .ok (decide (xs = ys)) w := by
  obtain ⟨i, hi⟩ := intRow
  have := run_equalIn_array w 9999 (rowA xs) (rowA ys) rowUnd hi
  rw [intCells, eqItems_row w 9998 xs ys (List.range 20) (fun j hj => by have := List.mem_range.1 hj; omega), rows_eq hx hy] at this
  exact this
theorem rowGuard : Try.prog.eqGuardType Try.prog.depth 53 = false := by kernel_rfl
theorem step_neqR {ops : Array Oper} {rest : List Oper} {o : Oper} {a : Act} {w : World} {Q : Exit → Act → World → Prop} {xs ys : List Int} (hx : xs.length = 20) (hy : ys.length = 20) (x y : Operand) (ty : TypeId) (hgd : o.guard = none) (ho : o.op = .binOp .neq 53 x y ty) (ha : a.eval x = rowV xs) (hb : a.eval y = rowV ys)
    (h : wpList Try.prog ops Q rest (a.put o.dst (.bool (!decide (xs = ys)))) w) : wpList Try.prog ops Q (o :: rest) a w := by
  refine step_runR hgd _ w ?_ h
  have h1 := run_eqGuard_agg w (P := Try.prog) .neq 53 x y (rowA xs) (rowA ys) rowGuard
  have h2 := run_neq_struct w (P := Try.prog) 53 (rowA xs) (rowA ys)
  have h3 := equal_rows w hx hy
  unfold execOp
  rw [ho]
  simp only [ha, hb]
  unfold rowV at h3 ⊢
  rw [h3] at h2
  simp only [Sem.run_bind, h1, h2, Result.andThen_ok]
  rfl
end Go.Proofs.Ythkchhjidihkpaa
