
/-
  Words for slices of truth values.
-/
import Derived.Test.YtbjblkfibinenadList
namespace Go.Proofs.Ytbjblkfibinenad
open Go.RowKit
/-- a slice (its address an option: nil is let in) that reads as the list xs -/
def ReadsT (w : World) (A : Option Addr) (xs : List Bool) : Prop :=
  0 < xs.length → ∃ b o, A = some ⟨b, o, none⟩ ∧ b < w.heap.size ∧ ∀ i x, xs[i]? = some x → w.cell? ⟨b, o + i, none⟩ = some (.bool x)
/-- a slice of the call's own, of blocks from base on -/
def OwnB (w : World) (base : Nat) (v : Value) (xs : List Bool) : Prop := w.ownsRow base 4 1 v xs.length (xs.map (Value.bool))
section
variable {w w' : World} {A : Option Addr} {xs ys : List Bool} {base : Nat} {v : Value}
theorem ReadsT.nil : ReadsT w A [] := fun h => absurd h (by simp)
theorem ReadsT.at_ {k : Nat} (h : ReadsT w A xs) (hk : k < xs.length) : ∃ b o x, A = some ⟨b, o, none⟩ ∧ b < w.heap.size ∧ xs[k]? = some x ∧ w.cell? ⟨b, o + k, none⟩ = some (.bool x) := by
  obtain ⟨b, o, e, hb, hc⟩ := h (by omega)
  exact ⟨b, o, xs[k], e, hb, List.getElem?_eq_getElem hk, hc k _ (List.getElem?_eq_getElem hk)⟩
/-- at two places at once -/
theorem ReadsT.at2 {k j : Nat} (h : ReadsT w A xs) (hk : k < xs.length) (hj : j < xs.length) : ∃ b o x y, A = some ⟨b, o, none⟩ ∧ b < w.heap.size ∧ xs[k]? = some x ∧ xs[j]? = some y ∧ w.cell? ⟨b, o + k, none⟩ = some (.bool x) ∧ w.cell? ⟨b, o + j, none⟩ = some (.bool y) := by
  obtain ⟨b, o, e, hb, hc⟩ := h (by omega)
  exact ⟨b, o, xs[k], xs[j], e, hb, List.getElem?_eq_getElem hk, List.getElem?_eq_getElem hj, hc k _ (List.getElem?_eq_getElem hk), hc j _ (List.getElem?_eq_getElem hj)⟩
theorem ReadsT.below (h : ReadsT w A xs) (hb : Below w.heap.size w w') : ReadsT w' A xs := fun h0 => by
  obtain ⟨b, o, e, hlt, hc⟩ := h h0
  exact ⟨b, o, e, Nat.lt_of_lt_of_le hlt hb.size, fun i x hx => (hb.cell (p := ⟨b, o + i, none⟩) hlt).trans (hc i x hx)⟩
theorem ReadsT.drewN (h : ReadsT w A xs) (k : Nat) : ReadsT (w.drewN k) A xs := h
theorem OwnB.form {base : Nat} {v : Value} (h : OwnB w base v xs) : ∃ A c, v = .slice A xs.length c ∧ ReadsT w A xs := by
  rcases h.2 with ⟨hv, h0⟩ | ⟨g, cap, cur, hv, hb, hg, hnc, hcm, hcs, ht⟩
  · exact ⟨none, 0, by rw [hv, h0], fun h1 => by omega⟩
  · refine ⟨some ⟨g, 0, none⟩, cap, hv, fun _ => ⟨g, 0, rfl, ?_, fun i x hx => ?_⟩⟩
    · rcases Nat.lt_or_ge g w.heap.size with hlt | hge
      · exact hlt
      · rw [Array.getElem?_eq_none hge] at hg; cases hg
    · subst hv
      have hi : i < xs.length := (List.getElem?_eq_some_iff.1 hx).1
      have := World.ownsRow.cellAt (h : w.ownsRow _ _ _ _ _ _) i (by omega)
      rw [Nat.zero_add, this, List.getElem?_map, hx]
      rfl
theorem OwnB.block {base : Nat} {v : Value} (h : OwnB w base v xs) : ∀ k, v.ownBlock = some k → base ≤ k ∧ k < w.heap.size := World.ownsRow.lt h
theorem OwnB.below {base : Nat} {v : Value} (h : OwnB w base v xs) (hb : Below w.heap.size w w') : OwnB w' base v xs := by
  refine ⟨h.1, ?_⟩
  rcases h.2 with h0 | ⟨g, cap, cur, hv, hbg, hg, r⟩
  · exact .inl h0
  · refine .inr ⟨g, cap, cur, hv, hbg, ?_, r⟩
    have hlt := (World.ownsRow.lt h g (by rw [hv]; rfl)).2
    rw [hb.block g hlt]
    exact hg
theorem OwnB.mono {base base' : Nat} {v : Value} (h : OwnB w base v xs) (hb : base' ≤ base) : OwnB w base' v xs := by
  refine ⟨h.1, ?_⟩
  rcases h.2 with h0 | ⟨g, cap, cur, hv, hbg, r⟩
  · exact .inl h0
  · exact .inr ⟨g, cap, cur, hv, Nat.le_trans hb hbg, r⟩
theorem OwnB.set_ {base g n c : Nat} (h : OwnB w base (.slice (some ⟨g, 0, none⟩) n c) xs) (hn : n = xs.length) (k : Nat) (x : Bool) :
    OwnB (w.setCell ⟨g, k, none⟩ (.bool x)) base (.slice (some ⟨g, 0, none⟩) n c) (xs.set k x) := by
  subst hn
  have := (World.ownsRow.stored (h : w.ownsRow _ _ _ _ _ _) k (.bool x)).1
  unfold OwnB
  rw [List.length_set, List.map_set]
  exact this
theorem OwnB.cell_ {base g n c : Nat} (h : OwnB w base (.slice (some ⟨g, 0, none⟩) n c) xs) (hn : n = xs.length) {k : Nat} {x : Bool} (hx : xs[k]? = some x) :
    w.cell? ⟨g, k, none⟩ = some (.bool x) ∧ w.frozen? ⟨g, k, none⟩ = false := by
  subst hn
  have hk : k < xs.length := (List.getElem?_eq_some_iff.1 hx).1
  refine ⟨?_, World.ownsRow.frozenAt (h : w.ownsRow _ _ _ _ _ _) k⟩
  rw [World.ownsRow.cellAt (h : w.ownsRow _ _ _ _ _ _) k (by omega), List.getElem?_map, hx]
  rfl

theorem boolInfo : (Try.prog.info? 4).map (fun i => (i.zero, i.size, i.bytes)) = some (some (.bool false), 1, 1) := by kernel_rfl
theorem OwnB.empty (w : World) (base : Nat) : OwnB w base (.slice none 0 0) [] := World.ownsRow_nil w base _ 1
/-- an empty literal: a block of no cells -/
theorem OwnB.zero (w : World) (base : Nat) (hb : base ≤ w.heap.size) : OwnB (w.alloc (.cells #[] 4)) base (.slice (some ⟨w.heap.size, 0, none⟩) 0 0) [] :=
  World.ownsRow_lit w #[] 0 hb (by unfold maxLen; omega) rfl
theorem ReadsT.one (w : World) (x : Bool) : ReadsT (w.alloc (.cells #[.bool x] 4)) (some ⟨w.heap.size, 0, none⟩) [x] := fun _ =>
  ⟨w.heap.size, 0, rfl, by simp, fun i y h => by
    match i, h with
    | 0, h =>
      simp only [List.getElem?_cons_zero, Option.some.injEq] at h
      subst h
      simp⟩
theorem oneCellBools (xs : List Bool) : ∀ u ∈ xs.map (Value.bool), u.oneCell' = true := fun u hu => by obtain ⟨b, _, rfl⟩ := List.mem_map.1 hu; rfl

/-- append onto a slice of the call's own, of a source that reads as ys (nil let in) -/
theorem run_appB (w : World) (ty : TypeId) (hown : OwnB w base v xs) (c : Nat) (hr : ReadsT w A ys) (hlen : xs.length + ys.length ≤ 16777216) (hbase : base ≤ w.heap.size) :
    ∃ v' w', (Builtin.append_ #[86, 86] ty #[v, .slice A ys.length c]).run Try.prog w = .ok v' w' ∧ OwnB w' base v' (xs ++ ys) ∧ w.grownBy w' v.ownBlock ∧
      (v'.ownBlock = v.ownBlock ∨ v'.ownBlock = some w.heap.size) := by
  obtain ⟨i0, hi, hz0, hz1, hz2⟩ := info_parts boolInfo
  rcases Nat.eq_zero_or_pos ys.length with h0 | h0
  · have hy : ys = [] := List.eq_nil_of_length_eq_zero h0
    subst hy
    rw [List.append_nil]
    cases A with
    | none =>
      refine ⟨v, w, ?_, hown, World.grownBy.refl w _, .inl rfl⟩
      rcases hown.2 with ⟨rfl, _⟩ | ⟨g, cap, cur, rfl, _, _, hnc, _⟩
      · simp [Builtin.append_, run_underlying Try.underlying86, sizeOf, typeInfo, hi, Builtin.lenOf, Builtin.firstCells]
      · simp [Builtin.append_, run_underlying Try.underlying86, sizeOf, typeInfo, hi, Builtin.lenOf, Builtin.firstCells, hnc, storeCells]
    | some a =>
      obtain ⟨v', w', h1, h2, h3, _, h5⟩ := run_append_own_at (P := Try.prog) w base 86 ty 4 i0 (.bool false) 1 1 Try.underlying86 hi hz0 hz1 hz2 rfl (by omega) v xs.length _ hown a 0 c [] rfl (fun j u h => by simp at h) (fun u h => by simp at h) (by unfold maxLen; omega) (by omega) hbase
      refine ⟨v', w', h1, ?_, h3, h5⟩
      simpa [OwnB] using h2
  · obtain ⟨b, o, rfl, hb, hc⟩ := hr h0
    obtain ⟨v', w', h1, h2, h3, _, h5⟩ := run_append_own_at (P := Try.prog) w base 86 ty 4 i0 (.bool false) 1 1 Try.underlying86 hi hz0 hz1 hz2 rfl (by omega) v xs.length _ hown ⟨b, o, none⟩ ys.length c (ys.map (Value.bool)) (by simp)
      (fun j u h => by
        rw [List.getElem?_map] at h
        cases hx : ys[j]? with
        | none => rw [hx] at h; cases h
        | some x =>
          rw [hx] at h
          simp only [Option.map_some, Option.some.injEq] at h
          subst h
          rw [Go.WideShapes.add_plain]
          exact hc j x hx)
      (oneCellBools ys) (by unfold maxLen; omega) (by omega) hbase
    refine ⟨v', w', h1, ?_, h3, h5⟩
    simpa [OwnB] using h2

theorem wpList_appB (w : World) {ops : Array Oper} {rest : List Oper} {o : Oper} {a : Act} {Q : Exit → Act → World → Prop} (hgd : o.guard = none) (s x : Operand)
    (ho : o.op = .call { callee := .builtin .append, args := #[s, x], argTypes := #[86, 86] })
    (hs : a.eval s = v) (hown : OwnB w base v xs) (m c : Nat) (hm : ys.length = m) (hx : a.eval x = .slice A m c) (hr : ReadsT w A ys) (hlen : xs.length + ys.length ≤ 16777216) (hbase : base ≤ w.heap.size)
    (h : ∀ v' w', OwnB w' base v' (xs ++ ys) → Below base w w' → w.grownBy w' v.ownBlock → (v'.ownBlock = v.ownBlock ∨ v'.ownBlock = some w.heap.size) → wpList Try.prog ops Q rest (a.put o.dst v') w') :
    wpList Try.prog ops Q (o :: rest) a w := by
  subst hm
  refine wpList_plain hgd fun K hK => ?_
  obtain ⟨v', w', hrun, h2, h3, h4⟩ := run_appB w o.type hown c hr hlen hbase
  unfold Oper.wp execOp
  simp only [ho, resolve, invoke, builtin, Sem.run_bind, Sem.run_pure, Result.andThen_ok, List.map_toArray, List.map_cons, List.map_nil, hs, hx, hrun]
  exact hK _ _ (h v' w' h2 ((Below.refl base w).grown h3 hbase (fun k hk => (hown.block k hk).1)) h3 h4)
theorem OwnB.reads {A : Option Addr} {n c : Nat} (h : OwnB w base (.slice A n c) xs) : ReadsT w A xs ∧ n = xs.length := by
  obtain ⟨A', c', e, hr⟩ := h.form
  injection e with e1 e2 e3
  subst e1
  exact ⟨hr, e2⟩
theorem OwnB.cap_ {A : Option Addr} {n c : Nat} (h : OwnB w base (.slice A n c) xs) : n ≤ c := by
  rcases h.2 with ⟨hv, h0⟩ | ⟨g, cap, cur, hv, _, _, hnc, _⟩
  · injection hv with _ h1 h2; omega
  · injection hv with _ h1 h2; omega
theorem ReadsT.cutTo {A : Option Addr} (k : Nat) (h : ReadsT w A xs) : ReadsT w A (xs.take k) := fun h0 => by
  rw [List.length_take] at h0
  obtain ⟨b, o, rfl, hb, hx⟩ := h (by omega)
  refine ⟨b, o, rfl, hb, fun i x hi => hx i x ?_⟩
  rw [List.getElem?_take] at hi
  split at hi
  · exact hi
  · cases hi
theorem OwnB.drewN (h : OwnB w base v xs) (k : Nat) : OwnB (w.drewN k) base v xs := h
end
end Go.Proofs.Ytbjblkfibinenad
