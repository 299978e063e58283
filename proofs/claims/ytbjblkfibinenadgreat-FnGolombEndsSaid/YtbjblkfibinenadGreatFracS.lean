
/-
  Contracts of the law's helpers on lists of fractions: comparison, marks, and the look for marks.
-/
import Derived.Test.YtbjblkfibinenadGreatWalk
import Derived.Test.YtbjblkfibinenadGreatOps
import Derived.Test.YtbjblkfibinenadGreatMark
namespace Go.Proofs.YtbjblkfibinenadGreat
open Go.RowKit
theorem fcells_at {fs : List (Int × Int)} : ∀ {k : Nat} {p : Int × Int}, fs[k]? = some p → (fcells fs)[k * 2]? = some (.int .i64 p.1) ∧ (fcells fs)[k * 2 + 1]? = some (.int .i64 p.2) := by
  induction fs with
  | nil => intro k p h; simp at h
  | cons q fs ih =>
    intro k p h
    have e : fcells (q :: fs) = .int .i64 q.1 :: .int .i64 q.2 :: fcells fs := rfl
    cases k with
    | zero => simp at h; subst h; exact ⟨rfl, rfl⟩
    | succ k =>
      have := ih (k := k) (p := p) (by simpa using h)
      rw [e, show (k + 1) * 2 = k * 2 + 1 + 1 from by omega]
      simpa using this
/-- a slice of fractions that reads so -/
def ReadsF (w : World) (A : Option Addr) (fs : List (Int × Int)) : Prop :=
  0 < fs.length → ∃ b, A = some ⟨b, 0, none⟩ ∧ b < w.heap.size ∧ ∀ k p, fs[k]? = some p → w.cell? ⟨b, k * 2, none⟩ = some (.int .i64 p.1) ∧ w.cell? ⟨b, k * 2 + 1, none⟩ = some (.int .i64 p.2)
section
variable {w w' : World} {base : Nat} {v : Value} {A : Option Addr} {fs : List (Int × Int)}
theorem ReadsF.below (h : ReadsF w A fs) (hb : Below w.heap.size w w') : ReadsF w' A fs := fun h0 => by
  obtain ⟨b, e, hlt, hc⟩ := h h0
  refine ⟨b, e, Nat.lt_of_lt_of_le hlt hb.size, fun k p hp => ?_⟩
  obtain ⟨c1, c2⟩ := hc k p hp
  exact ⟨(hb.cell (p := ⟨b, _, none⟩) hlt).trans c1, (hb.cell (p := ⟨b, _, none⟩) hlt).trans c2⟩
theorem ReadsF.drewN (h : ReadsF w A fs) (k : Nat) : ReadsF (w.drewN k) A fs := h
theorem ReadsF.at_ (h : ReadsF w A fs) {k : Nat} (hk : k < fs.length) : ∃ b n d, A = some ⟨b, 0, none⟩ ∧ b < w.heap.size ∧ fs[k]? = some (n, d) ∧ w.cell? ⟨b, k * 2, none⟩ = some (.int .i64 n) ∧ w.cell? ⟨b, k * 2 + 1, none⟩ = some (.int .i64 d) := by
  obtain ⟨b, e, hlt, hc⟩ := h (by omega)
  have hx := List.getElem?_eq_getElem hk
  obtain ⟨c1, c2⟩ := hc k _ hx
  exact ⟨b, fs[k].1, fs[k].2, e, hlt, hx, c1, c2⟩
theorem OwnF.reads (h : OwnF w base v fs) : ∃ A c, v = .slice A fs.length c ∧ ReadsF w A fs := by
  have hl := fcells_len fs
  rcases h.2 with ⟨hv, h0⟩ | ⟨g, cap, cur, hv, hb, hg, r⟩
  · exact ⟨none, 0, by rw [hv, h0], fun h1 => by omega⟩
  · subst hv
    refine ⟨some ⟨g, 0, none⟩, cap, rfl, fun _ => ⟨g, rfl, (h.block g rfl).2, fun k p hp => ?_⟩⟩
    have hlt : k < fs.length := (List.getElem?_eq_some_iff.1 hp).1
    refine ⟨?_, ?_⟩
    · rw [World.ownsRow.cellAt (h : w.ownsRow _ _ _ _ _ _) (k * 2) (by omega)]; exact (fcells_at hp).1
    · rw [World.ownsRow.cellAt (h : w.ownsRow _ _ _ _ _ _) (k * 2 + 1) (by omega)]; exact (fcells_at hp).2
theorem rowBelow {e : TypeId} {sz n : Nat} {cs : List Value} (h : w.ownsRow base e sz v n cs) (hb : Below w.heap.size w w') : w'.ownsRow base e sz v n cs := by
  refine ⟨h.1, ?_⟩
  rcases h.2 with h0 | ⟨g, cap, cur, hv, hbg, hg, r⟩
  · exact .inl h0
  · refine .inr ⟨g, cap, cur, hv, hbg, ?_, r⟩
    have hlt := (World.ownsRow.lt h g (by rw [hv]; rfl)).2
    rw [hb.block g hlt]
    exact hg
theorem OwnF.empty (w : World) (base : Nat) : OwnF w base (.slice none 0 0) [] := World.ownsRow_nil w base _ 2
theorem OwnF.mono {base' : Nat} (h : OwnF w base v fs) (hb : base' ≤ base) : OwnF w base' v fs := by
  refine ⟨h.1, ?_⟩
  rcases h.2 with h0 | ⟨g, cap, cur, hv, hbg, r⟩
  · exact .inl h0
  · exact .inr ⟨g, cap, cur, hv, Nat.le_trans hb hbg, r⟩
theorem wpList_appF {ops : Array Oper} {rest : List Oper} {o : Oper} {a : Act} {Q : Exit → Act → World → Prop} (hgd : o.guard = none) (s x : Operand)
    (ho : o.op = .call { callee := .builtin .append, args := #[s, x], argTypes := #[27, 27] })
    (hs : a.eval s = v) (hown : OwnF w base v fs) (g : Nat) (n d : Int) (hx : a.eval x = .slice (some ⟨g, 0, none⟩) 1 1) (h0 : w.cell? ⟨g, 0, none⟩ = some (.int .i64 n)) (h1 : w.cell? ⟨g, 1, none⟩ = some (.int .i64 d)) (hlen : fs.length ≤ 16777216) (hbase : base ≤ w.heap.size)
    (h : ∀ v' w', OwnF w' base v' (fs ++ [(n, d)]) → w.grownBy w' v.ownBlock → (v'.ownBlock = v.ownBlock ∨ v'.ownBlock = some w.heap.size) → wpList Tryz.prog ops Q rest (a.put o.dst v') w') :
    wpList Tryz.prog ops Q (o :: rest) a w := by
  refine wpList_plain hgd fun K hK => ?_
  obtain ⟨v', w', hrun, h2, h3, h4⟩ := run_appF o.type hown g n d h0 h1 hlen hbase
  unfold Oper.wp execOp
  simp only [ho, resolve, invoke, builtin, Sem.run_bind, Sem.run_pure, Result.andThen_ok, List.map_toArray, List.map_cons, List.map_nil, hs, hx, hrun]
  exact hK _ _ (h v' w' h2 h3 h4)
end
/-- the cells after the first j of them have been marked -/
def cmarked (cs : List Value) (k : Int) (j : Nat) : List Value := (marks k j).map (Value.int .i64) ++ cs.drop j
theorem cmarked_len (cs : List Value) (k : Int) (j : Nat) (h : j ≤ cs.length) : (cmarked cs k j).length = cs.length := by simp [cmarked, marks_len]; omega
theorem cmarked_set (cs : List Value) (k : Int) (j : Nat) (h : j < cs.length) : (cmarked cs k j).set j (.int .i64 (k + j)) = cmarked cs k (j + 1) := by
  unfold cmarked
  rw [List.set_append_right _ _ (by rw [List.length_map, marks_len]; exact Nat.le_refl _), List.length_map, marks_len, Nat.sub_self, List.drop_eq_getElem_cons h, List.set_cons_zero, marks_snoc, List.map_append, List.append_assoc]
  rfl
theorem cmarked_all (cs : List Value) (k : Int) : cmarked cs k cs.length = (marks k cs.length).map (Value.int .i64) := by simp [cmarked]
/-- what markFractionS leaves -/
def MarkedF (v : Value) (n : Nat) (base : Nat) (k : Int) (w : World) (e : Ending) (w' : World) : Prop :=
  e = .returned (.int .i64 (k + 2 * n)) ∧ w'.ownsRow base 25 2 v n ((marks k (n * 2)).map (Value.int .i64)) ∧ w.grownBy w' v.ownBlock
end Go.Proofs.YtbjblkfibinenadGreat
