import Derived.Test.YtbjblkfibinenadGreatDoorPk1
import Derived.Test.YtbjblkfibinenadGreatDoorPk4
import Derived.Test.YtbjblkfibinenadGreatDoorPk10
import Derived.IntWalk
import Derived.Deep.RegionHeld3

/-
  The contract of the loop that makes steps until nothing is left, for whatever step: what it takes and what it leaves.
-/
namespace Go.Proofs.YtbjblkfibinenadGreatDoor
open Go.RowKit
/-- the cells of a list of fractions -/
def fcells (fs : List (Int × Int)) : List Value := fs.flatMap fun p => [.int .i64 p.1, .int .i64 p.2]
theorem fcells_len (fs : List (Int × Int)) : (fcells fs).length = fs.length * 2 := by
  induction fs with
  | nil => rfl
  | cons p fs ih => simp only [fcells, List.flatMap_cons, List.length_append, List.length_cons, List.length_nil] at ih ⊢; omega
theorem fcells_append (fs gs : List (Int × Int)) : fcells (fs ++ gs) = fcells fs ++ fcells gs := by simp [fcells]
/-- a slice of fractions of the call's own -/
def OwnF (w : World) (base : Nat) (v : Value) (fs : List (Int × Int)) : Prop := w.ownsRow base 27 2 v fs.length (fcells fs)
theorem fracInfo : (Tryz.prog.info? 27).map (fun i => (i.zero, i.size, i.bytes)) = some (some (.agg #[.int .i64 0, .int .i64 0]), 2, 16) := by kernel_rfl
section
variable {w w' : World} {base : Nat} {v : Value} {xs : List Int} {fs : List (Int × Int)}
theorem OwnF.block (h : OwnF w base v fs) : ∀ k, v.ownBlock = some k → base ≤ k ∧ k < w.heap.size := World.ownsRow.lt h
theorem OwnF.below (h : OwnF w base v fs) (hb : Below w.heap.size w w') : OwnF w' base v fs := by
  refine ⟨h.1, ?_⟩
  rcases h.2 with h0 | ⟨g, cap, cur, hv, hbg, hg, r⟩
  · exact .inl h0
  · refine .inr ⟨g, cap, cur, hv, hbg, ?_, r⟩
    have hlt := (World.ownsRow.lt h g (by rw [hv]; rfl)).2
    rw [hb.block g hlt]
    exact hg
/-- the two slices lie in different blocks -/
theorem own_apart {v2 : Value} (h : OwnF w base v fs) (h2 : OwnI w base v2 xs) : v.ownBlock = none ∨ v.ownBlock ≠ v2.ownBlock := by
  rcases h.2 with ⟨rfl, _⟩ | ⟨g, cap, cur, rfl, _, hg, _⟩
  · exact .inl rfl
  · refine .inr fun e => ?_
    rcases h2.2 with ⟨rfl, _⟩ | ⟨g2, cap2, cur2, rfl, _, hg2, _⟩
    · simp [Value.ownBlock] at e
    · simp only [Value.ownBlock, Option.some.injEq] at e
      subst e
      rw [hg] at hg2
      simp at hg2
theorem OwnF.kept (h : OwnF w base v fs) {v2 : Value} (h2 : OwnI w base v2 xs) (hg : w.grownBy w' v2.ownBlock) : OwnF w' base v fs := World.ownsRow.kept h hg (own_apart h h2)
theorem OwnI.keptF {v2 : Value} (h2 : OwnI w base v2 xs) (h : OwnF w base v fs) (hg : w.grownBy w' v.ownBlock) : OwnI w' base v2 xs :=
  World.ownsRow.kept h2 hg (by
    rcases own_apart h h2 with e | e
    · cases hv : v2.ownBlock with
      | none => exact .inl rfl
      | some k => rw [e]; exact .inr (by simp)
    · exact .inr (fun e2 => e e2.symm))
theorem OwnF.one (w : World) (base : Nat) (n d : Int) (hb : base ≤ w.heap.size) : OwnF (w.alloc (.cells #[.int .i64 n, .int .i64 d] 27)) base (.slice (some ⟨w.heap.size, 0, none⟩) 1 1) [(n, d)] :=
  World.ownsRow_lit w #[.int .i64 n, .int .i64 d] 1 hb (by unfold maxLen; omega) rfl
/-- append of one fraction that lies in a block of its own -/
theorem run_appF (ty : TypeId) (hown : OwnF w base v fs) (g : Nat) (n d : Int) (h0 : w.cell? ⟨g, 0, none⟩ = some (.int .i64 n)) (h1 : w.cell? ⟨g, 1, none⟩ = some (.int .i64 d)) (hlen : fs.length ≤ 16777216) (hbase : base ≤ w.heap.size) :
    ∃ v' w', (Builtin.append_ #[61, 61] ty #[v, .slice (some ⟨g, 0, none⟩) 1 1]).run Tryz.prog w = .ok v' w' ∧ OwnF w' base v' (fs ++ [(n, d)]) ∧ w.grownBy w' v.ownBlock ∧
      (v'.ownBlock = v.ownBlock ∨ v'.ownBlock = some w.heap.size) := by
  obtain ⟨i0, hi, hz0, hz1, hz2⟩ := info_parts fracInfo
  obtain ⟨v', w', e1, e2, e3, _, e5⟩ := run_append_own_at (P := Tryz.prog) w base 61 ty 27 i0 (.agg #[.int .i64 0, .int .i64 0]) 2 16 Tryz.underlying61 hi hz0 hz1 hz2 rfl (by omega) v fs.length _ hown ⟨g, 0, none⟩ 1 1 [.int .i64 n, .int .i64 d] rfl
      (fun j u h => by
        match j, h with
        | 0, h => simp at h; subst h; simpa [Go.WideShapes.add_plain] using h0
        | 1, h => simp at h; subst h; simpa [Go.WideShapes.add_plain] using h1
        | j + 2, h => simp at h)
      (fun u h => by
        simp only [List.mem_cons, List.not_mem_nil, or_false] at h
        rcases h with rfl | rfl <;> rfl) (by unfold maxLen; omega) (by omega) hbase
  refine ⟨v', w', e1, ?_, e3, e5⟩
  unfold OwnF
  rw [fcells_append, List.length_append]
  exact e2
theorem step_appF {ops : Array Oper} {o : Oper} {a : Act} {K : Act → World → Prop} {Q : Exit → Act → World → Prop} {E : Prop} (hgd : o.guard = none) (s x : Operand)
    (ho : o.op = .call { callee := .builtin .append, args := #[s, x], argTypes := #[61, 61] })
    (hs : a.eval s = v) (hown : OwnF w base v fs) (g : Nat) (n d : Int) (hx : a.eval x = .slice (some ⟨g, 0, none⟩) 1 1) (h0 : w.cell? ⟨g, 0, none⟩ = some (.int .i64 n)) (h1 : w.cell? ⟨g, 1, none⟩ = some (.int .i64 d)) (hlen : fs.length ≤ 16777216) (hbase : base ≤ w.heap.size)
    (h : ∀ v' w', OwnF w' base v' (fs ++ [(n, d)]) → w.grownBy w' v.ownBlock → (v'.ownBlock = v.ownBlock ∨ v'.ownBlock = some w.heap.size) → K (a.put o.dst v') w') :
    if Region.wanted o (yielded ops a.tmps) = true then Oper.wp Tryz.prog o a w K Q else E := by
  have hw : Region.wanted o (yielded ops a.tmps) = true := by simp [Region.wanted, hgd]
  rw [if_pos hw]
  obtain ⟨v', w', hrun, h2, h3, h4⟩ := run_appF o.type hown g n d h0 h1 hlen hbase
  unfold Oper.wp execOp
  simp only [ho, resolve, invoke, builtin, Sem.run_bind, Sem.run_pure, Result.andThen_ok, List.map_toArray, List.map_cons, List.map_nil, hs, hx, hrun]
  exact h v' w' h2 h3 h4
end
/-- what a step leaves, from the least number l and n / d -/
def StepB (B : Int) (st : Stp) (I : Int → World → Prop) (row : Option Nat) (l n d : Int) (w : World) (e : Ending) (w' : World) : Prop :=
  w.grownBy w' row ∧ ∃ (t n' d' : Int) (b : Bool), e = .returned (.tuple #[.int .i64 t, .agg #[.int .i64 n', .int .i64 d'], .bool b]) ∧ (b = true → st l n d = some (t, n', d') ∧ I (t + 1) w' ∧ goodB n' d' = true ∧ 0 ≤ t ∧ t ≤ B) ∧ (b = false → st l n d = none)
abbrev StepR := StepB 1000000000
/-- all is as it was but for new blocks and one block -/
def Row (W w : World) (row : Option Nat) : Prop := W.grownBy w row
theorem Row.cell {W w : World} {row : Option Nat} (h : Row W w row) {b o : Nat} {v : Value} (hc : W.cell? ⟨b, o, none⟩ = some v) (hne : row ≠ some b) : w.cell? ⟨b, o, none⟩ = some v := World.grownBy.cell h hc (fun e => hne (by rw [← e]))
section
variable {w w' : World} {base : Nat} {v : Value} {xs : List Int} {fs : List (Int × Int)}
theorem cellFar {g k b o : Nat} {u y : Value} (hne : b ≠ g) (h : w.cell? ⟨b, o, none⟩ = some y) : (w.setCell ⟨g, k, none⟩ u).cell? ⟨b, o, none⟩ = some y := by
  exact (World.cell?_setCell_far w ⟨g, k, none⟩ ⟨b, o, none⟩ u (fun e => hne e.symm)).trans h
theorem litNew {W : World} {b k : Nat} {vs : Array Value} {T : TypeId} {u : Value} (hb : b = W.heap.size) (h : vs[k]? = some u) : (W.alloc (.cells vs T)).drew.cell? ⟨b, k, none⟩ = some u := by
  subst hb
  show (W.alloc (.cells vs T)).cell? ⟨W.heap.size, k, none⟩ = some u
  simpa using h
theorem litOld {W : World} {b k : Nat} {vs : Array Value} {T : TypeId} {o : Obj} {u : Value} (hb : b = W.heap.size) (h : vs[k]? = some u) : ((W.alloc (.cells vs T)).alloc o).drew.cell? ⟨b, k, none⟩ = some u := by
  have h1 : (W.alloc (.cells vs T)).cell? ⟨b, k, none⟩ = some u := litNew hb h
  exact (World.cell?_alloc_some _ _ _ (by rw [h1]; rfl)).trans h1
theorem OwnI.setO (h : OwnI w base v xs) (g k : Nat) (u : Value) (hne : v.ownBlock ≠ some g) : OwnI (w.setCell ⟨g, k, none⟩ u) base v xs := ownsRow_setCell_other h hne u
theorem OwnF.setO (h : OwnF w base v fs) (g k : Nat) (u : Value) (hne : v.ownBlock ≠ some g) : OwnF (w.setCell ⟨g, k, none⟩ u) base v fs := ownsRow_setCell_other h hne u
theorem OwnI.row {row : Option Nat} (h : OwnI w base v xs) (hg : w.grownBy w' row) (hlt : ∀ g, row = some g → g < base) : OwnI w' base v xs := by
  refine World.ownsRow.kept h hg ?_
  cases hv : v.ownBlock with
  | none => exact .inl rfl
  | some k =>
    refine .inr fun e => ?_
    have := (h.block k hv).1
    have := hlt k e.symm
    omega
theorem OwnF.row {row : Option Nat} (h : OwnF w base v fs) (hg : w.grownBy w' row) (hlt : ∀ g, row = some g → g < base) : OwnF w' base v fs := by
  refine World.ownsRow.kept h hg ?_
  cases hv : v.ownBlock with
  | none => exact .inl rfl
  | some k =>
    refine .inr fun e => ?_
    have := (h.block k hv).1
    have := hlt k e.symm
    omega
theorem OwnF.form (h : OwnF w base v fs) : ∃ A c, v = .slice A fs.length c := by
  rcases h.2 with ⟨hv, h0⟩ | ⟨g, cap, cur, hv, hb, hg, hnc, hcm, hcs, ht⟩
  · exact ⟨none, 0, by rw [hv, h0]⟩
  · exact ⟨_, cap, hv⟩
theorem Reads.oneAt {b : Nat} {t : Int} (hc : w.cell? ⟨b, 0, none⟩ = some (.int .i64 t)) (hb : b < w.heap.size) : Reads w (some ⟨b, 0, none⟩) [t] := fun _ =>
  ⟨b, 0, rfl, hb, fun i x hx => by
    match i, hx with
    | 0, hx =>
      simp only [List.getElem?_cons_zero, Option.some.injEq] at hx
      subst hx
      exact hc⟩
theorem belowOf {row : Option Nat} {B : Nat} (hg : w.grownBy w' row) (hB : B ≤ w.heap.size) (hrow : ∀ g, row = some g → B ≤ g) : Below B w w' :=
  (Below.refl B w).grown hg hB hrow
/-- what an append leaves elsewhere -/
theorem keptCell {row : Option Nat} (hg : w.grownBy w' row) {m : Nat} (hrow : ∀ k, row = some k → k < m) {b o : Nat} {u : Value} (hm : m ≤ b) (h : w.cell? ⟨b, o, none⟩ = some u) : w'.cell? ⟨b, o, none⟩ = some u :=
  hg.cell h (fun e => by have := hrow b e.symm; omega)
theorem keptAt {row : Option Nat} (hg : w.grownBy w' row) {g : Nat} (hne : row ≠ some g) {n d : Int} (h : TwoAt w g n d) : TwoAt w' g n d := by
  obtain ⟨h1, h2, h3, h4, h5⟩ := h
  have e : w'.heap[g]? = w.heap[g]? := hg.block g h5 (fun e => hne e.symm)
  exact ⟨(World.cell?_of_block (a := ⟨g, 0, none⟩) e).trans h1, (World.cell?_of_block (a := ⟨g, 1, none⟩) e).trans h2, (World.frozen?_of_block (a := ⟨g, 0, none⟩) e).trans h3, (World.frozen?_of_block (a := ⟨g, 1, none⟩) e).trans h4, Nat.lt_of_lt_of_le h5 hg.size⟩
end
theorem litI (W W' : World) (base g : Nat) (hg : g = W.heap.size) (hb : base ≤ W.heap.size) (h : Below (W.alloc (.cells #[] 3)).heap.size (W.alloc (.cells #[] 3)) W') : OwnI W' base (.slice (some ⟨g, 0, none⟩) 0 0) [] := by
  subst hg
  exact (OwnI.zero W base hb).below h
theorem litF (W W' : World) (base g : Nat) (n d : Int) (hg : g = W.heap.size) (hb : base ≤ W.heap.size) (h : Below (W.alloc (.cells #[.int .i64 n, .int .i64 d] 27)).heap.size (W.alloc (.cells #[.int .i64 n, .int .i64 d] 27)) W') : OwnF W' base (.slice (some ⟨g, 0, none⟩) 1 1) [(n, d)] := by
  subst hg
  exact (OwnF.one W base n d hb).below h
def slen : Value → Nat | .slice _ n _ => n | _ => 0
/-- what the loop leaves -/
def WalkM (m : Nat) (st : Stp) (row : Option Nat) (l n d : Int) (w : World) (e : Ending) (w' : World) : Prop :=
  w.grownBy w' row ∧ ((∃ es v1 v2, walkR st m l n d = some es ∧ es.length ≤ m ∧ e = .returned (.tuple #[v1, v2, .bool true]) ∧ OwnI w' w.heap.size v1 (takenOf es) ∧ OwnF w' w.heap.size v2 ((n, d) :: es.map (·.2))) ∨ (walkR st m l n d = none ∧ e = .returned (.tuple #[.slice none 0 0, .slice none 0 0, .bool false])))
set_option maxRecDepth 100000 in
set_option maxHeartbeats 4000000 in
theorem walkM_any (B : Int) (m : Nat) (hm : m ≤ 1000) (_ : 0 ≤ B) (k : Nat) (cs : Array Value) (st : Stp) (I : Int → World → Prop) (row : Option Nat) (l0 n0 d0 : Int) (w : World)
    (hrow : ∀ g, row = some g → g < w.heap.size) (hI : ∀ l w1 w2, I l w1 → Below w.heap.size w1 w2 → I l w2)
    (hent : ∀ args w1, Sem.run Tryz.prog (callFunc k args) w1 = .ok (.enter k args) w1)
    (hcall : ∀ l n d w1, goodB n d = true → 1 ≤ n → 0 ≤ l → l ≤ B + 1 → I l w1 → Calls Tryz.prog k (#[.agg #[.int .i64 n, .int .i64 d]] ++ cs) w1 (StepB B st I row l n d w1))
    (hg : goodB n0 d0 = true) (hl0 : 0 ≤ l0) (hl1 : l0 ≤ B + 1) (h0 : I l0 w) :
    Calls Tryz.prog 49 #[.agg #[.int .i64 n0, .int .i64 d0], .int .i64 (m : Int), .func (.func k) #[] cs] w (WalkM m st row l0 n0 d0 w) := by
  have HI := Lib.hid hI
  have HC := Lib.hid hcall
  have HE := Lib.hid hent
  have HR := Lib.hid hrow
  have HG := Lib.hid hg
  have H0 := Lib.hid h0
  clear hI hcall hrow hent hg h0
  go_enter Tryz.func49, Tryz.ntmps49
  go_upto_region 1 with fail
  go_cut [9, 10] (fun s7 s8 wx => ∃ (A7 A8 : Option Addr) (c7 c8 : Nat), s7 = .slice A7 0 c7 ∧ s8 = .slice A8 1 c8 ∧ OwnI wx w.heap.size s7 [] ∧ OwnF wx w.heap.size s8 [(n0, d0)] ∧ TwoAt wx w.heap.size n0 d0 ∧ Below w.heap.size w wx)
  case first =>
    go_region
    all_goals go_wp2_with fail
    all_goals go_meet
    all_goals refine ⟨_, _, _, _, rfl, rfl, ?_, ?_, ?_, by (repeat' (first | (with_reducible exact Below.refl _ _) | (with_reducible assumption) | (with_reducible refine Below.drew ?_) | (with_reducible refine belowDrewN ?_ _) | (with_reducible refine Below.alloc ?_ ?_ _) | (with_reducible refine Below.setCell ?_ ?_ _) | (with_reducible refine belowStep (by assumption) ?_ ?_) | (with_reducible exact Below.size (by assumption)) | go_size))⟩
    all_goals first
      | exact (TwoAt.new w n0 d0 _).below (by (repeat' (first | (with_reducible exact Below.refl _ _) | (with_reducible assumption) | (with_reducible refine Below.drew ?_) | (with_reducible refine belowDrewN ?_ _) | (with_reducible refine Below.alloc ?_ ?_ _) | (with_reducible refine Below.setCell ?_ ?_ _) | (with_reducible refine belowStep (by assumption) ?_ ?_) | (with_reducible exact Below.size (by assumption)) | go_size)))
      | exact litI (w.alloc (.cells #[.int .i64 n0, .int .i64 d0] 27)) _ _ _ (by (first | (go_size; done) | ((try simp only [World.size_alloc]); omega))) (by (first | (go_size; done) | ((try simp only [World.size_alloc, World.size_setCell, World.size_drew, World.heap_drewN]); omega))) (by (repeat' (first | (with_reducible exact Below.refl _ _) | (with_reducible assumption) | (with_reducible refine Below.drew ?_) | (with_reducible refine belowDrewN ?_ _) | (with_reducible refine Below.alloc ?_ ?_ _) | (with_reducible refine Below.setCell ?_ ?_ _) | (with_reducible refine belowStep (by assumption) ?_ ?_) | (with_reducible exact Below.size (by assumption)) | go_size)))
      | exact litF (w.alloc (.cells #[.int .i64 n0, .int .i64 d0] 27)) _ _ _ _ _ (by (first | (go_size; done) | ((try simp only [World.size_alloc]); omega))) (by (first | (go_size; done) | ((try simp only [World.size_alloc, World.size_setCell, World.size_drew, World.heap_drewN]); omega))) (by (repeat' (first | (with_reducible exact Below.refl _ _) | (with_reducible assumption) | (with_reducible refine Below.drew ?_) | (with_reducible refine belowDrewN ?_ _) | (with_reducible refine Below.alloc ?_ ?_ _) | (with_reducible refine Below.setCell ?_ ?_ _) | (with_reducible refine belowStep (by assumption) ?_ ?_) | (with_reducible exact Below.size (by assumption)) | go_size)))
      | exact litI ((w.alloc (.cells #[.int .i64 n0, .int .i64 d0] 27)).alloc (.cells #[.int .i64 n0, .int .i64 d0] 27)) _ _ _ (by (first | (go_size; done) | ((try simp only [World.size_alloc]); omega))) (by (first | (go_size; done) | ((try simp only [World.size_alloc, World.size_setCell, World.size_drew, World.heap_drewN]); omega))) (by (repeat' (first | (with_reducible exact Below.refl _ _) | (with_reducible assumption) | (with_reducible refine Below.drew ?_) | (with_reducible refine belowDrewN ?_ _) | (with_reducible refine Below.alloc ?_ ?_ _) | (with_reducible refine Below.setCell ?_ ?_ _) | (with_reducible refine belowStep (by assumption) ?_ ?_) | (with_reducible exact Below.size (by assumption)) | go_size)))
      | exact litF ((w.alloc (.cells #[.int .i64 n0, .int .i64 d0] 27)).alloc (.cells #[] 3)) _ _ _ _ _ (by (first | (go_size; done) | ((try simp only [World.size_alloc, World.size_setCell, World.size_drew, World.heap_drewN]); omega))) (by (first | (go_size; done) | ((try simp only [World.size_alloc, World.size_setCell, World.size_drew, World.heap_drewN]); omega))) (by (repeat' (first | (with_reducible exact Below.refl _ _) | (with_reducible assumption) | (with_reducible refine Below.drew ?_) | (with_reducible refine belowDrewN ?_ _) | (with_reducible refine Below.alloc ?_ ?_ _) | (with_reducible refine Below.setCell ?_ ?_ _) | (with_reducible refine belowStep (by assumption) ?_ ?_) | (with_reducible exact Below.size (by assumption)) | go_size)))
  case rest =>
    obtain ⟨w1, rfl⟩ : ∃ w1 : World, w1 = wc := ⟨_, rfl⟩
    obtain ⟨A7, A8, c7, c8, rfl, rfl, ho7, ho8, ⟨q1, q2, q3, q4, q5⟩, hb1⟩ := hcut
    have hz1 := hb1.size
    have Ho7 := Lib.hid ho7
    have Ho8 := Lib.hid ho8
    clear ho7 ho8
    go_wp2
    go_loopw [9, 10, 11] (fun v7 v8 v9 wr => ∃ (es : List (Int × Int × Int)) (l n d : Int) (g : Nat) (A7 A8 : Option Addr) (c7 c8 : Nat), v7 = .slice A7 es.length c7 ∧ v8 = .slice A8 (es.length + 1) c8 ∧ v9 = .pointer (some ⟨g, 0, none⟩) ∧ Walked st m l0 n0 d0 es l n d ∧ goodB n d = true ∧ 0 ≤ l ∧ l ≤ B + 1 ∧ OwnI wr w.heap.size (.slice A7 es.length c7) (takenOf es) ∧ OwnF wr w.heap.size (.slice A8 (es.length + 1) c8) ((n0, d0) :: es.map (·.2)) ∧ TwoAt wr g n d ∧ w.heap.size ≤ g ∧ (Value.slice A7 es.length c7).ownBlock ≠ some g ∧ (Value.slice A8 (es.length + 1) c8).ownBlock ≠ some g ∧ I l wr ∧ w.grownBy wr row) (fun v7 _ _ _ => m - slen v7)
    case atStart =>
      refine ⟨[], l0, n0, d0, w1.heap.size, A7, A8, c7, c8, rfl, rfl, by simp, Walked.start _ _ _ _ _, HG.out, hl0, hl1, ?_, ?_, ?_, by omega, ?_, ?_, HI.out _ _ _ H0.out (hb1.alloc (by omega) _), ?_⟩
      · exact Ho7.out.below ((Below.refl _ _).alloc (Nat.le_refl _) _)
      · exact Ho8.out.below ((Below.refl _ _).alloc (Nat.le_refl _) _)
      · exact TwoAt.new w1 n0 d0 _
      · intro e
        have := (Ho7.out.block _ e).2
        omega
      · intro e
        have := (Ho8.out.block _ e).2
        omega
      · exact grownBelow (World.grownBy.refl w row) (Nat.le_refl _) (hb1.alloc (by omega) _)
    case round =>
      obtain ⟨es, l, n, d, g, A7, A8, c7, c8, rfl, rfl, rfl, hwk, hgd, hl2, hl3, ho7, ho8, hq, hgg, hne7, hne8, hi, hgr⟩ := hrel
      have Hq := Lib.hid hq
      have Hne7 := Lib.hid hne7
      have Hne8 := Lib.hid hne8
      clear hne7 hne8
      obtain ⟨q1, q2, q3, q4, q5⟩ := hq
      have Hwk := Lib.hid hwk
      have Hgd := Lib.hid hgd
      have Ho7 := Lib.hid ho7
      have Ho8 := Lib.hid ho8
      have Hi := Lib.hid hi
      have Hgr := Lib.hid hgr
      have hzr := hgr.size
      clear hwk ho7 ho8 hi hgr
      obtain ⟨n1, n2, d1, d2⟩ := good_bounds hgd
      have hle : es.length ≤ m := Hwk.out.1
      clear hgd
      by_cases hn : 0 < n
      · by_cases h24 : es.length = m
        · have h24i : ((es.length : Nat) : Int) = (m : Int) := by omega
          go_wp2
          go_ret3
          exact ⟨Hgr.out, .inr ⟨Hwk.out.full hn h24, rfl⟩⟩
        · have h24i : ((es.length : Nat) : Int) < (m : Int) := by omega
          have h24j : ((es.length : Int) == (m : Int)) = false := by simp; omega
          go_wp2_with fail
          rw [HE.out, Oper.upon_enter]
          refine (HC.out l n d wr Hgd.out (by omega) hl2 hl3 Hi.out).mono ?_; rintro e w2 ⟨hg2, t, n', d', b, rfl, hyes, hno⟩
          have hz2 := hg2.size
          have Hyes := Lib.hid hyes
          have Hno := Lib.hid hno
          have Hg2 := Lib.hid hg2
          clear hyes hno hg2
          cases b with
          | false =>
            have hnone := Hno.out rfl
            go_wp2
            go_ret3
            exact ⟨Hgr.out.trans ((Hg2.out.trans (grownAlloc (World.grownBy.refl w2 _) (Nat.le_refl _) _))), .inr ⟨Hwk.out.fails hn hnone, rfl⟩⟩
          | true =>
            obtain ⟨hst, hi2, hg', ht0, ht1⟩ := Hyes.out rfl
            have Hst := Lib.hid hst
            have Hi2 := Lib.hid hi2
            have Hg' := Lib.hid hg'
            clear hst hi2 hg'
            have hgw : g < wr.heap.size := q5
            have hrg : ∀ k, row = some k → k ≠ g := fun k hk => by have := HR.out k hk; omega
            have Hb7 := Lib.hid fun k hk => (Ho7.out.block k hk).2
            have Hb8 := Lib.hid fun k hk => (Ho8.out.block k hk).2
            have Ho7b := Lib.hid (Ho7.out.row Hg2.out HR.out)
            have Ho8b := Lib.hid (Ho8.out.row Hg2.out HR.out)
            have Hqb := Lib.hid (keptAt Hg2.out (fun e => hrg g e rfl) Hq.out)
            have Hgrb := Lib.hid (Hgr.out.trans Hg2.out)
            go_wp2
            obtain ⟨w3, hw3⟩ : ∃ w3, w3 = w2.alloc (.cells #[.int .i64 n', .int .i64 d'] 27) := ⟨_, rfl⟩
            have hb3 : Below w2.heap.size w2 w3 := by rw [hw3]; (repeat' (first | (with_reducible exact Below.refl _ _) | (with_reducible assumption) | (with_reducible refine Below.drew ?_) | (with_reducible refine belowDrewN ?_ _) | (with_reducible refine Below.alloc ?_ ?_ _) | (with_reducible refine Below.setCell ?_ ?_ _) | (with_reducible refine belowStep (by assumption) ?_ ?_) | (with_reducible exact Below.size (by assumption)) | go_size))
            have hs3 : w3.heap.size = w2.heap.size + 1 := by rw [hw3]; simp
            have Hl : Hid (TwoAt w3 w2.heap.size n' d') := Lib.hid (by rw [hw3]; exact TwoAt.new _ _ _ _)
            rw [← hw3]
            have Hw3 := Lib.hid hw3
            clear hw3 q1 q2 q3 q4 q5 hrg
            have Ho7c := Lib.hid (Ho7b.out.below hb3)
            have Ho8c := Lib.hid (Ho8b.out.below hb3)
            have Hqc := Lib.hid (Hqb.out.below hb3)
            have Hi3 := Lib.hid (HI.out _ _ _ Hi2.out (hb3.mono (by omega)))
            have Hgrc := Lib.hid (grownBelow Hgrb.out (by omega) hb3)
            clear Ho7 Ho8 Ho7b Ho8b Hqb Hgrb Hi2 Hi Hgr Hq
            obtain ⟨q1, q2, q3, q4, q5⟩ := Hqc.out
            obtain ⟨p1, p2, p3, p4, p5⟩ := Hl.out
            have hlt1 : w2.heap.size < w3.heap.size := by omega
            have hlt2 : g < w3.heap.size := by omega
            have hlen7 : (takenOf es).length ≤ m := by rw [takenOf_len]; omega
            have hgn1 : g ≠ w2.heap.size := by omega
            have hgn2 : w2.heap.size ≠ g := by omega
            go_region_held3 (fun w' => w'.cell? ⟨w2.heap.size, 0, none⟩ = some (.int .i64 n') ∧ w'.cell? ⟨w2.heap.size, 1, none⟩ = some (.int .i64 d')) (first | exact ⟨qq1, qq2⟩ | exact ⟨cellFar hgn2 (cellFar hgn2 qq1), cellFar hgn2 (cellFar hgn2 qq2)⟩ | exact ⟨pp1, pp2⟩ | go_keep) (first
              | (refine step_app _ (o := ⟨some 38, _, _, _, _, _⟩) (ys := [t]) rfl _ _ rfl rfl (OwnI.below Ho7c.out (by (repeat' (first | (with_reducible exact Below.refl _ _) | (with_reducible assumption) | (with_reducible refine Below.drew ?_) | (with_reducible refine belowDrewN ?_ _) | (with_reducible refine Below.alloc ?_ ?_ _) | (with_reducible refine Below.setCell ?_ ?_ _) | (with_reducible refine belowStep (by assumption) ?_ ?_) | (with_reducible exact Below.size (by assumption)) | go_size)))) 1 1 rfl rfl (Reads.oneAt (by (first | (simp [*]; done) | (simp [go_sem, *]; done))) (by (first | (go_size; done) | ((try simp only [World.size_alloc, World.size_setCell, World.size_drew, World.heap_drewN]); omega)))) (by simp; omega) (by (first | (go_size; done) | ((try simp only [World.size_alloc, World.size_setCell, World.size_drew, World.heap_drewN]); omega))) ?_; intro v4 w4 ho4 hb4 hg4 ht4; have HB4 := Lib.hid (show Below w.heap.size w3 w4 from Below.trans (by (repeat' (first | (with_reducible exact Below.refl _ _) | (with_reducible assumption) | (with_reducible refine Below.drew ?_) | (with_reducible refine belowDrewN ?_ _) | (with_reducible refine Below.alloc ?_ ?_ _) | (with_reducible refine Below.setCell ?_ ?_ _) | (with_reducible refine belowStep (by assumption) ?_ ?_) | (with_reducible exact Below.size (by assumption)) | go_size))) hb4); have Hne4 := Lib.hid (show v4.ownBlock ≠ some g from by rcases ht4 with e | e; (rw [e]; exact Hne7.out); (rw [e]; intro e2; injection e2 with e2; (try simp only [World.size_alloc, World.size_drew] at e2); omega)); clear ht4; have Ho4 := Lib.hid ho4; have Hg4 := Lib.hid hg4; have Ho8d := Lib.hid (OwnF.kept (OwnF.below Ho8c.out (by (repeat' (first | (with_reducible exact Below.refl _ _) | (with_reducible assumption) | (with_reducible refine Below.drew ?_) | (with_reducible refine belowDrewN ?_ _) | (with_reducible refine Below.alloc ?_ ?_ _) | (with_reducible refine Below.setCell ?_ ?_ _) | (with_reducible refine belowStep (by assumption) ?_ ?_) | (with_reducible exact Below.size (by assumption)) | go_size)))) (OwnI.below Ho7c.out (by (repeat' (first | (with_reducible exact Below.refl _ _) | (with_reducible assumption) | (with_reducible refine Below.drew ?_) | (with_reducible refine belowDrewN ?_ _) | (with_reducible refine Below.alloc ?_ ?_ _) | (with_reducible refine Below.setCell ?_ ?_ _) | (with_reducible refine belowStep (by assumption) ?_ ?_) | (with_reducible exact Below.size (by assumption)) | go_size)))) hg4); have hz4 := hb4.size; have HQ4 := Lib.hid (keptAt hg4 Hne7.out (TwoAt.below Hqc.out (by (repeat' (first | (with_reducible exact Below.refl _ _) | (with_reducible assumption) | (with_reducible refine Below.drew ?_) | (with_reducible refine belowDrewN ?_ _) | (with_reducible refine Below.alloc ?_ ?_ _) | (with_reducible refine Below.setCell ?_ ?_ _) | (with_reducible refine belowStep (by assumption) ?_ ?_) | (with_reducible exact Below.size (by assumption)) | go_size))))); have HL4 := Lib.hid (keptAt hg4 (fun e => by have := Hb7.out _ e; omega) (TwoAt.below Hl.out (by (repeat' (first | (with_reducible exact Below.refl _ _) | (with_reducible assumption) | (with_reducible refine Below.drew ?_) | (with_reducible refine belowDrewN ?_ _) | (with_reducible refine Below.alloc ?_ ?_ _) | (with_reducible refine Below.setCell ?_ ?_ _) | (with_reducible refine belowStep (by assumption) ?_ ?_) | (with_reducible exact Below.size (by assumption)) | go_size))))); (try simp only [World.size_alloc, World.size_drew] at hz4); obtain ⟨pp1, pp2, pp3, pp4, pp5⟩ := HL4.out; clear ho4 hg4 hb4)
              | (refine step_appF (o := ⟨some 42, _, _, _, _, _⟩) rfl _ _ rfl rfl (OwnF.below Ho8d.out (by (repeat' (first | (with_reducible exact Below.refl _ _) | (with_reducible assumption) | (with_reducible refine Below.drew ?_) | (with_reducible refine belowDrewN ?_ _) | (with_reducible refine Below.alloc ?_ ?_ _) | (with_reducible refine Below.setCell ?_ ?_ _) | (with_reducible refine belowStep (by assumption) ?_ ?_) | (with_reducible exact Below.size (by assumption)) | go_size)))) _ n' d' rfl (by first | (first | (simp [*]; done) | (simp [go_sem, *]; done)) | exact Hg4.out.cell (litOld (by (first | (go_size; done) | ((try simp only [World.size_alloc, World.size_setCell, World.size_drew, World.heap_drewN]); omega))) rfl) (fun e => by have := Hb7.out (w2.heap.size + 1) e.symm; omega) | exact Hg4.out.cell (litNew (by (first | (go_size; done) | ((try simp only [World.size_alloc, World.size_setCell, World.size_drew, World.heap_drewN]); omega))) rfl) (fun e => by have := Hb7.out (w2.heap.size + 1 + 1) e.symm; omega)) (by first | (first | (simp [*]; done) | (simp [go_sem, *]; done)) | exact Hg4.out.cell (litOld (by (first | (go_size; done) | ((try simp only [World.size_alloc, World.size_setCell, World.size_drew, World.heap_drewN]); omega))) rfl) (fun e => by have := Hb7.out (w2.heap.size + 1) e.symm; omega) | exact Hg4.out.cell (litNew (by (first | (go_size; done) | ((try simp only [World.size_alloc, World.size_setCell, World.size_drew, World.heap_drewN]); omega))) rfl) (fun e => by have := Hb7.out (w2.heap.size + 1 + 1) e.symm; omega)) (by simp; omega) (by (first | (go_size; done) | ((try simp only [World.size_alloc, World.size_setCell, World.size_drew, World.heap_drewN]); omega))) ?_; intro v5 w5 ho5 hg5 ht5; have HB5 := Lib.hid (show Below w.heap.size w3 w5 from (Below.trans (Below.trans HB4.out (by (repeat' (first | (with_reducible exact Below.refl _ _) | (with_reducible assumption) | (with_reducible refine Below.drew ?_) | (with_reducible refine belowDrewN ?_ _) | (with_reducible refine Below.alloc ?_ ?_ _) | (with_reducible refine Below.setCell ?_ ?_ _) | (with_reducible refine belowStep (by assumption) ?_ ?_) | (with_reducible exact Below.size (by assumption)) | go_size)))) (belowOf hg5 (by (first | (go_size; done) | ((try simp only [World.size_alloc, World.size_setCell, World.size_drew, World.heap_drewN]); omega))) (fun k hk => (Ho8c.out.block k hk).1)))); have Hne5 := Lib.hid (show v5.ownBlock ≠ some g from by rcases ht5 with e | e; (rw [e]; exact Hne8.out); (rw [e]; intro e2; injection e2 with e2; (try simp only [World.size_alloc] at e2); omega)); clear ht5; have Ho5 := Lib.hid ho5; have Hg5 := Lib.hid hg5; have Ho4d := Lib.hid (OwnI.keptF (OwnI.below Ho4.out (by (repeat' (first | (with_reducible exact Below.refl _ _) | (with_reducible assumption) | (with_reducible refine Below.drew ?_) | (with_reducible refine belowDrewN ?_ _) | (with_reducible refine Below.alloc ?_ ?_ _) | (with_reducible refine Below.setCell ?_ ?_ _) | (with_reducible refine belowStep (by assumption) ?_ ?_) | (with_reducible exact Below.size (by assumption)) | go_size)))) (OwnF.below Ho8d.out (by (repeat' (first | (with_reducible exact Below.refl _ _) | (with_reducible assumption) | (with_reducible refine Below.drew ?_) | (with_reducible refine belowDrewN ?_ _) | (with_reducible refine Below.alloc ?_ ?_ _) | (with_reducible refine Below.setCell ?_ ?_ _) | (with_reducible refine belowStep (by assumption) ?_ ?_) | (with_reducible exact Below.size (by assumption)) | go_size)))) hg5); have hz5 := hg5.size; have HQ5 := Lib.hid (keptAt hg5 Hne8.out (TwoAt.below HQ4.out (by (repeat' (first | (with_reducible exact Below.refl _ _) | (with_reducible assumption) | (with_reducible refine Below.drew ?_) | (with_reducible refine belowDrewN ?_ _) | (with_reducible refine Below.alloc ?_ ?_ _) | (with_reducible refine Below.setCell ?_ ?_ _) | (with_reducible refine belowStep (by assumption) ?_ ?_) | (with_reducible exact Below.size (by assumption)) | go_size))))); have HL5 := Lib.hid (keptAt hg5 (fun e => by have := Hb8.out _ e; omega) (TwoAt.below HL4.out (by (repeat' (first | (with_reducible exact Below.refl _ _) | (with_reducible assumption) | (with_reducible refine Below.drew ?_) | (with_reducible refine belowDrewN ?_ _) | (with_reducible refine Below.alloc ?_ ?_ _) | (with_reducible refine Below.setCell ?_ ?_ _) | (with_reducible refine belowStep (by assumption) ?_ ?_) | (with_reducible exact Below.size (by assumption)) | go_size))))); (try simp only [World.size_alloc] at hz5); obtain ⟨qq1, qq2, qq3, qq4, qq5⟩ := HL5.out; obtain ⟨qr1, qr2, qr3, qr4, qr5⟩ := HQ5.out; clear ho5 hg5))
            all_goals
              obtain ⟨A4, c4, e4, _⟩ := Ho4.out.form
              obtain ⟨A5, c5, e5⟩ := Ho5.out.form
              have hl4 : (takenOf es ++ [t]).length = es.length + 1 := by simp [takenOf_len]
              have hl5 : (((n0, d0) :: es.map (·.2)) ++ [(n', d')]).length = es.length + 1 + 1 := by simp
              rw [hl4] at e4
              rw [hl5] at e5
              subst e4 e5
              clear hl4 hl5
              go_wp2
              go_roundw
              case rel =>
                have BX : Below w.heap.size w3 (((w5.setCell ⟨g, 0, none⟩ (.int .i64 n')).setCell ⟨g, 1, none⟩ (.int .i64 d')).alloc (.cells #[.int .i64 n', .int .i64 d'] 27)) := ((HB5.out.setCell hgg _).setCell hgg _).alloc (by have := HB5.out.size; simp; omega) _
                have hle5 : (es ++ [(t, n', d')]).length = es.length + 1 := by simp
                refine ⟨es ++ [(t, n', d')], t + 1, n', d', w5.heap.size, A4, A5, c4, c5, by rw [hle5], by rw [hle5], by simp, Hwk.out.step (by omega) hn Hst.out, Hg'.out, by omega, by omega, ?_, ?_, ?_, ?_, ?_, ?_, HI.out _ _ _ Hi3.out BX, grownBelowB Hgrc.out (by omega) BX⟩
                · rw [hle5, takenOf_snoc]
                  exact ((Ho4d.out.setO g 0 _ Hne4.out).setO g 1 _ Hne4.out).below ((Below.refl _ _).alloc (Nat.le_refl _) _)
                · rw [hle5, List.map_append]
                  exact ((Ho5.out.setO g 0 _ Hne5.out).setO g 1 _ Hne5.out).below ((Below.refl _ _).alloc (Nat.le_refl _) _)
                · have h := TwoAt.new ((w5.setCell ⟨g, 0, none⟩ (.int .i64 n')).setCell ⟨g, 1, none⟩ (.int .i64 d')) n' d' 27
                  rw [World.size_setCell, World.size_setCell] at h
                  exact h
                · have := HB5.out.size; omega
                · intro e
                  have := (Ho4d.out.block _ (by rw [hle5] at e; exact e)).2
                  omega
                · intro e
                  have := (Ho5.out.block _ (by rw [hle5] at e; exact e)).2
                  omega
              case measure => simp [slen]; omega
      · have hn0 : n = 0 := by omega
        go_wp2
        go_ret3
        have hdn := Hwk.out.done (by omega)
        refine ⟨Hgr.out, .inl ⟨es, _, _, hdn, hle, rfl, ?_, ?_⟩⟩
        · exact Ho7.out
        · exact Ho8.out
abbrev WalkP := WalkM 24
theorem walk_any (k : Nat) (cs : Array Value) (st : Stp) (I : Int → World → Prop) (row : Option Nat) (l0 n0 d0 : Int) (w : World)
    (hrow : ∀ g, row = some g → g < w.heap.size) (hI : ∀ l w1 w2, I l w1 → Below w.heap.size w1 w2 → I l w2)
    (hent : ∀ args w1, Sem.run Tryz.prog (callFunc k args) w1 = .ok (.enter k args) w1)
    (hcall : ∀ l n d w1, goodB n d = true → 1 ≤ n → 0 ≤ l → l ≤ 1000000001 → I l w1 → Calls Tryz.prog k (#[.agg #[.int .i64 n, .int .i64 d]] ++ cs) w1 (StepR st I row l n d w1))
    (hg : goodB n0 d0 = true) (hl0 : 0 ≤ l0) (hl1 : l0 ≤ 1000000001) (h0 : I l0 w) :
    Calls Tryz.prog 49 #[.agg #[.int .i64 n0, .int .i64 d0], .int .i64 24, .func (.func k) #[] cs] w (WalkP st row l0 n0 d0 w) :=
  walkM_any 1000000000 24 (by omega) (by omega) k cs st I row l0 n0 d0 w hrow hI hent hcall hg hl0 hl1 h0
end Go.Proofs.YtbjblkfibinenadGreatDoor
