import Derived.Test.YthkchhjidihkpabPk2
import Derived.Test.YthkchhjidihkpabPk1

/-
  Plain facts: which sums are reached, as a list of truth values. No program.
-/
namespace Go.Proofs.Ythkchhjidihkpab
/-- for each number up to the greatest sum whether it is reached -/
def rl (l : List Nat) : List Bool := (List.range (l.sum + 1)).map (fun s => decide (0 < ways l s))
/-- the same on the way, when d has been added to the first j of them -/
def rn (l : List Nat) (d j : Nat) : List Bool := (List.range (l.sum + d + 1)).map (fun s => decide (0 < ways l s) || (decide (d ≤ s) && decide (s - d < j) && decide (0 < ways l (s - d))))
theorem rl_len (l : List Nat) : (rl l).length = l.sum + 1 := by simp [rl]
theorem rn_len (l : List Nat) (d j : Nat) : (rn l d j).length = l.sum + d + 1 := by simp [rn]
theorem rl_at (l : List Nat) {s : Nat} (h : s ≤ l.sum) : (rl l)[s]? = some (decide (0 < ways l s)) := by
  unfold rl
  rw [List.getElem?_map, List.getElem?_range (by omega)]
  rfl
theorem rn_at (l : List Nat) (d j : Nat) {s : Nat} (h : s ≤ l.sum + d) : (rn l d j)[s]? = some (decide (0 < ways l s) || (decide (d ≤ s) && decide (s - d < j) && decide (0 < ways l (s - d)))) := by
  unfold rn
  rw [List.getElem?_map, List.getElem?_range (by omega)]
  rfl
theorem rl_nil : rl [] = [true] := by decide
/-- as the numbers that are not reached yet are added -/
theorem rn_zero (l : List Nat) (d : Nat) : rn l d 0 = rl l ++ List.replicate d false := by
  apply List.ext_getElem?
  intro s
  by_cases h : s ≤ l.sum
  · rw [rn_at l d 0 (by omega), List.getElem?_append_left (by rw [rl_len]; omega), rl_at l h]
    simp
  · by_cases h2 : s ≤ l.sum + d
    · rw [rn_at l d 0 h2, List.getElem?_append_right (by rw [rl_len]; omega), List.getElem?_replicate, if_pos (by rw [rl_len]; omega), ways_none (by omega)]
      simp
    · rw [List.getElem?_eq_none (by rw [rn_len]; omega), List.getElem?_eq_none (by rw [List.length_append, rl_len, List.length_replicate]; omega)]
theorem rn_yes (l : List Nat) (d j : Nat) (h : 0 < ways l j) (hj : j ≤ l.sum) : (rn l d j).set (j + d) true = rn l d (j + 1) := by
  apply List.ext_getElem?
  intro s
  rw [List.getElem?_set]
  by_cases h2 : s ≤ l.sum + d
  · by_cases he : j + d = s
    · subst he
      rw [if_pos rfl, rn_len, if_pos (by omega), rn_at l d (j + 1) h2, show j + d - d = j from by omega]
      simp [h]
    · rw [if_neg he, rn_at l d j h2, rn_at l d (j + 1) h2]
      congr 2
      by_cases h3 : d ≤ s
      · have : decide (s - d < j) = decide (s - d < j + 1) := by
          by_cases h4 : s - d < j
          · rw [decide_eq_true h4, decide_eq_true (by omega)]
          · rw [decide_eq_false h4, decide_eq_false (by omega)]
        rw [this]
      · rw [decide_eq_false h3]; rfl
  · rw [if_neg (by omega), List.getElem?_eq_none (by rw [rn_len]; omega), List.getElem?_eq_none (by rw [rn_len]; omega)]
theorem rn_no (l : List Nat) (d j : Nat) (h : ¬ 0 < ways l j) : rn l d j = rn l d (j + 1) := by
  apply List.ext_getElem?
  intro s
  by_cases h2 : s ≤ l.sum + d
  · rw [rn_at l d j h2, rn_at l d (j + 1) h2]
    congr 2
    by_cases h3 : d ≤ s
    · by_cases h4 : s - d = j
      · rw [h4]; simp [h]
      · have : decide (s - d < j) = decide (s - d < j + 1) := by
          by_cases h4 : s - d < j
          · rw [decide_eq_true h4, decide_eq_true (by omega)]
          · rw [decide_eq_false h4, decide_eq_false (by omega)]
        rw [this]
    · rw [decide_eq_false h3]; rfl
  · rw [List.getElem?_eq_none (by rw [rn_len]; omega), List.getElem?_eq_none (by rw [rn_len]; omega)]
theorem rn_all (l : List Nat) (d : Nat) : rn l d (l.sum + 1) = rl (d :: l) := by
  apply List.ext_getElem?
  intro s
  by_cases h2 : s ≤ l.sum + d
  · rw [rn_at l d _ h2, rl_at (d :: l) (by rw [List.sum_cons]; omega)]
    congr 1
    rw [ways]
    by_cases h3 : d ≤ s
    · rw [if_pos h3]
      by_cases h4 : s - d ≤ l.sum
      · rw [decide_eq_true h3, decide_eq_true (show s - d < l.sum + 1 by omega)]
        by_cases h5 : 0 < ways l s <;> by_cases h6 : 0 < ways l (s - d) <;> simp [h5, h6] <;> omega
      · rw [ways_none (show l.sum < s - d by omega)]
        simp
    · rw [if_neg h3, decide_eq_false h3]
      simp
  · rw [List.getElem?_eq_none (by rw [rn_len]; omega), List.getElem?_eq_none (by rw [rl_len, List.sum_cons]; omega)]
/-- what isn't reached, as the model tells it -/
def unI (n : Nat) : Int := match brkO n with | none => -1 | some (_, k) => (sig k : Int) + 1
theorem unI_is {n : Nat} (h1 : 1 ≤ n) (h2 : n ≤ 2000) {s : Nat} (hs : s ≤ sig n) (h0 : ways (dsc n n) s = 0) (hl : ∀ t, t < s → 0 < ways (dsc n n) t) : unI n = (s : Int) := by
  have hb := brkO_says h1 h2
  unfold unI
  cases hk : brkO n with
  | none =>
    rw [hk] at hb
    have := hb s hs
    omega
  | some x =>
    obtain ⟨q, k⟩ := x
    rw [hk] at hb
    obtain ⟨l, e, hq, hk1, hl1, hr, hql, hsk, hf, hc⟩ := hb
    obtain ⟨a, b, c⟩ := broken_facts hk1 hl1 hr hsk hql hf
    rw [← e] at a b c
    show (sig k : Int) + 1 = (s : Int)
    rcases Nat.lt_or_ge s (sig k + 1) with h | h
    · have := b s (by omega); omega
    · rcases Nat.lt_or_ge (sig k + 1) s with h3 | h3
      · have := hl _ h3; omega
      · omega
theorem unI_none {n : Nat} (h1 : 1 ≤ n) (h2 : n ≤ 2000) (hl : ∀ t, t ≤ sig n → 0 < ways (dsc n n) t) : unI n = -1 := by
  have := (full_iff h1 h2).1 hl
  unfold unI
  rw [this]
theorem unI_neg (n : Nat) : decide (unI n < 0) = (brkO n).isNone := by
  unfold unI
  cases brkO n with
  | none => rfl
  | some x =>
    obtain ⟨q, k⟩ := x
    show decide ((sig k : Int) + 1 < 0) = false
    simp
    omega
theorem unI_small {n : Nat} (h1 : 1 ≤ n) (h2 : n ≤ 2000) : -1 ≤ unI n ∧ (unI n ≤ (sig n : Int)) := by
  have hb := brkO_says h1 h2
  unfold unI
  cases hk : brkO n with
  | none => constructor <;> simp <;> omega
  | some x =>
    obtain ⟨q, k⟩ := x
    rw [hk] at hb
    obtain ⟨l, e, hq, hk1, hl1, hr, hql, hsk, hf, hc⟩ := hb
    obtain ⟨a, b, c⟩ := broken_facts hk1 hl1 hr hsk hql hf
    rw [← e] at c
    show -1 ≤ (sig k : Int) + 1 ∧ (sig k : Int) + 1 ≤ _
    omega
end Go.Proofs.Ythkchhjidihkpab


/-
  Words for slices of truth values.
-/
namespace Go.Proofs.Ythkchhjidihkpab
open Go.RowKit
/-- a slice (its address an option: nil is let in) that reads as the list xs -/
def ReadsT (w : World) (A : Option Addr) (xs : List Bool) : Prop :=
  0 < xs.length → ∃ b o, A = some ⟨b, o, none⟩ ∧ b < w.heap.size ∧ ∀ i x, xs[i]? = some x → w.cell? ⟨b, o + i, none⟩ = some (.bool x)
/-- a slice of the call's own, of blocks from base on -/
def OwnB (w : World) (base : Nat) (v : Value) (xs : List Bool) : Prop := w.ownsRow base 4 1 v xs.length (xs.map (Value.bool))
section
variable {w w' : World} {A : Option Addr} {xs ys : List Bool} {base : Nat} {v : Value}
theorem ReadsT.nil : ReadsT w A [] := fun h => absurd h (by simp)
theorem ReadsT.at_ {k : Nat} (h : ReadsT w A xs) (hk : k < xs.length) : ∃ b o x, A = some ⟨b, o, none⟩ ∧ b < w.heap.size ∧ xs[k]? = some x ∧ w.cell? ⟨b, o + k, none⟩ = some (.bool x) := by
  obtain ⟨b, o, e, hb, hc⟩ := h (by omega)
  exact ⟨b, o, xs[k], e, hb, List.getElem?_eq_getElem hk, hc k _ (List.getElem?_eq_getElem hk)⟩
/-- at two places at once -/
theorem ReadsT.at2 {k j : Nat} (h : ReadsT w A xs) (hk : k < xs.length) (hj : j < xs.length) : ∃ b o x y, A = some ⟨b, o, none⟩ ∧ b < w.heap.size ∧ xs[k]? = some x ∧ xs[j]? = some y ∧ w.cell? ⟨b, o + k, none⟩ = some (.bool x) ∧ w.cell? ⟨b, o + j, none⟩ = some (.bool y) := by
  obtain ⟨b, o, e, hb, hc⟩ := h (by omega)
  exact ⟨b, o, xs[k], xs[j], e, hb, List.getElem?_eq_getElem hk, List.getElem?_eq_getElem hj, hc k _ (List.getElem?_eq_getElem hk), hc j _ (List.getElem?_eq_getElem hj)⟩
theorem ReadsT.below (h : ReadsT w A xs) (hb : Below w.heap.size w w') : ReadsT w' A xs := fun h0 => by
  obtain ⟨b, o, e, hlt, hc⟩ := h h0
  exact ⟨b, o, e, Nat.lt_of_lt_of_le hlt hb.size, fun i x hx => (hb.cell (p := ⟨b, o + i, none⟩) hlt).trans (hc i x hx)⟩
theorem ReadsT.drewN (h : ReadsT w A xs) (k : Nat) : ReadsT (w.drewN k) A xs := h
theorem OwnB.form {base : Nat} {v : Value} (h : OwnB w base v xs) : ∃ A c, v = .slice A xs.length c ∧ ReadsT w A xs := by
  rcases h.2 with ⟨hv, h0⟩ | ⟨g, cap, cur, hv, hb, hg, hnc, hcm, hcs, ht⟩
  · exact ⟨none, 0, by rw [hv, h0], fun h1 => by omega⟩
  · refine ⟨some ⟨g, 0, none⟩, cap, hv, fun _ => ⟨g, 0, rfl, ?_, fun i x hx => ?_⟩⟩
    · rcases Nat.lt_or_ge g w.heap.size with hlt | hge
      · exact hlt
      · rw [Array.getElem?_eq_none hge] at hg; cases hg
    · subst hv
      have hi : i < xs.length := (List.getElem?_eq_some_iff.1 hx).1
      have := World.ownsRow.cellAt (h : w.ownsRow _ _ _ _ _ _) i (by omega)
      rw [Nat.zero_add, this, List.getElem?_map, hx]
      rfl
theorem OwnB.block {base : Nat} {v : Value} (h : OwnB w base v xs) : ∀ k, v.ownBlock = some k → base ≤ k ∧ k < w.heap.size := World.ownsRow.lt h
theorem OwnB.below {base : Nat} {v : Value} (h : OwnB w base v xs) (hb : Below w.heap.size w w') : OwnB w' base v xs := by
  refine ⟨h.1, ?_⟩
  rcases h.2 with h0 | ⟨g, cap, cur, hv, hbg, hg, r⟩
  · exact .inl h0
  · refine .inr ⟨g, cap, cur, hv, hbg, ?_, r⟩
    have hlt := (World.ownsRow.lt h g (by rw [hv]; rfl)).2
    rw [hb.block g hlt]
    exact hg
theorem OwnB.mono {base base' : Nat} {v : Value} (h : OwnB w base v xs) (hb : base' ≤ base) : OwnB w base' v xs := by
  refine ⟨h.1, ?_⟩
  rcases h.2 with h0 | ⟨g, cap, cur, hv, hbg, r⟩
  · exact .inl h0
  · exact .inr ⟨g, cap, cur, hv, Nat.le_trans hb hbg, r⟩
theorem OwnB.set_ {base g n c : Nat} (h : OwnB w base (.slice (some ⟨g, 0, none⟩) n c) xs) (hn : n = xs.length) (k : Nat) (x : Bool) :
    OwnB (w.setCell ⟨g, k, none⟩ (.bool x)) base (.slice (some ⟨g, 0, none⟩) n c) (xs.set k x) := by
  subst hn
  have := (World.ownsRow.stored (h : w.ownsRow _ _ _ _ _ _) k (.bool x)).1
  unfold OwnB
  rw [List.length_set, List.map_set]
  exact this
theorem OwnB.cell_ {base g n c : Nat} (h : OwnB w base (.slice (some ⟨g, 0, none⟩) n c) xs) (hn : n = xs.length) {k : Nat} {x : Bool} (hx : xs[k]? = some x) :
    w.cell? ⟨g, k, none⟩ = some (.bool x) ∧ w.frozen? ⟨g, k, none⟩ = false := by
  subst hn
  have hk : k < xs.length := (List.getElem?_eq_some_iff.1 hx).1
  refine ⟨?_, World.ownsRow.frozenAt (h : w.ownsRow _ _ _ _ _ _) k⟩
  rw [World.ownsRow.cellAt (h : w.ownsRow _ _ _ _ _ _) k (by omega), List.getElem?_map, hx]
  rfl

theorem boolInfo : (Try.prog.info? 4).map (fun i => (i.zero, i.size, i.bytes)) = some (some (.bool false), 1, 1) := by kernel_rfl
theorem OwnB.empty (w : World) (base : Nat) : OwnB w base (.slice none 0 0) [] := World.ownsRow_nil w base _ 1
/-- an empty literal: a block of no cells -/
theorem OwnB.zero (w : World) (base : Nat) (hb : base ≤ w.heap.size) : OwnB (w.alloc (.cells #[] 4)) base (.slice (some ⟨w.heap.size, 0, none⟩) 0 0) [] :=
  World.ownsRow_lit w #[] 0 hb (by unfold maxLen; omega) rfl
theorem ReadsT.one (w : World) (x : Bool) : ReadsT (w.alloc (.cells #[.bool x] 4)) (some ⟨w.heap.size, 0, none⟩) [x] := fun _ =>
  ⟨w.heap.size, 0, rfl, by simp, fun i y h => by
    match i, h with
    | 0, h =>
      simp only [List.getElem?_cons_zero, Option.some.injEq] at h
      subst h
      simp⟩
theorem oneCellBools (xs : List Bool) : ∀ u ∈ xs.map (Value.bool), u.oneCell' = true := fun u hu => by obtain ⟨b, _, rfl⟩ := List.mem_map.1 hu; rfl

/-- append onto a slice of the call's own, of a source that reads as ys (nil let in) -/
theorem run_appB (w : World) (ty : TypeId) (hown : OwnB w base v xs) (c : Nat) (hr : ReadsT w A ys) (hlen : xs.length + ys.length ≤ 16777216) (hbase : base ≤ w.heap.size) :
    ∃ v' w', (Builtin.append_ #[108, 108] ty #[v, .slice A ys.length c]).run Try.prog w = .ok v' w' ∧ OwnB w' base v' (xs ++ ys) ∧ w.grownBy w' v.ownBlock ∧
      (v'.ownBlock = v.ownBlock ∨ v'.ownBlock = some w.heap.size) := by
  obtain ⟨i0, hi, hz0, hz1, hz2⟩ := info_parts boolInfo
  rcases Nat.eq_zero_or_pos ys.length with h0 | h0
  · have hy : ys = [] := List.eq_nil_of_length_eq_zero h0
    subst hy
    rw [List.append_nil]
    cases A with
    | none =>
      refine ⟨v, w, ?_, hown, World.grownBy.refl w _, .inl rfl⟩
      rcases hown.2 with ⟨rfl, _⟩ | ⟨g, cap, cur, rfl, _, _, hnc, _⟩
      · simp [Builtin.append_, run_underlying Try.underlying108, sizeOf, typeInfo, hi, Builtin.lenOf, Builtin.firstCells]
      · simp [Builtin.append_, run_underlying Try.underlying108, sizeOf, typeInfo, hi, Builtin.lenOf, Builtin.firstCells, hnc, storeCells]
    | some a =>
      obtain ⟨v', w', h1, h2, h3, _, h5⟩ := run_append_own_at (P := Try.prog) w base 108 ty 4 i0 (.bool false) 1 1 Try.underlying108 hi hz0 hz1 hz2 rfl (by omega) v xs.length _ hown a 0 c [] rfl (fun j u h => by simp at h) (fun u h => by simp at h) (by unfold maxLen; omega) (by omega) hbase
      refine ⟨v', w', h1, ?_, h3, h5⟩
      simpa [OwnB] using h2
  · obtain ⟨b, o, rfl, hb, hc⟩ := hr h0
    obtain ⟨v', w', h1, h2, h3, _, h5⟩ := run_append_own_at (P := Try.prog) w base 108 ty 4 i0 (.bool false) 1 1 Try.underlying108 hi hz0 hz1 hz2 rfl (by omega) v xs.length _ hown ⟨b, o, none⟩ ys.length c (ys.map (Value.bool)) (by simp)
      (fun j u h => by
        rw [List.getElem?_map] at h
        cases hx : ys[j]? with
        | none => rw [hx] at h; cases h
        | some x =>
          rw [hx] at h
          simp only [Option.map_some, Option.some.injEq] at h
          subst h
          rw [Go.WideShapes.add_plain]
          exact hc j x hx)
      (oneCellBools ys) (by unfold maxLen; omega) (by omega) hbase
    refine ⟨v', w', h1, ?_, h3, h5⟩
    simpa [OwnB] using h2

theorem wpList_appB (w : World) {ops : Array Oper} {rest : List Oper} {o : Oper} {a : Act} {Q : Exit → Act → World → Prop} (hgd : o.guard = none) (s x : Operand)
    (ho : o.op = .call { callee := .builtin .append, args := #[s, x], argTypes := #[108, 108] })
    (hs : a.eval s = v) (hown : OwnB w base v xs) (m c : Nat) (hm : ys.length = m) (hx : a.eval x = .slice A m c) (hr : ReadsT w A ys) (hlen : xs.length + ys.length ≤ 16777216) (hbase : base ≤ w.heap.size)
    (h : ∀ v' w', OwnB w' base v' (xs ++ ys) → Below base w w' → w.grownBy w' v.ownBlock → (v'.ownBlock = v.ownBlock ∨ v'.ownBlock = some w.heap.size) → wpList Try.prog ops Q rest (a.put o.dst v') w') :
    wpList Try.prog ops Q (o :: rest) a w := by
  subst hm
  refine wpList_plain hgd fun K hK => ?_
  obtain ⟨v', w', hrun, h2, h3, h4⟩ := run_appB w o.type hown c hr hlen hbase
  unfold Oper.wp execOp
  simp only [ho, resolve, invoke, builtin, Sem.run_bind, Sem.run_pure, Result.andThen_ok, List.map_toArray, List.map_cons, List.map_nil, hs, hx, hrun]
  exact hK _ _ (h v' w' h2 ((Below.refl base w).grown h3 hbase (fun k hk => (hown.block k hk).1)) h3 h4)
theorem OwnB.reads {A : Option Addr} {n c : Nat} (h : OwnB w base (.slice A n c) xs) : ReadsT w A xs ∧ n = xs.length := by
  obtain ⟨A', c', e, hr⟩ := h.form
  injection e with e1 e2 e3
  subst e1
  exact ⟨hr, e2⟩
theorem OwnB.cap_ {A : Option Addr} {n c : Nat} (h : OwnB w base (.slice A n c) xs) : n ≤ c := by
  rcases h.2 with ⟨hv, h0⟩ | ⟨g, cap, cur, hv, _, _, hnc, _⟩
  · injection hv with _ h1 h2; omega
  · injection hv with _ h1 h2; omega
theorem ReadsT.cutTo {A : Option Addr} (k : Nat) (h : ReadsT w A xs) : ReadsT w A (xs.take k) := fun h0 => by
  rw [List.length_take] at h0
  obtain ⟨b, o, rfl, hb, hx⟩ := h (by omega)
  refine ⟨b, o, rfl, hb, fun i x hi => hx i x ?_⟩
  rw [List.getElem?_take] at hi
  split at hi
  · exact hi
  · cases hi
theorem OwnB.drewN (h : OwnB w base v xs) (k : Nat) : OwnB (w.drewN k) base v xs := h
end
end Go.Proofs.Ythkchhjidihkpab


/-
  What the built-in append and an empty literal leave, in this seat's words for slices of ints.
-/
namespace Go.Proofs.Ythkchhjidihkpab
open Go.RowKit
section
variable {w w' : World} {A : Option Addr} {xs ys : List Int} {base : Nat} {v : Value}
theorem OwnI.empty (w : World) (base : Nat) : OwnI w base (.slice none 0 0) [] := World.ownsRow_nil w base _ 1
/-- an empty literal: a block of no cells -/
theorem OwnI.zero (w : World) (base : Nat) (hb : base ≤ w.heap.size) : OwnI (w.alloc (.cells #[] 3)) base (.slice (some ⟨w.heap.size, 0, none⟩) 0 0) [] :=
  World.ownsRow_lit w #[] 0 hb (by unfold maxLen; omega) rfl
theorem Reads.one (w : World) (x : Int) : Reads (w.alloc (.cells #[.int .i64 x] 3)) (some ⟨w.heap.size, 0, none⟩) [x] := fun _ =>
  ⟨w.heap.size, 0, rfl, by simp, fun i y h => by
    match i, h with
    | 0, h =>
      simp only [List.getElem?_cons_zero, Option.some.injEq] at h
      subst h
      simp⟩
theorem oneCellInts (xs : List Int) : ∀ u ∈ xs.map (Value.int .i64), u.oneCell' = true := ints_oneCell .i64 xs

/-- append onto a slice of the call's own, of a source that reads as ys (nil let in) -/
theorem run_app (w : World) (ty : TypeId) (hown : OwnI w base v xs) (c : Nat) (hr : Reads w A ys) (hlen : xs.length + ys.length ≤ 16777216) (hbase : base ≤ w.heap.size) :
    ∃ v' w', (Builtin.append_ #[22, 22] ty #[v, .slice A ys.length c]).run Try.prog w = .ok v' w' ∧ OwnI w' base v' (xs ++ ys) ∧ w.grownBy w' v.ownBlock ∧
      (v'.ownBlock = v.ownBlock ∨ v'.ownBlock = some w.heap.size) := by
  obtain ⟨i0, hi, hz0, hz1, hz2⟩ := info_parts intInfo
  rcases Nat.eq_zero_or_pos ys.length with h0 | h0
  · have hy : ys = [] := List.eq_nil_of_length_eq_zero h0
    subst hy
    rw [List.append_nil]
    cases A with
    | none =>
      refine ⟨v, w, ?_, hown, World.grownBy.refl w _, .inl rfl⟩
      rcases hown.2 with ⟨rfl, _⟩ | ⟨g, cap, cur, rfl, _, _, hnc, _⟩
      · simp [Builtin.append_, run_underlying Try.underlying22, sizeOf, typeInfo, hi, Builtin.lenOf, Builtin.firstCells]
      · simp [Builtin.append_, run_underlying Try.underlying22, sizeOf, typeInfo, hi, Builtin.lenOf, Builtin.firstCells, hnc, storeCells]
    | some a =>
      obtain ⟨v', w', h1, h2, h3, _, h5⟩ := run_append_own_at (P := Try.prog) w base 22 ty 3 i0 (.int .i64 0) 1 8 Try.underlying22 hi hz0 hz1 hz2 rfl (by omega) v xs.length _ hown a 0 c [] rfl (fun j u h => by simp at h) (fun u h => by simp at h) (by unfold maxLen; omega) (by omega) hbase
      refine ⟨v', w', h1, ?_, h3, h5⟩
      simpa [OwnI] using h2
  · obtain ⟨b, o, rfl, hb, hc⟩ := hr h0
    obtain ⟨v', w', h1, h2, h3, _, h5⟩ := run_append_own_at (P := Try.prog) w base 22 ty 3 i0 (.int .i64 0) 1 8 Try.underlying22 hi hz0 hz1 hz2 rfl (by omega) v xs.length _ hown ⟨b, o, none⟩ ys.length c (ys.map (Value.int .i64)) (by simp)
      (fun j u h => by
        rw [List.getElem?_map] at h
        cases hx : ys[j]? with
        | none => rw [hx] at h; cases h
        | some x =>
          rw [hx] at h
          simp only [Option.map_some, Option.some.injEq] at h
          subst h
          rw [Go.WideShapes.add_plain]
          exact hc j x hx)
      (oneCellInts ys) (by unfold maxLen; omega) (by omega) hbase
    refine ⟨v', w', h1, ?_, h3, h5⟩
    simpa [OwnI] using h2

theorem wpList_app (w : World) {ops : Array Oper} {rest : List Oper} {o : Oper} {a : Act} {Q : Exit → Act → World → Prop} (hgd : o.guard = none) (s x : Operand)
    (ho : o.op = .call { callee := .builtin .append, args := #[s, x], argTypes := #[22, 22] })
    (hs : a.eval s = v) (hown : OwnI w base v xs) (m c : Nat) (hm : ys.length = m) (hx : a.eval x = .slice A m c) (hr : Reads w A ys) (hlen : xs.length + ys.length ≤ 16777216) (hbase : base ≤ w.heap.size)
    (h : ∀ v' w', OwnI w' base v' (xs ++ ys) → Below base w w' → w.grownBy w' v.ownBlock → (v'.ownBlock = v.ownBlock ∨ v'.ownBlock = some w.heap.size) → wpList Try.prog ops Q rest (a.put o.dst v') w') :
    wpList Try.prog ops Q (o :: rest) a w := by
  subst hm
  refine wpList_plain hgd fun K hK => ?_
  obtain ⟨v', w', hrun, h2, h3, h4⟩ := run_app w o.type hown c hr hlen hbase
  unfold Oper.wp execOp
  simp only [ho, resolve, invoke, builtin, Sem.run_bind, Sem.run_pure, Result.andThen_ok, List.map_toArray, List.map_cons, List.map_nil, hs, hx, hrun]
  exact hK _ _ (h v' w' h2 ((Below.refl base w).grown h3 hbase (fun k hk => (hown.block k hk).1)) h3 h4)
/-- the same, as one step of a region that draws its order -/
theorem step_app (w : World) {ops : Array Oper} {o : Oper} {a : Act} {K : Act → World → Prop} {Q : Exit → Act → World → Prop} {E : Prop} (hgd : o.guard = none) (s x : Operand)
    (ho : o.op = .call { callee := .builtin .append, args := #[s, x], argTypes := #[22, 22] })
    (hs : a.eval s = v) (hown : OwnI w base v xs) (m c : Nat) (hm : ys.length = m) (hx : a.eval x = .slice A m c) (hr : Reads w A ys) (hlen : xs.length + ys.length ≤ 16777216) (hbase : base ≤ w.heap.size)
    (h : ∀ v' w', OwnI w' base v' (xs ++ ys) → Below base w w' → w.grownBy w' v.ownBlock → (v'.ownBlock = v.ownBlock ∨ v'.ownBlock = some w.heap.size) → K (a.put o.dst v') w') :
    if Region.wanted o (yielded ops a.tmps) = true then Oper.wp Try.prog o a w K Q else E := by
  subst hm
  have hw : Region.wanted o (yielded ops a.tmps) = true := by simp [Region.wanted, hgd]
  rw [if_pos hw]
  obtain ⟨v', w', hrun, h2, h3, h4⟩ := run_app w o.type hown c hr hlen hbase
  unfold Oper.wp execOp
  simp only [ho, resolve, invoke, builtin, Sem.run_bind, Sem.run_pure, Result.andThen_ok, List.map_toArray, List.map_cons, List.map_nil, hs, hx, hrun]
  exact h v' w' h2 ((Below.refl base w).grown h3 hbase (fun k hk => (hown.block k hk).1)) h3 h4
end
end Go.Proofs.Ythkchhjidihkpab


/-
  Contracts of the law's helpers that write marks into a slice and look for them.
-/
namespace Go.Proofs.Ythkchhjidihkpab
open Go.RowKit
/-- k, k + 1, .. -/
def marks : Int → Nat → List Int
  | _, 0 => []
  | k, n + 1 => k :: marks (k + 1) n
theorem marks_len (k : Int) (n : Nat) : (marks k n).length = n := by
  induction n generalizing k with
  | zero => rfl
  | succ n ih => simp [marks, ih]
theorem marks_at (k : Int) (n : Nat) : ∀ (i : Nat), i < n → (marks k n)[i]? = some (k + i) := by
  induction n generalizing k with
  | zero => intro i h; omega
  | succ n ih =>
    intro i h
    cases i with
    | zero => simp [marks]
    | succ i =>
      show (marks (k + 1) n)[i]? = _
      rw [ih (k + 1) i (by omega)]
      congr 1
      omega
/-- a slice of the call's own, its form laid open: nil, or a row from its head on -/
theorem OwnI.cases_ {w : World} {base : Nat} {v : Value} {xs : List Int} (h : OwnI w base v xs) : (v = .slice none 0 0 ∧ xs = []) ∨ ∃ g c, v = .slice (some ⟨g, 0, none⟩) xs.length c ∧ base ≤ g ∧ g < w.heap.size := by
  rcases h.2 with ⟨hv, h0⟩ | ⟨g, cap, cur, hv, hb, _⟩
  · exact .inl ⟨hv, List.eq_nil_of_length_eq_zero h0⟩
  · exact .inr ⟨g, cap, hv, hb, (h.block g (by rw [hv]; rfl)).2⟩

/-- the list after the first j of its numbers have been marked -/
def marked (xs : List Int) (k : Int) (j : Nat) : List Int := marks k j ++ xs.drop j
theorem marked_len (xs : List Int) (k : Int) (j : Nat) (h : j ≤ xs.length) : (marked xs k j).length = xs.length := by simp [marked, marks_len]; omega
theorem marks_snoc (k : Int) (j : Nat) : marks k (j + 1) = marks k j ++ [k + j] := by
  induction j generalizing k with
  | zero => simp [marks]
  | succ j ih =>
    show k :: marks (k + 1) (j + 1) = (k :: marks (k + 1) j) ++ _
    rw [ih (k + 1), List.cons_append]
    congr 3
    omega
theorem marked_set (xs : List Int) (k : Int) (j : Nat) (h : j < xs.length) : (marked xs k j).set j (k + j) = marked xs k (j + 1) := by
  unfold marked
  rw [List.set_append_right _ _ (by rw [marks_len]; exact Nat.le_refl _), marks_len, Nat.sub_self, List.drop_eq_getElem_cons h, List.set_cons_zero, marks_snoc, List.append_assoc, List.singleton_append]
theorem marked_at (xs : List Int) (k : Int) (j : Nat) (h : j < xs.length) : (marked xs k j)[j]? = some xs[j] := by
  unfold marked
  rw [List.getElem?_append_right (by rw [marks_len]; exact Nat.le_refl _), marks_len, Nat.sub_self, List.drop_eq_getElem_cons h]
  rfl
theorem marked_all (xs : List Int) (k : Int) : marked xs k xs.length = marks k xs.length := by simp [marked]

/-- what markIntS leaves: its row turned, and nothing else -/
def Marked (v : Value) (xs : List Int) (base : Nat) (k : Int) (w : World) (e : Ending) (w' : World) : Prop :=
  e = .returned (.int .i64 (k + xs.length)) ∧ OwnI w' base v (marks k xs.length) ∧ w.grownBy w' v.ownBlock

theorem grownSet {a w : World} {g : Nat} {row : Option Nat} (h : a.grownBy w row) (hr : row = some g) (i : Nat) (u : Value) : a.grownBy (w.setCell ⟨g, i, none⟩ u) row :=
  ⟨h.os, h.tape, h.output, by simpa [World.setCell] using h.size, fun k hk hne => (Below.heap_setCell w ⟨g, i, none⟩ u k (fun e => hne (by rw [hr, e]))).trans (h.block k hk hne)⟩

set_option maxHeartbeats 1000000 in
theorem markIntS_any (w : World) (v : Value) (xs : List Int) (base : Nat) (k : Int) (hown : OwnI w base v xs) (hl : xs.length ≤ 1048577) (k1 : 0 ≤ k) (k2 : k ≤ 2097154) :
    Calls Try.prog 16 #[v, .int .i64 k] w (Marked v xs base k w) := by
  rcases hown.cases_ with ⟨rfl, rfl⟩ | ⟨g, c, rfl, hbg, hgw⟩
  · have Hown := Lib.hid hown
    clear hown
    go_enter Try.func16, Try.ntmps16
    go_wp2
    refine wp_loop_rounds 1 ?_
    rw [rounds_succ]
    go_wp2
    go_ret
    exact ⟨ret_int (by simp), Hown.out, World.grownBy.refl w _⟩
  · have Hown := Lib.hid hown
    clear hown
    go_enter Try.func16, Try.ntmps16
    go_wp2
    go_loopw [1, 5] (fun v1 v5 wr => ∃ j : Nat, j ≤ xs.length ∧ v1 = .int .i64 (k + j) ∧ v5 = .int .i64 j ∧ OwnI wr base (.slice (some ⟨g, 0, none⟩) xs.length c) (marked xs k j) ∧ w.grownBy wr (some g)) (fun _ v5 _ => xs.length - (intOf v5).toNat)
    case atStart => exact ⟨0, Nat.zero_le _, by simp, rfl, Hown.out, World.grownBy.refl w _⟩
    case round =>
      obtain ⟨j, hj, rfl, rfl, ho, hg⟩ := hrel
      by_cases hlt : j < xs.length
      · obtain ⟨hC, hF⟩ := ho.cell_ (marked_len xs k j hj).symm (marked_at xs k j hlt)
        have Ho := Lib.hid ho
        have Hg := Lib.hid hg
        clear ho hg
        go_wp2
        go_roundw
        case rel => exact ⟨j + 1, by omega, by go_num, by go_num, by rw [← marked_set xs k j hlt]; exact Ho.out.set_ (marked_len xs k j hj).symm j _, grownSet Hg.out rfl _ _⟩
        case measure => simp [intOf]; omega
      · obtain rfl : j = xs.length := by omega
        rw [marked_all] at ho
        have Ho := Lib.hid ho
        have Hg := Lib.hid hg
        clear ho hg
        go_wp2
        go_ret
        exact ⟨rfl, Ho.out, Hg.out⟩

set_option maxHeartbeats 1000000 in
theorem heldIntS_any (w : World) (A : Option Addr) (c : Nat) (n : Nat) (k : Int) (hr : Reads w A (marks k n)) (hl : n ≤ 1048577) (k1 : 0 ≤ k) (k2 : k ≤ 2097154) :
    Calls Try.prog 17 #[.slice A n c, .int .i64 k] w (RetQ (.int .i64 (k + n)) w) := by
  have Hr := Lib.hid hr
  clear hr
  go_enter Try.func17, Try.ntmps17
  go_wp2
  go_loopw [1, 5] (fun v1 v5 wr => ∃ j : Nat, j ≤ n ∧ v1 = .int .i64 (k + j) ∧ v5 = .int .i64 j ∧ ∃ m, wr = w.drewN m) (fun _ v5 _ => n - (intOf v5).toNat)
  case atStart => exact ⟨0, Nat.zero_le _, by simp, rfl, 0, rfl⟩
  case round =>
    obtain ⟨j, hj, rfl, rfl, m, rfl⟩ := hrel
    by_cases hlt : j < n
    · obtain ⟨b, o, x, rfl, hb, hx, hcell⟩ := Hr.out.at_ (k := j) (by rw [marks_len]; exact hlt)
      rw [marks_at k n j hlt] at hx
      obtain rfl : k + (j : Int) = x := by simpa using hx
      clear hx
      go_wp2
      go_roundw
      case rel => exact ⟨j + 1, by omega, by go_num, by go_num, m, rfl⟩
      case measure => simp [intOf]; omega
    · obtain rfl : j = n := by omega
      go_wp2
      go_ret
      exact ⟨rfl, m, rfl⟩
end Go.Proofs.Ythkchhjidihkpab


/-
  What functions leave that return a list and whether it is told.
-/
namespace Go.Proofs.Ythkchhjidihkpab
open Go.RowKit
/-- of the program: a new slice of the call's own -/
def RetLB (ys : List Int) (b : Bool) (w : World) (e : Ending) (w' : World) : Prop := ∃ v, e = .returned (.tuple #[v, .bool b]) ∧ OwnI w' w.heap.size v ys ∧ Below w.heap.size w w'
/-- of the model: a slice that reads so -/
def RetRB (ys : List Int) (b : Bool) (w : World) (e : Ending) (w' : World) : Prop := ∃ A c, e = .returned (.tuple #[.slice A ys.length c, .bool b]) ∧ Reads w' A ys ∧ Below w.heap.size w w'
def RetR (ys : List Int) (w : World) (e : Ending) (w' : World) : Prop := ∃ A c, e = .returned (.slice A ys.length c) ∧ ys.length ≤ c ∧ Reads w' A ys ∧ Below w.heap.size w w'
section
variable {w w' : World} {base : Nat} {v : Value} {xs ys : List Int}
theorem OwnI.reads {A : Option Addr} {n c : Nat} (h : OwnI w base (.slice A n c) xs) : Reads w A xs ∧ n = xs.length := by
  obtain ⟨A', c', e, hr⟩ := h.form
  injection e with e1 e2 e3
  subst e1
  exact ⟨hr, e2⟩
theorem OwnI.cap_ {A : Option Addr} {n c : Nat} (h : OwnI w base (.slice A n c) xs) : n ≤ c := by
  rcases h.2 with ⟨hv, h0⟩ | ⟨g, cap, cur, hv, _, _, hnc, _⟩
  · injection hv with _ h1 h2; omega
  · injection hv with _ h1 h2; omega
theorem Reads.cutTo {A : Option Addr} (k : Nat) (h : Reads w A xs) : Reads w A (xs.take k) := fun h0 => by
  rw [List.length_take] at h0
  obtain ⟨b, o, rfl, hb, hx⟩ := h (by omega)
  refine ⟨b, o, rfl, hb, fun i x hi => hx i x ?_⟩
  rw [List.getElem?_take] at hi
  split at hi
  · exact hi
  · cases hi
theorem Reads.cutFrom {A : Option Addr} {k c : Nat} (h : Reads w A xs) (hk : k ≤ xs.length) (hc : xs.length ≤ c) : Reads w (if c = k then A else A.map (·.add k)) (xs.drop k) := fun h0 => by
  rw [List.length_drop] at h0
  obtain ⟨b, o, rfl, hb, hx⟩ := h (by omega)
  refine ⟨b, o + k, by rw [if_neg (by omega), Option.map_some, Go.WideShapes.add_plain], hb, fun i x hi => ?_⟩
  rw [List.getElem?_drop] at hi
  rw [Nat.add_assoc]
  exact hx (k + i) x hi
/-- other spellings of the address of a cut -/
theorem Reads.cutA {A : Option Addr} {k c : Nat} (h : Reads w A xs) (hk : k ≤ xs.length) (hc : xs.length ≤ c) (hne : ¬ c = k) : Reads w (A.map (·.add k)) (xs.drop k) := by
  have := h.cutFrom hk hc
  rwa [if_neg hne] at this
theorem Reads.cutS {b o k : Nat} (h : Reads w (some ⟨b, o, none⟩) xs) : Reads w (some ⟨b, o + k, none⟩) (xs.drop k) := fun h0 => by
  rw [List.length_drop] at h0
  obtain ⟨b', o', e, hb, hx⟩ := h (by omega)
  injection e with e
  injection e with e1 e2 _
  subst e1 e2
  refine ⟨b, o + k, rfl, hb, fun i x hi => ?_⟩
  rw [List.getElem?_drop] at hi
  rw [Nat.add_assoc]
  exact hx (k + i) x hi
theorem OwnI.drewN (h : OwnI w base v xs) (k : Nat) : OwnI (w.drewN k) base v xs := h
theorem OwnI.kept_ {v' : Value} (h : OwnI w base v xs) (hg : w.grownBy w' v'.ownBlock) (hlt : ∀ k, v'.ownBlock = some k → k < base) : OwnI w' base v xs := by
  refine World.ownsRow.kept h hg ?_
  cases hv : v.ownBlock with
  | none => exact .inl rfl
  | some k =>
    refine .inr fun e => ?_
    have h1 := (h.block k hv).1
    have h2 := hlt k e.symm
    omega
theorem belowMark {v' : Value} {B : Nat} (hg : w.grownBy w' v'.ownBlock) (hB : B ≤ w.heap.size) (hlt : ∀ k, v'.ownBlock = some k → B ≤ k) : Below B w w' :=
  (Below.refl B w).grown hg hB hlt
theorem OwnI.slice_ {A : Option Addr} {n c : Nat} (h : OwnI w base (.slice A n c) xs) : OwnI w base (.slice A xs.length c) xs := by
  have := h.reads.2
  subst this
  exact h
end
end Go.Proofs.Ythkchhjidihkpab


/-
  Contracts of the two functions that compute greatest common divisors.
-/
namespace Go.Proofs.Ythkchhjidihkpab
open Go.RowKit

set_option maxHeartbeats 400000 in
theorem commonDivisor_any (a b : Int) (w : World) (ha : 0 ≤ a) (hb : 0 ≤ b) (ha2 : a ≤ 9223372036854775807) (hb2 : b ≤ 9223372036854775807) :
    Calls Try.prog 118 #[.int .i64 a, .int .i64 b] w (RetQ (.int .i64 (gcdI a b)) w) := by
  go_enter Try.func118, Try.ntmps118
  go_wp2
  go_loopw [0, 1] (fun v0 v1 wr => ∃ x y : Int, 0 ≤ x ∧ 0 ≤ y ∧ x ≤ 9223372036854775807 ∧ y ≤ 9223372036854775807 ∧ v0 = .int .i64 x ∧ v1 = .int .i64 y ∧ gcdI x y = gcdI a b ∧ ∃ n, wr = w.drewN n) (fun _ v1 _ => (intOf v1).toNat)
  case atStart => exact ⟨a, b, ha, hb, ha2, hb2, rfl, rfl, rfl, 0, rfl⟩
  case round =>
    obtain ⟨x, y, hx, hy, hx2, hy2, rfl, rfl, hg, k, rfl⟩ := hrel
    have Hg := Lib.hid hg
    clear hg
    by_cases h0 : y = 0
    · subst h0
      go_wp2
      go_ret
      exact ⟨ret_int (by rw [← Hg.out, gcdI_zero x hx]), k, rfl⟩
    · have hne : ((y : Int) != 0) = true := by rw [bne_iff_ne]; omega
      have hy1 : 1 ≤ y := by omega
      have hr1 := Int.emod_nonneg x h0
      have hr2 := Int.emod_lt_of_pos x (b := y) (by omega)
      go_wp2
      go_region
      all_goals
        go_wp2
        go_roundw
        case rel => exact ⟨y, x % y, by omega, by omega, by omega, by omega, rfl, rfl, by rw [gcdI_step x y hx hy]; exact Hg.out, k + 1, rfl⟩
        case measure => simp [intOf]; omega

set_option maxHeartbeats 400000 in
theorem unGcd_any (a b : Int) (w : World) (ha : 0 ≤ a) (hb : 0 ≤ b) (ha2 : a ≤ 9223372036854775807) (hb2 : b ≤ 9223372036854775807) :
    Calls Try.prog 104 #[.int .i64 a, .int .i64 b] w (RetQ (.int .i64 (gcdI a b)) w) := by
  go_enter Try.func104, Try.ntmps104
  go_wp2
  go_loopw [0, 1] (fun v0 v1 wr => ∃ x y : Int, 0 ≤ x ∧ 0 ≤ y ∧ x ≤ 9223372036854775807 ∧ y ≤ 9223372036854775807 ∧ v0 = .int .i64 x ∧ v1 = .int .i64 y ∧ gcdI x y = gcdI a b ∧ ∃ n, wr = w.drewN n) (fun _ v1 _ => (intOf v1).toNat)
  case atStart => exact ⟨a, b, ha, hb, ha2, hb2, rfl, rfl, rfl, 0, rfl⟩
  case round =>
    obtain ⟨x, y, hx, hy, hx2, hy2, rfl, rfl, hg, k, rfl⟩ := hrel
    have Hg := Lib.hid hg
    clear hg
    by_cases h0 : y = 0
    · subst h0
      go_wp2
      go_ret
      exact ⟨ret_int (by rw [← Hg.out, gcdI_zero x hx]), k, rfl⟩
    · have hy1 : 1 ≤ y := by omega
      have hr1 := Int.emod_nonneg x h0
      have hr2 := Int.emod_lt_of_pos x (b := y) (by omega)
      go_wp2
      go_region
      all_goals
        go_wp2
        go_roundw
        case rel => exact ⟨y, x % y, by omega, by omega, by omega, by omega, rfl, rfl, by rw [gcdI_step x y hx hy]; exact Hg.out, k + 1, rfl⟩
        case measure => simp [intOf]; omega
end Go.Proofs.Ythkchhjidihkpab
