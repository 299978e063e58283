import Derived.Test.YtleookfdngnphaaPk15

/-
  The contract of the model's search for nearest sums: a list that goes on. 
-/
namespace Go.Proofs.Ytleookfdngnphaa
open Go.RowKit
/-- a best list lies in a block -/
def BAt (w : World) (g : Nat) (v : Value) (x y : Int) : Prop := w.cell? ⟨g, 0, none⟩ = some v ∧ w.cell? ⟨g, 1, none⟩ = some (.int .i64 x) ∧ w.cell? ⟨g, 2, none⟩ = some (.int .i64 y) ∧ w.frozen? ⟨g, 0, none⟩ = false ∧ w.frozen? ⟨g, 1, none⟩ = false ∧ w.frozen? ⟨g, 2, none⟩ = false ∧ g < w.heap.size
theorem BAt.below {w w' : World} {g : Nat} {v : Value} {x y : Int} (h : BAt w g v x y) (hb : Below w.heap.size w w') : BAt w' g v x y := by
  obtain ⟨h1, h2, h3, h4, h5, h6, h7⟩ := h
  have e := hb.block g h7
  exact ⟨(World.cell?_of_block (a := ⟨g, 0, none⟩) e).trans h1, (World.cell?_of_block (a := ⟨g, 1, none⟩) e).trans h2, (World.cell?_of_block (a := ⟨g, 2, none⟩) e).trans h3, (World.frozen?_of_block (a := ⟨g, 0, none⟩) e).trans h4, (World.frozen?_of_block (a := ⟨g, 1, none⟩) e).trans h5, (World.frozen?_of_block (a := ⟨g, 2, none⟩) e).trans h6, Nat.lt_of_lt_of_le h7 hb.size⟩
theorem BAt.new (w : World) (v : Value) (x y : Int) (T : TypeId) : BAt (w.alloc (.cells #[v, .int .i64 x, .int .i64 y] T)) w.heap.size v x y := ⟨by simp, by simp, by simp, by simp, by simp, by simp, by simp⟩
/-- what the rounds keep: so much fuel is left -/
def NR (bad : Nat → Prop) (k : Nat) (b : Int) (l : List Int) (g1 g2 : Int) (r : Best) (w : World) (Al : Option Addr) (f : Nat) (v13 : Value) (wr : World) : Prop :=
  ∃ (best : Best) (A : Option Addr) (m c : Nat) (t : Int), v13 = .int .i64 t ∧ bel f (k + 1) b best l (g1, g2) t = some r ∧ m = best.1.length ∧ (best.1 = [] ∨ goodB best.2.1 best.2.2 = true) ∧ BAt wr w.heap.size (.slice A m c) best.2.1 best.2.2 ∧ Reads wr A best.1 ∧ ClearB (fun x => bad x ∨ (w.heap.size ≤ x ∧ x < w.heap.size + 1 + 1 + 1)) best.1 A ∧ Reads wr Al l ∧ TwoAt wr (w.heap.size + 1) g1 g2 ∧ BAt wr (w.heap.size + 1 + 1) (.slice none 0 0) 0 0 ∧ Below w.heap.size w wr ∧ w.heap.size + 1 + 1 + 1 ≤ wr.heap.size
theorem BAt.off {w : World} {g : Nat} {v : Value} {x y : Int} (h : BAt w g v x y) {p : Addr} (hp : p.block ≠ g) (u : Value) : BAt (w.setCell p u) g v x y := by
  obtain ⟨h1, h2, h3, h4, h5, h6, h7⟩ := h
  have e : (w.setCell p u).heap[g]? = w.heap[g]? := heap_setCell_other w p g u hp.symm
  exact ⟨(World.cell?_of_block (a := ⟨g, 0, none⟩) e).trans h1, (World.cell?_of_block (a := ⟨g, 1, none⟩) e).trans h2, (World.cell?_of_block (a := ⟨g, 2, none⟩) e).trans h3, (World.frozen?_of_block (a := ⟨g, 0, none⟩) e).trans h4, (World.frozen?_of_block (a := ⟨g, 1, none⟩) e).trans h5, (World.frozen?_of_block (a := ⟨g, 2, none⟩) e).trans h6, by simpa using h7⟩
theorem TwoAt.off {w : World} {g : Nat} {x y : Int} (h : TwoAt w g x y) {p : Addr} (hp : p.block ≠ g) (u : Value) : TwoAt (w.setCell p u) g x y := by
  obtain ⟨h1, h2, h3, h4, h5⟩ := h
  have e : (w.setCell p u).heap[g]? = w.heap[g]? := heap_setCell_other w p g u hp.symm
  exact ⟨(World.cell?_of_block (a := ⟨g, 0, none⟩) e).trans h1, (World.cell?_of_block (a := ⟨g, 1, none⟩) e).trans h2, (World.frozen?_of_block (a := ⟨g, 0, none⟩) e).trans h3, (World.frozen?_of_block (a := ⟨g, 1, none⟩) e).trans h4, by simpa using h5⟩
theorem BAt.put {w : World} {g : Nat} {v : Value} {x y : Int} (h : BAt w g v x y) (v' : Value) (x' y' : Int) : BAt (((w.setCell ⟨g, 0, none⟩ v').setCell ⟨g, 1, none⟩ (.int .i64 x')).setCell ⟨g, 2, none⟩ (.int .i64 y')) g v' x' y' := by
  obtain ⟨h1, h2, h3, h4, h5, h6, h7⟩ := h
  refine ⟨?_, ?_, ?_, ?_, ?_, ?_, by simpa using h7⟩ <;> simp [go_sem, *]
/-- a list that lies elsewhere reads on behind a store -/
theorem Reads.offB {w : World} {A : Option Addr} {xs : List Int} {g : Nat} (h : Reads w A xs) (hc : xs = [] ∨ ∀ a, A = some a → a.block ≠ g) {p : Addr} (hp : p.block = g) (u : Value) : Reads (w.setCell p u) A xs := fun h0 => by
  obtain ⟨b, o, rfl, hb, hx⟩ := h h0
  have hne : b ≠ g := by
    rcases hc with hc | hc
    · rw [hc] at h0; simp at h0
    · exact hc _ rfl
  refine ⟨b, o, rfl, by simpa using hb, fun i x hi => ?_⟩
  have e : (w.setCell p u).heap[b]? = w.heap[b]? := heap_setCell_other w p b u (by rw [hp]; exact hne)
  exact (World.cell?_of_block (a := ⟨b, o + i, none⟩) e).trans (hx i x hi)
theorem bel_eq (f k : Nat) (b : Int) (best : Best) (l : List Int) (g1 g2 t : Int) : bel (f + 1) (k + 1) b best l (g1, g2) t =
    if (decide (1 ≤ t) && decide (t ≤ 1000000) && goodB g1 g2 && decide (1 ≤ g1) && decide (g1 * t ≤ 1000000000) && decide (g2 * t ≤ 1000000000)) = true then
      if best.1 ≠ [] ∧ ((k : Int) + 1) * g2 < g1 * t ∧ ¬ (((g1 * t - ((k : Int) + 1) * g2) / gcdI (g1 * t - ((k : Int) + 1) * g2) (g2 * t)) * best.2.2 < best.2.1 * ((g2 * t) / gcdI (g1 * t - ((k : Int) + 1) * g2) (g2 * t))) then some best
      else if tB g1 g2 t = true then
        if k = 0 then some (btr best (l ++ [t]) (tN g1 g2 t, tD g1 g2 t))
        else if 1 ≤ tN g1 g2 t then (bel f k b best (l ++ [t]) (tN g1 g2 t, tD g1 g2 t) (max (t + b) (tD g1 g2 t / tN g1 g2 t + 1))).bind fun best' => bel f (k + 1) b best' l (g1, g2) (t + 1) else none
      else none
    else none := rfl
theorem bel_in {f k : Nat} {b : Int} {best : Best} {l : List Int} {g1 g2 t : Int} {r : Best} (h : bel f (k + 1) b best l (g1, g2) t = some r) : ∃ f', f = f' + 1 ∧ 1 ≤ t ∧ t ≤ 1000000 ∧ g1 * t ≤ 1000000000 ∧ g2 * t ≤ 1000000000 := by
  cases f with
  | zero => simp [bel] at h
  | succ f =>
    refine ⟨f, rfl, ?_⟩
    rw [bel_eq] at h
    split at h
    · rename_i hc
      simp only [Bool.and_eq_true, decide_eq_true_eq] at hc
      exact ⟨hc.1.1.1.1.1, hc.1.1.1.1.2, hc.1.2, hc.2⟩
    · cases h
/-- the round gives the best list back -/
def belEnd (k : Nat) (best : Best) (g1 g2 t : Int) : Prop := best.1 ≠ [] ∧ ((k : Int) + 1) * g2 < g1 * t ∧ ¬ (((g1 * t - ((k : Int) + 1) * g2) / gcdI (g1 * t - ((k : Int) + 1) * g2) (g2 * t)) * best.2.2 < best.2.1 * ((g2 * t) / gcdI (g1 * t - ((k : Int) + 1) * g2) (g2 * t)))
theorem bel_end {f k : Nat} {b : Int} {best : Best} {l : List Int} {g1 g2 t : Int} {r : Best} (h : bel (f + 1) (k + 1) b best l (g1, g2) t = some r) (he : belEnd k best g1 g2 t) : r = best := by
  rw [bel_eq] at h
  unfold belEnd at he
  split at h
  · first | (rw [if_pos he] at h; done) | skip
    injection h with h
    exact h.symm
  · cases h
/-- the round goes on by a number -/
theorem bel_go {f k : Nat} {b : Int} {best : Best} {l : List Int} {g1 g2 t : Int} {r : Best} (h : bel (f + 1) (k + 1) b best l (g1, g2) t = some r) (he : ¬ belEnd k best g1 g2 t) : tB g1 g2 t = true ∧ (k = 0 → r = btr best (l ++ [t]) (tN g1 g2 t, tD g1 g2 t)) ∧ (k ≠ 0 → 1 ≤ tN g1 g2 t ∧ ∃ s, bel f k b best (l ++ [t]) (tN g1 g2 t, tD g1 g2 t) (max (t + b) (tD g1 g2 t / tN g1 g2 t + 1)) = some s ∧ bel f (k + 1) b s l (g1, g2) (t + 1) = some r) := by
  rw [bel_eq] at h
  unfold belEnd at he
  split at h
  · by_cases htb : tB g1 g2 t = true
    · rw [if_pos htb] at h
      refine ⟨htb, fun hk => ?_, fun hk => ?_⟩
      · rw [if_pos hk] at h
        injection h with h
        exact h.symm
      · rw [if_neg hk] at h
        by_cases h1 : 1 ≤ tN g1 g2 t
        · rw [if_pos h1] at h
          cases hs : bel f k b best (l ++ [t]) (tN g1 g2 t, tD g1 g2 t) (max (t + b) (tD g1 g2 t / tN g1 g2 t + 1)) with
          | none => rw [hs] at h; cases h
          | some s => rw [hs] at h; exact ⟨h1, s, rfl, h⟩
        · rw [if_neg h1] at h; cases h
    · rw [if_neg htb] at h; cases h
  · cases h
/-- a best list that is found is in lowest terms -/
theorem bel_good {b : Int} : ∀ (f k : Nat) (best : Best) (l : List Int) (g1 g2 t : Int) (r : Best), bel f (k + 1) b best l (g1, g2) t = some r → (best.1 = [] ∨ goodB best.2.1 best.2.2 = true) → goodB g1 g2 = true → (r.1 = [] ∨ goodB r.2.1 r.2.2 = true) := by
  intro f
  induction f with
  | zero => intro k best l g1 g2 t r h; simp [bel] at h
  | succ f ih =>
    intro k best l g1 g2 t r h hb hg
    obtain ⟨f', hf, t1, t2, t3, t4⟩ := bel_in h
    obtain ⟨_, _, d1, _⟩ := good_bounds hg
    by_cases he : belEnd k best g1 g2 t
    · rw [bel_end h he]; exact hb
    · obtain ⟨htb, h0, h1⟩ := bel_go h he
      have hgt := tB_good d1 t1 htb
      cases k with
      | zero =>
        rw [h0 rfl]
        unfold btr
        split
        · exact .inr hgt
        · exact hb
      | succ k =>
        obtain ⟨_, s, hs, hr⟩ := h1 (by omega)
        exact ih (k + 1) s l g1 g2 (t + 1) r hr (ih k best _ _ _ _ s hs hb hgt) hg
end Go.Proofs.Ytleookfdngnphaa


/-
  A law on a region that draws its order: each operation leaves a value with a fact that lasts, whatever came up before it; the last one comes up behind all others.
-/
namespace Go.Proofs.Ytleookfdngnphaa
open Go.RowKit
section
variable {P : Program} {ops : Array Oper} {Q : Exit → Act → World → Prop}
/-- operation i waits for operation j -/
def depR (ops : Array Oper) (i j : Nat) : Bool := ((ops[i]?).map fun o => o.after.any fun e => Region.binds .any e && e.on == j).getD false
theorem dep_listed {listed : Array Bool} {i j : Nat} (hi : i ∈ Region.ready .any ops listed) (hd : depR ops i j = true) : listed.getD j false = true := by
  obtain ⟨_, o, ho, h⟩ := mem_ready.1 hi
  unfold depR at hd
  rw [ho, Option.map_some, Option.getD_some, Array.any_eq_true'] at hd
  obtain ⟨e, he, hd⟩ := hd
  simp only [Bool.and_eq_true, beq_iff_eq] at hd
  rw [← hd.2]
  exact h e he hd.1
/-- the frame but for the slots of the region's operations -/
def FrameR (σ : Nat → Nat) (n : Nat) (a0 a : Act) : Prop := a.tmps.size = a0.tmps.size ∧ (∀ s, (∀ j, j < n → σ j ≠ s) → a.tmps.getD s undef = a0.tmps.getD s undef) ∧ a = { a0 with tmps := a.tmps }
theorem FrameR.slot {σ : Nat → Nat} {n : Nat} {a0 a : Act} (h : FrameR σ n a0 a) (s : Nat) (v : Value) (hs : ∀ j, j < n → σ j ≠ s) (hz : s < a0.tmps.size) (hv : a0.tmps.getD s undef = v) : a.tmps[s]? = some v := by
  have h2 := h.2.1 s hs
  rw [← h.1] at hz
  rw [hv, Array.getD_eq_getD_getElem?, Array.getElem?_eq_getElem hz] at h2
  rw [Array.getElem?_eq_getElem hz]
  exact congrArg some h2
theorem slotR {a : Act} {s : Nat} {v : Value} (h : a.tmps.getD s undef = v) (hz : s < a.tmps.size) : a.tmps[s]? = some v := by
  rw [Array.getD_eq_getD_getElem?, Array.getElem?_eq_getElem hz] at h
  rw [Array.getElem?_eq_getElem hz]
  exact congrArg some h
/-- values laid from a slot on -/
def setsFrom (t : Array Value) (s : Nat) : List Value → Array Value
  | [] => t
  | v :: vs => setsFrom (t.setIfInBounds s v) (s + 1) vs
theorem setsFrom_at : ∀ (vs : List Value) (t : Array Value) (s j : Nat), s + vs.length ≤ t.size → (setsFrom t s vs)[j]? = if s ≤ j ∧ j < s + vs.length then vs[j - s]? else t[j]?
  | [], t, s, j, _ => by
    rw [if_neg (by rw [List.length_nil]; omega)]; rfl
  | v :: vs, t, s, j, h => by
    rw [List.length_cons] at h
    rw [setsFrom, setsFrom_at vs _ _ _ (by simp; omega), List.length_cons]
    by_cases e : s = j
    · subst e
      rw [if_neg (by omega), if_pos (by omega), Array.getElem?_setIfInBounds, if_pos rfl, if_pos (by omega), Nat.sub_self]
      rfl
    · by_cases h2 : s + 1 ≤ j ∧ j < s + 1 + vs.length
      · rw [if_pos h2, if_pos (by omega), show j - s = (j - (s + 1)) + 1 by omega]
        rfl
      · rw [if_neg h2, if_neg (by omega), Array.getElem?_setIfInBounds, if_neg e]
theorem FrameR.form {s n : Nat} {a0 a : Act} (h : FrameR (fun i => s + i) n a0 a) (hz : s + n ≤ a0.tmps.size) : a = { a0 with tmps := setsFrom a0.tmps s ((List.range n).map fun i => a.tmps.getD (s + i) undef) } := by
  obtain ⟨h1, h2, h3⟩ := h
  have e : a.tmps = setsFrom a0.tmps s ((List.range n).map fun i => a.tmps.getD (s + i) undef) := by
    apply Array.ext_getElem?
    intro j
    rw [setsFrom_at _ _ _ _ (by simpa using hz), List.length_map, List.length_range]
    by_cases hj : s ≤ j ∧ j < s + n
    · have hlt : j < a.tmps.size := by omega
      rw [if_pos hj, List.getElem?_map, List.getElem?_range (by omega), Option.map_some, show s + (j - s) = j by omega, Array.getD_eq_getD_getElem?, Array.getElem?_eq_getElem hlt]
      rfl
    · rw [if_neg hj]
      by_cases hlt : j < a.tmps.size
      · have h4 := h2 j (fun i hi e => by have e : s + i = j := e; omega)
        have hlt0 : j < a0.tmps.size := by omega
        rw [Array.getD_eq_getD_getElem?, Array.getD_eq_getD_getElem?, Array.getElem?_eq_getElem hlt, Array.getElem?_eq_getElem hlt0] at h4
        rw [Array.getElem?_eq_getElem hlt, Array.getElem?_eq_getElem hlt0]
        exact congrArg some h4
      · rw [Array.getElem?_eq_none (by omega), Array.getElem?_eq_none (by omega)]
  rw [← e]
  exact h3
/-- what an operation does -/
def DoesR (σ : Nat → Nat) (G : Nat → Value → World → Prop) (i : Nat) (a : Act) (w : World) (a' : Act) (w' : World) : Prop :=
  Below w.heap.size w w' ∧ ∃ v, (a' = { a with tmps := a.tmps.setIfInBounds (σ i) v } ∨ (a' = a ∧ v = a.tmps.getD (σ i) undef)) ∧ G i v w'
theorem FrameR.does {σ : Nat → Nat} {G : Nat → Value → World → Prop} {n i : Nat} {a0 a a' : Act} {w w' : World} (hi : i < n) (h : FrameR σ n a0 a) (hd : DoesR σ G i a w a' w') : FrameR σ n a0 a' := by
  obtain ⟨h1, h2, h3⟩ := h
  obtain ⟨_, v, hv, _⟩ := hd
  rcases hv with rfl | ⟨rfl, _⟩
  · refine ⟨by simpa using h1, fun s hs => ?_, ?_⟩
    · rw [← h2 s hs]
      have := hs i hi
      simp only [Array.getD_eq_getD_getElem?, Array.getElem?_setIfInBounds]
      rw [if_neg this]
    · rw [h3]
  · exact ⟨h1, h2, h3⟩
theorem does_fact {σ : Nat → Nat} {G : Nat → Value → World → Prop} {n i : Nat} {a a' : Act} {w w' : World} (_ : i < n) (hsz : σ i < a.tmps.size) (hd : DoesR σ G i a w a' w') : G i (a'.tmps.getD (σ i) undef) w' := by
  obtain ⟨_, v, hv, hg⟩ := hd
  rcases hv with rfl | ⟨rfl, rfl⟩
  · simpa [Array.getD_eq_getD_getElem?, hsz] using hg
  · exact hg
theorem does_other {σ : Nat → Nat} {G : Nat → Value → World → Prop} {i j : Nat} {a a' : Act} {w w' : World} (hne : σ i ≠ σ j) (hd : DoesR σ G i a w a' w') : a'.tmps.getD (σ j) undef = a.tmps.getD (σ j) undef := by
  obtain ⟨_, v, hv, _⟩ := hd
  rcases hv with rfl | ⟨rfl, _⟩
  · simp only [Array.getD_eq_getD_getElem?, Array.getElem?_setIfInBounds]
    rw [if_neg hne]
  · rfl
theorem getD_set {l : Array Bool} {i j : Nat} (h : (l.setIfInBounds i true).getD j false = true) : j = i ∨ l.getD j false = true := by
  by_cases e : i = j
  · exact .inl e.symm
  · right
    simpa [Array.getD_eq_getD_getElem?, Array.getElem?_setIfInBounds, e] using h
theorem getD_kept {l : Array Bool} {i j : Nat} (h : l.getD j false = true) : (l.setIfInBounds i true).getD j false = true := by
  have hj : j < l.size := by
    rcases Nat.lt_or_ge j l.size with h1 | h1
    · exact h1
    · simp [Array.getD_eq_getD_getElem?, Array.getElem?_eq_none h1] at h
  by_cases e : i = j
  · subst e
    simp [Array.getD_eq_getD_getElem?, hj]
  · simpa [Array.getD_eq_getD_getElem?, Array.getElem?_setIfInBounds, e] using h
theorem getD_both {l : Array Bool} {i : Nat} (h : l.getD i true = false) (h2 : l.getD i false = true) : False := by
  rcases Nat.lt_or_ge i l.size with h1 | h1
  · simp [Array.getD_eq_getD_getElem?, h1] at h h2
    rw [h] at h2
    cases h2
  · simp [Array.getD_eq_getD_getElem?, Array.getElem?_eq_none h1] at h
/-- what stands while the region runs -/
def StandsR (ops : Array Oper) (σ : Nat → Nat) (G : Nat → Value → World → Prop) (n : Nat) (a0 : Act) (w0 : World) (listed : Array Bool) (a : Act) (w : World) : Prop :=
  FrameR σ n a0 a ∧ Below w0.heap.size w0 w ∧ (∀ i, i < n → listed.getD i false = true → G i (a.tmps.getD (σ i) undef) w) ∧ (∀ i j, listed.getD i false = true → depR ops i j = true → listed.getD j false = true)
theorem StandsR.start {σ : Nat → Nat} {G : Nat → Value → World → Prop} {n : Nat} {a0 : Act} {w0 : World} (m : Nat) : StandsR ops σ G n a0 w0 (Array.replicate m false) a0 w0 := by
  have hf : ∀ i, (Array.replicate m false).getD i false = false := fun i => by
    simp only [Array.getD_eq_getD_getElem?, Array.getElem?_replicate]
    split <;> rfl
  exact ⟨⟨rfl, fun _ _ => rfl, rfl⟩, Below.refl _ _, fun i _ h => (by rw [hf] at h; cases h), fun i j h _ => (by rw [hf] at h; cases h)⟩
theorem StandsR.step {σ : Nat → Nat} {G : Nat → Value → World → Prop} {n i : Nat} {a0 a a' : Act} {w0 w w' : World} {listed : Array Bool} (hσ : ∀ i j, i < n → j < n → σ i = σ j → i = j) (hsz : ∀ i, i < n → σ i < a0.tmps.size) (hG : ∀ k v w w', G k v w → Below w.heap.size w w' → G k v w')
    (hi : i < n) (hr : i ∈ Region.ready .any ops listed) (h : StandsR ops σ G n a0 w0 listed a w) (hd : DoesR σ G i a w a' w') : StandsR ops σ G n a0 w0 (listed.setIfInBounds i true) a' w' := by
  obtain ⟨h1, h2, h3, h4⟩ := h
  have hb := hd.1
  refine ⟨h1.does hi hd, h2.trans (hb.mono h2.size), fun k hk hl => ?_, fun p q hp hdp => ?_⟩
  · by_cases e : k = i
    · subst e
      exact does_fact (n := n) hk (by rw [h1.1]; exact hsz k hk) hd
    · rw [does_other (fun e2 => e (hσ i k hi hk e2).symm) hd]
      exact hG _ _ _ _ (h3 k hk ((getD_set hl).resolve_left e)) hb
  · rcases getD_set hp with rfl | hp
    · exact getD_kept (dep_listed hr hdp)
    · exact getD_kept (h4 p q hp hdp)
/-- the law where nothing but facts that last come up -/
theorem region_facts {id : Nat} {a0 : Act} {w0 : World} (hm : P.follows .mixedOrders = true) (n : Nat) (hn : ops.size = n)
    (σ : Nat → Nat) (hσ : ∀ i j, i < n → j < n → σ i = σ j → i = j) (hsz : ∀ i, i < n → σ i < a0.tmps.size)
    (G : Nat → Value → World → Prop) (hG : ∀ k v w w', G k v w → Below w.heap.size w w' → G k v w')
    (hb : (List.range ops.size).all (fun i => ((ops[i]?).map (·.after.all fun e => !Region.binds .any e || decide (e.on < i))).getD false) = true)
    (hstep : ∀ i, i < n → ∀ a w, FrameR σ n a0 a → Below w0.heap.size w0 w → (∀ j, j < n → depR ops i j = true → G j (a.tmps.getD (σ j) undef) w) → wpOp P ops Q i (DoesR σ G i a w) a w)
    (hend : ∀ a w, FrameR σ n a0 a → Below w0.heap.size w0 w → (∀ j, j < n → G j (a.tmps.getD (σ j) undef) w) → Q .normal a w) :
    (Code.region id ops true).wp P Q a0 w0 := by
  have hb0 : Below w0.heap.size w0 w0.drew := by (repeat' (first | (with_reducible exact Below.refl _ _) | (with_reducible assumption) | (with_reducible refine Below.drew ?_) | (with_reducible refine belowDrewN ?_ _) | (with_reducible refine Below.alloc ?_ ?_ _) | (with_reducible refine Below.setCell ?_ ?_ _) | (with_reducible refine belowStep (by assumption) ?_ ?_) | (with_reducible exact Below.size (by assumption)) | go_size))
  refine region_inv hm (fun listed a w => StandsR ops σ G n a0 w0.drew listed a w) (StandsR.start _) (fun listed a w i hs hI hr => ?_) (fun listed a w hs hI hr => ?_)
  · have hi : i < n := by
      obtain ⟨_, o, ho, _⟩ := mem_ready.1 hr
      rw [← hn]
      exact (Array.getElem?_eq_some_iff.1 ho).1
    refine wpOp_mono (fun a' w' hd => hI.step hσ hsz hG hi hr hd) (hstep i hi a w hI.1 (hb0.trans (hI.2.1.mono (by simp))) (fun j hj hd => hI.2.2.1 j hj (dep_listed hr hd)))
  · have hall := ready_all hs hb hr
    refine hend a w hI.1 (hb0.trans (hI.2.1.mono (by simp))) (fun j hj => hI.2.2.1 j hj ?_)
    have := hall j (by rw [hn]; exact hj)
    have h5 : j < listed.size := by rw [hs, hn]; exact hj
    simpa [Array.getD_eq_getD_getElem?, h5] using this
/-- what an operation does that may write to what the region has made -/
def SoftR (σ : Nat → Nat) (G : Nat → Value → World → Prop) (soft : Nat → Bool) (b : Nat) (i : Nat) (a : Act) (w : World) (a' : Act) (w' : World) : Prop :=
  Below b w w' ∧ (soft i = false → Below w.heap.size w w') ∧ ∃ v, (a' = { a with tmps := a.tmps.setIfInBounds (σ i) v } ∨ (a' = a ∧ v = a.tmps.getD (σ i) undef)) ∧ G i v w'
theorem SoftR.of {σ : Nat → Nat} {G : Nat → Value → World → Prop} {soft : Nat → Bool} {b i : Nat} {a : Act} {w w' : World} {v : Value} (hle : b ≤ w.heap.size) (hb : Below w.heap.size w w') (hg : G i v w') : SoftR σ G soft b i a w { a with tmps := a.tmps.setIfInBounds (σ i) v } w' :=
  ⟨hb.mono hle, fun _ => hb, v, .inl rfl, hg⟩
/-- what stands while the region runs: facts that one operation alone reads end with it -/
def StandsS (ops : Array Oper) (σ : Nat → Nat) (G : Nat → Value → World → Prop) (kill : Nat → Nat → Bool) (n : Nat) (a0 : Act) (w0 : World) (listed : Array Bool) (a : Act) (w : World) : Prop :=
  FrameR σ n a0 a ∧ Below w0.heap.size w0 w ∧ (∀ i, i < n → listed.getD i false = true → (∃ j, kill j i = true ∧ listed.getD j false = true) ∨ G i (a.tmps.getD (σ i) undef) w) ∧ (∀ i j, listed.getD i false = true → depR ops i j = true → listed.getD j false = true)
/-- the law where the last operation comes up behind all others, and may do what it likes -/
theorem region_facts_last {id : Nat} {a0 : Act} {w0 : World} (hm : P.follows .mixedOrders = true) (n : Nat) (hn : ops.size = n + 1)
    (σ : Nat → Nat) (hσ : ∀ i j, i < n → j < n → σ i = σ j → i = j) (hsz : ∀ i, i < n → σ i < a0.tmps.size)
    (soft : Nat → Bool) (kill : Nat → Nat → Bool)
    (G : Nat → Value → World → Prop) (hG : ∀ k v w w', G k v w → Below w.heap.size w w' → G k v w')
    (hS : ∀ i k, i < n → k < n → k ≠ i → soft i = true → kill i k = false → depR ops k i = false → ∀ v w w', G k v w → Below w0.heap.size w0 w → Below w0.heap.size w w' → G k v w')
    (hb : (List.range ops.size).all (fun i => ((ops[i]?).map (·.after.all fun e => !Region.binds .any e || decide (e.on < i))).getD false) = true)
    (hsucc : (List.range n).all (fun j => (List.range (n + 1)).any fun i => decide (j < i) && depR ops i j) = true)
    (hstep : ∀ i, i < n → ∀ a w, FrameR σ n a0 a → Below w0.heap.size w0 w → (∀ j, j < n → depR ops i j = true → (∀ q, q ≠ i → kill q j = false) → G j (a.tmps.getD (σ j) undef) w) → wpOp P ops Q i (SoftR σ G soft w0.heap.size i a w) a w)
    (hlast : ∀ a w, FrameR σ n a0 a → Below w0.heap.size w0 w → (∀ j, j < n → (∀ i, kill i j = false) → G j (a.tmps.getD (σ j) undef) w) → wpOp P ops Q n (fun a' w' => Q .normal a' w') a w) :
    (Code.region id ops true).wp P Q a0 w0 := by
  have hz0 : w0.drew.heap.size = w0.heap.size := by simp
  have hb0 : Below w0.heap.size w0 w0.drew := by (repeat' (first | (with_reducible exact Below.refl _ _) | (with_reducible assumption) | (with_reducible refine Below.drew ?_) | (with_reducible refine belowDrewN ?_ _) | (with_reducible refine Below.alloc ?_ ?_ _) | (with_reducible refine Below.setCell ?_ ?_ _) | (with_reducible refine belowStep (by assumption) ?_ ?_) | (with_reducible exact Below.size (by assumption)) | go_size))
  have hI0 : ∀ {listed a w}, StandsS ops σ G kill n a0 w0.drew listed a w → Below w0.heap.size w0 w := fun h => hb0.trans (by have := h.2.1; rwa [hz0] at this)
  have start : StandsS ops σ G kill n a0 w0.drew (Array.replicate ops.size false) a0 w0.drew := by
    have hf : ∀ i, (Array.replicate ops.size false).getD i false = false := fun i => by
      simp only [Array.getD_eq_getD_getElem?, Array.getElem?_replicate]
      split <;> rfl
    exact ⟨⟨rfl, fun _ _ => rfl, rfl⟩, Below.refl _ _, fun i _ h => (by rw [hf] at h; cases h), fun i j h _ => (by rw [hf] at h; cases h)⟩
  have alive : ∀ {listed a w i j}, StandsS ops σ G kill n a0 w0.drew listed a w → listed.getD i true = false → j < n → (∀ q, q ≠ i → kill q j = false) → listed.getD j false = true → G j (a.tmps.getD (σ j) undef) w := fun {listed a w i j} h hun hj hk hl => by
    rcases h.2.2.1 j hj hl with ⟨q, hq, hql⟩ | h
    · exfalso
      by_cases e : q = i
      · subst e
        exact getD_both hun hql
      · rw [hk q e] at hq; cases hq
    · exact h
  have step : ∀ {listed a w a' w' i}, i < n → i ∈ Region.ready .any ops listed → StandsS ops σ G kill n a0 w0.drew listed a w → SoftR σ G soft w0.heap.size i a w a' w' → StandsS ops σ G kill n a0 w0.drew (listed.setIfInBounds i true) a' w' := fun {listed a w a' w' i} hi hr h hd => by
    have hbw := hI0 h
    obtain ⟨h1, h2, h3, h4⟩ := h
    have hun := (mem_ready.1 hr).1
    have hil : i < listed.size := by
      rcases Nat.lt_or_ge i listed.size with h | h
      · exact h
      · simp [Array.getElem?_eq_none h] at hun
    have hset : (listed.setIfInBounds i true).getD i false = true := by simp [Array.getD_eq_getD_getElem?, hil]
    obtain ⟨d1, d2, v, hv, hg⟩ := hd
    have hfr : FrameR σ n a0 a' := by
      rcases hv with rfl | ⟨rfl, _⟩
      · refine ⟨by simpa using h1.1, fun s hs => ?_, ?_⟩
        · rw [← h1.2.1 s hs]
          have := hs i hi
          simp only [Array.getD_eq_getD_getElem?, Array.getElem?_setIfInBounds]
          rw [if_neg this]
        · rw [h1.2.2]
      · exact h1
    have hown : G i (a'.tmps.getD (σ i) undef) w' := by
      rcases hv with rfl | ⟨rfl, rfl⟩
      · have := hsz i hi
        rw [← h1.1] at this
        simpa [Array.getD_eq_getD_getElem?, this] using hg
      · exact hg
    have hoth : ∀ j, j < n → j ≠ i → a'.tmps.getD (σ j) undef = a.tmps.getD (σ j) undef := fun j hj hne => by
      rcases hv with rfl | ⟨rfl, _⟩
      · simp only [Array.getD_eq_getD_getElem?, Array.getElem?_setIfInBounds]
        rw [if_neg (fun e2 => hne (hσ i j hi hj e2).symm)]
      · rfl
    refine ⟨hfr, by rw [hz0]; rw [hz0] at h2; exact h2.trans d1, fun k hk hl => ?_, fun p q hp hdp => ?_⟩
    · by_cases e : k = i
      · subst e
        exact .inr hown
      · have hlk := (getD_set hl).resolve_left e
        rcases h3 k hk hlk with ⟨q, hq, hql⟩ | hgk
        · exact .inl ⟨q, hq, getD_kept hql⟩
        · cases hki : kill i k with
          | true => exact .inl ⟨i, hki, hset⟩
          | false =>
            refine .inr ?_
            rw [hoth k hk e]
            cases hso : soft i with
            | false => exact hG _ _ _ _ hgk (d2 hso)
            | true =>
              cases hdk : depR ops k i with
              | true => exact (getD_both hun (h4 k i hlk hdk)).elim
              | false => exact hS i k hi hk e hso hki hdk _ _ _ hgk hbw d1
    · rcases getD_set hp with rfl | hp
      · exact getD_kept (dep_listed hr hdp)
      · exact getD_kept (h4 p q hp hdp)
  refine region_inv hm (fun listed a w => (listed.getD n false = true → Q .normal a w ∧ ∀ j, j < n + 1 → listed.getD j false = true) ∧ (listed.getD n false = false → StandsS ops σ G kill n a0 w0.drew listed a w)) ⟨fun h => ?_, fun _ => start⟩ (fun listed a w i hs hI hr => ?_) (fun listed a w hs hI hr => ?_)
  · exfalso
    revert h
    simp only [Array.getD_eq_getD_getElem?, Array.getElem?_replicate]
    split <;> simp
  · obtain ⟨hun, o, ho, _⟩ := mem_ready.1 hr
    have hi : i < n + 1 := by
      rw [← hn]
      exact (Array.getElem?_eq_some_iff.1 ho).1
    cases hl : listed.getD n false with
    | true => exact (getD_both hun ((hI.1 hl).2 i hi)).elim
    | false =>
      have hSt := hI.2 hl
      by_cases e : i = n
      · subst e
        have hback : ∀ m j, j + m = i → j < i → listed.getD j false = true := by
          intro m
          induction m using Nat.strongRecOn with
          | _ m ih =>
            intro j hjm hj
            obtain ⟨k, hk, hd⟩ := List.any_eq_true.1 (List.all_eq_true.1 hsucc j (List.mem_range.2 hj))
            simp only [Bool.and_eq_true, decide_eq_true_eq] at hd
            have hk := List.mem_range.1 hk
            by_cases e2 : k = i
            · subst e2
              exact dep_listed hr hd.2
            · exact hSt.2.2.2 k j (ih (i - k) (by omega) k (by omega) (by omega)) hd.2
        have hall : ∀ j, j < i → listed.getD j false = true := fun j hj => hback (i - j) j (by omega) hj
        refine wpOp_mono (fun a' w' hq => ⟨fun _ => ⟨hq, fun j hj => ?_⟩, fun hf => ?_⟩) (hlast a w hSt.1 (hI0 hSt) (fun j hj hk => ?_))
        · by_cases e3 : j = i
          · subst e3
            have h5 : j < listed.size := by rw [hs, hn]; exact hi
            simp [Array.getD_eq_getD_getElem?, h5]
          · exact getD_kept (hall j (by omega))
        · have h5 : i < listed.size := by rw [hs, hn]; exact hi
          simp [Array.getD_eq_getD_getElem?, h5] at hf
        · rcases hSt.2.2.1 j hj (hall j hj) with ⟨q, hq, _⟩ | h
          · rw [hk q] at hq; cases hq
          · exact h
      · have hin : i < n := by omega
        refine wpOp_mono (fun a' w' hd => ⟨fun ht => ?_, fun _ => step hin hr hSt hd⟩) (hstep i hin a w hSt.1 (hI0 hSt) (fun j hj hd hk => alive hSt hun hj hk (dep_listed hr hd)))
        rcases getD_set ht with h | h
        · exact absurd h.symm e
        · rw [hl] at h; cases h
  · have hall := ready_all hs hb hr
    refine (hI.1 ?_).1
    have := hall n (by omega)
    have h5 : n < listed.size := by omega
    simpa [Array.getD_eq_getD_getElem?, h5] using this
end
end Go.Proofs.Ytleookfdngnphaa
