
/-
  What is reached, as a map: facts on a map that is filled in an order that nobody knows.
-/
import Derived.Test.YtbjblkfibinenadDivW
import Derived.Test.YtbjblkfibinenadList
import Derived.Maps.RangeWalk
import Derived.Maps.OwnSet
namespace Go.Proofs.Ytbjblkfibinenad
open Go.RowKit
open Go.Maps (Keyed IsMap)
abbrev KL (x : Int) : Lit := .int .i64 x
theorem KL_key (x : Int) : WideAt.IsKeyLit (KL x) := trivial
theorem KL_inj {x y : Int} (h : KL x = KL y) : x = y := by injection h
theorem KL_ne {x y : Int} (h : x ≠ y) : KL x ≠ KL y := fun e => h (KL_inj e)
theorem KL_same (x y : Int) : (KL x).sameKey (KL y) = decide (x = y) := by
  by_cases h : x = y
  · subst h; rw [WideAt.sameKey_self (KL_key x)]; simp
  · rw [Go.Maps.sameKey_ne (KL_ne h)]; simp [h]
/-- the sources that have been taken with the divisor d -/
def Done (P : List Nat) (d : Nat) (left : Lit → Bool) (s : Nat) : Prop := d ≤ s ∧ 0 < ways P (s - d) ∧ left (KL ((s - d : Nat) : Int)) = false
/-- the map of all that is reached up to S -/
structure Fin (R : Value → Option (DataW Unit × List MemPlace)) (G : List Nat → Nat → Value → Prop) (D : DataW Unit) (P : List Nat) (S : Nat) : Prop where
  has : ∀ x : Int, Go.Maps.has D (KL x) = true ↔ (0 ≤ x ∧ x ≤ S ∧ 0 < ways P x.toNat)
  val : ∀ s : Nat, s ≤ S → 0 < ways P s → ∃ v ps dt, R v = some (dt, ps) ∧ (∀ zd, D.atKey (KL s) zd = dt) ∧ G P s v
/-- .. on the way -/
structure Mid (R : Value → Option (DataW Unit × List MemPlace)) (G : List Nat → Nat → Value → Prop) (D : DataW Unit) (P : List Nat) (d S : Nat) (left : Lit → Bool) : Prop where
  has : ∀ x : Int, Go.Maps.has D (KL x) = true ↔ (0 ≤ x ∧ x ≤ S ∧ (0 < ways P x.toNat ∨ Done P d left x.toNat))
  val : ∀ s : Nat, s ≤ S → (0 < ways P s ∨ Done P d left s) → ∃ v ps dt, R v = some (dt, ps) ∧ (∀ zd, D.atKey (KL s) zd = dt) ∧ (Done P d left s → G (d :: P) s v) ∧ (¬ Done P d left s → G P s v)
section
variable {R : Value → Option (DataW Unit × List MemPlace)} {G G' : List Nat → Nat → Value → Prop} {D : DataW Unit} {P : List Nat} {d S s0 : Nat} {left : Lit → Bool}
theorem Fin.world (h : Fin R G D P S) (hG : ∀ P s v, G P s v → G' P s v) : Fin R G' D P S :=
  ⟨h.has, fun s hs hw => by obtain ⟨v, ps, dt, a, b, c⟩ := h.val s hs hw; exact ⟨v, ps, dt, a, b, hG _ _ _ c⟩⟩
theorem Mid.world (h : Mid R G D P d S left) (hG : ∀ P s v, G P s v → G' P s v) : Mid R G' D P d S left :=
  ⟨h.has, fun s hs hw => by obtain ⟨v, ps, dt, a, b, c, e⟩ := h.val s hs hw; exact ⟨v, ps, dt, a, b, fun h => hG _ _ _ (c h), fun h => hG _ _ _ (e h)⟩⟩
theorem mid_start (h : Fin R G D P S) : Mid R G D P d S (Go.Maps.has D) := by
  have hd : ∀ s : Nat, s ≤ S → ¬ Done P d (Go.Maps.has D) s := fun s hs ⟨a, b, c⟩ => by
    rw [(h.has _).2 ⟨by omega, by omega, by simpa using b⟩] at c
    cases c
  refine ⟨fun x => ?_, fun s hs hw => ?_⟩
  · rw [h.has x]
    constructor
    · rintro ⟨a, b, c⟩; exact ⟨a, b, .inl c⟩
    · rintro ⟨a, b, c | c⟩
      · exact ⟨a, b, c⟩
      · exact absurd c (hd _ (by omega))
  · rcases hw with hw | hw
    · obtain ⟨v, ps, dt, a, b, c⟩ := h.val s hs hw
      exact ⟨v, ps, dt, a, b, fun h => absurd h (hd s hs), fun _ => c⟩
    · exact absurd hw (hd s hs)
theorem done_next (s : Nat) : Done P d (fun z => left z && !z.sameKey (KL s0)) s ↔ (Done P d left s ∨ (d ≤ s ∧ 0 < ways P (s - d) ∧ s - d = s0)) := by
  unfold Done
  dsimp only
  rw [KL_same]
  constructor
  · rintro ⟨a, b, c⟩
    by_cases h : s - d = s0
    · exact .inr ⟨a, b, h⟩
    · refine .inl ⟨a, b, ?_⟩
      have : decide (((s - d : Nat) : Int) = (s0 : Int)) = false := decide_eq_false (by omega)
      rw [this] at c
      simpa using c
  · rintro (⟨a, b, c⟩ | ⟨a, b, c⟩)
    · exact ⟨a, b, by rw [c]; rfl⟩
    · refine ⟨a, b, ?_⟩
      rw [decide_eq_true (by omega)]
      simp
theorem mid_skip (h : Mid R G D P d S left) (hs : S < s0 + d) : Mid R G D P d S (fun z => left z && !z.sameKey (KL s0)) := by
  have hd : ∀ s : Nat, s ≤ S → (Done P d (fun z => left z && !z.sameKey (KL s0)) s ↔ Done P d left s) := fun s h1 => by
    rw [done_next]
    constructor
    · rintro (a | ⟨a, b, c⟩)
      · exact a
      · omega
    · exact .inl
  refine ⟨fun x => ?_, fun s h1 hw => ?_⟩
  · rw [h.has x]
    constructor
    · rintro ⟨a, b, c⟩; exact ⟨a, b, c.imp id (hd _ (by omega)).2⟩
    · rintro ⟨a, b, c⟩; exact ⟨a, b, c.imp id (hd _ (by omega)).1⟩
  · obtain ⟨v, ps, dt, a, b, c, e⟩ := h.val s h1 (hw.imp id (hd s h1).1)
    exact ⟨v, ps, dt, a, b, fun h => c ((hd s h1).1 h), fun h9 => e (fun h8 => h9 ((hd s h1).2 h8))⟩
theorem mid_put (h : Mid R G D P d S left) (hm : IsMap D) (hs : s0 + d ≤ S) (hw : 0 < ways P s0) {v : Value} {dt : DataW Unit} {ps : List MemPlace} (hv : R v = some (dt, ps)) (hg : G (d :: P) (s0 + d) v) :
    Mid R G (D.put (KL ((s0 + d : Nat) : Int)) dt) P d S (fun z => left z && !z.sameKey (KL s0)) := by
  have hd0 : Done P d (fun z => left z && !z.sameKey (KL s0)) (s0 + d) := (done_next _).2 (.inr ⟨by omega, by rw [Nat.add_sub_cancel]; exact hw, by omega⟩)
  have hd : ∀ s : Nat, s ≠ s0 + d → (Done P d (fun z => left z && !z.sameKey (KL s0)) s ↔ Done P d left s) := fun s h1 => by
    rw [done_next]
    constructor
    · rintro (a | ⟨a, b, c⟩)
      · exact a
      · omega
    · exact .inl
  refine ⟨fun x => ?_, fun s h1 hw => ?_⟩
  · by_cases hx : x = ((s0 + d : Nat) : Int)
    · subst hx
      rw [Go.Maps.has_put_same hm (KL_key _)]
      exact ⟨fun _ => ⟨by omega, by omega, .inr hd0⟩, fun _ => rfl⟩
    · rw [Go.Maps.has_put_other (KL_ne hx), h.has x]
      constructor
      · rintro ⟨a, b, c⟩; exact ⟨a, b, c.imp id (hd _ (by omega)).2⟩
      · rintro ⟨a, b, c⟩; exact ⟨a, b, c.imp id (hd _ (by omega)).1⟩
  · by_cases hx : s = s0 + d
    · subst hx
      exact ⟨v, ps, dt, hv, fun zd => Go.Maps.atKey_put_same hm (KL_key _) dt zd, fun _ => hg, fun h9 => absurd hd0 h9⟩
    · obtain ⟨v', ps', dt', a, b, c, e⟩ := h.val s h1 (hw.imp id (hd s hx).1)
      exact ⟨v', ps', dt', a, fun zd => by rw [Go.Maps.atKey_put_other (KL_ne (by omega))]; exact b zd, fun h => c ((hd s hx).1 h), fun h9 => e (fun h8 => h9 ((hd s hx).2 h8))⟩
theorem mid_end (h : Mid R G D P d S left) (hl : ∀ kl, left kl = false) (stay : ∀ s v, G P s v → ¬ (d ≤ s ∧ 0 < ways P (s - d)) → G (d :: P) s v) : Fin R G D (d :: P) S := by
  have hd : ∀ s : Nat, Done P d left s ↔ (d ≤ s ∧ 0 < ways P (s - d)) := fun s => ⟨fun ⟨a, b, _⟩ => ⟨a, b⟩, fun ⟨a, b⟩ => ⟨a, b, hl _⟩⟩
  have hw : ∀ s : Nat, 0 < ways (d :: P) s ↔ (0 < ways P s ∨ Done P d left s) := fun s => by
    rw [hd, ways]
    by_cases h1 : d ≤ s
    · rw [if_pos h1]
      constructor
      · intro h2
        by_cases h3 : 0 < ways P s
        · exact .inl h3
        · exact .inr ⟨h1, by omega⟩
      · rintro (h2 | ⟨_, h2⟩) <;> omega
    · rw [if_neg h1]
      constructor
      · intro h2; exact .inl (by omega)
      · rintro (h2 | ⟨h2, _⟩)
        · omega
        · exact absurd h2 h1
  refine ⟨fun x => ?_, fun s h1 h2 => ?_⟩
  · rw [h.has x, hw]
  · obtain ⟨v, ps, dt, a, b, c, e⟩ := h.val s h1 ((hw s).1 h2)
    refine ⟨v, ps, dt, a, b, ?_⟩
    by_cases h3 : Done P d left s
    · exact c h3
    · exact stay s v (e h3) (fun h4 => h3 ((hd s).2 h4))
end
section
variable {P : Program} (w : World) {ops : Array Oper} {rest : List Oper} {o : Oper} {a : Act} {Q : Exit → Act → World → Prop}
/-- a look-up, whatever the elements -/
theorem wpList_lookup_any (hg : o.guard = none) (m x : Operand) (t : TypeId) (hop : o.op = Op.lookup t m x false)
    (k e : TypeId) (K : Keyed P k) (ht : P.underlying t = some (.map k e)) (R : Value → Option (DataW Unit × List MemPlace)) {z : Value} (hz : (zeroValue e).run P w = .ok z w) (zd : DataW Unit) (zp : List MemPlace) (hzd : R z = some (zd, zp)) (b n : Nat) (D : DataW Unit)
    (hm : a.eval m = .map (some b)) (hown : w.ownsMap P k R b n D) (key : Value) (kl : Lit) (hx : a.eval x = key) (hkey : keyOf P k key = some kl)
    (hK : ∀ v ps, R v = some (D.atKey kl zd, ps) → wpList P ops Q rest (a.put o.dst v) w) :
    wpList P ops Q (o :: rest) a w := by
  refine wpList_plain hg fun K' hK' => ?_
  obtain ⟨v, ps, hrun, hv⟩ := hown.lookup K ht hz hzd hkey
  unfold Oper.wp
  simp [execOp, hop, hm, hx, hrun, Result.andThen]
  exact hK' _ _ (hK v ps hv)
end
theorem wpList_insert_any {H : Type} {P : Program} (w : World) {ops : Array Oper} {rest : List Oper} {o : Oper} {a : Act} {Q : Exit → Act → World → Prop}
    (hg : o.guard = none) (m x v : Operand) (t : TypeId) (hop : o.op = Op.insert t m x v)
    (k e : TypeId) (K : Keyed P k) (ht : P.underlying t = some (.map k e)) (R : Value → Option (DataW H × List MemPlace)) (b n : Nat) (D : DataW H)
    (hm : a.eval m = .map (some b)) (hown : w.ownsMap P k R b n D) (hn : n < maxLen) (key val : Value) (kl : Lit) (hx : a.eval x = key) (hv : a.eval v = val) (hkey : keyOf P k key = some kl)
    (d : DataW H) (ps : List MemPlace) (hval : R val = some (d, ps))
    (hK : ∀ w', w'.ownsMap P k R b (n + 1) (D.put kl d) → w.grownBy w' (some b) → wpList P ops Q rest (a.put o.dst undef) w') :
    wpList P ops Q (o :: rest) a w := by
  refine wpList_plain hg fun K' hK' => ?_
  obtain ⟨w', hrun, r1, r2⟩ := hown.update K ht hn hkey hval
  unfold Oper.wp
  simp [execOp, hop, hm, hx, hv, hrun, Result.andThen]
  exact hK' _ _ (hK w' r1 r2)
end Go.Proofs.Ytbjblkfibinenad
