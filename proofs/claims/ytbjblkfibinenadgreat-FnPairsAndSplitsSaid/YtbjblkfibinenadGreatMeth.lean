
/-
  The map of methods that the program makes: what a name leads to.
-/
import Derived.Test.YtbjblkfibinenadGreatLists
import Derived.Maps.Own
import Derived.Maps.OwnOps
namespace Go.Proofs.YtbjblkfibinenadGreat
open Go.RowKit
open Go.Maps Go.WideMaps
/-- a method's value reads as the number of its type -/
def mR (v : Value) : Option (DataW Unit × List MemPlace) := match v with
  | .iface t (.agg cs) => if cs.size = 0 then some (.lit (.int .i64 ((t : Nat) : Int)), []) else none
  | _ => none
theorem mR_mk (t : Nat) : mR (.iface t (.agg #[])) = some (.lit (.int .i64 (t : Int)), []) := rfl
theorem mR_inv {v : Value} {t : Nat} {ps : List MemPlace} (h : mR v = some (.lit (.int .i64 (t : Int)), ps)) : v = .iface t (.agg #[]) := by
  unfold mR at h
  split at h
  · rename_i t' cs
    split at h
    · rename_i hs
      have hcs : cs = #[] := Array.eq_empty_of_size_eq_zero hs
      subst hcs
      simp only [Option.some.injEq, Prod.mk.injEq, DataW.lit.injEq, Lit.int.injEq] at h
      obtain ⟨⟨_, h2⟩, _⟩ := h
      have : t' = t := Int.ofNat_inj.1 h2
      rw [this]
    · cases h
  · cases h
theorem keyLaw : Keyed Tryz.prog 9 := Go.Maps.string_keyed Tryz.underlying9
def nameL (l : List UInt8) : Value := .string ⟨l.toArray⟩
def mD : DataW Unit := ((((((((DataW.map []).put (.string [103, 114, 101, 101, 100, 121]) (.lit (.int .i64 81))).put (.string [103, 111, 108, 111, 109, 98]) (.lit (.int .i64 82))).put (.string [98, 105, 110, 97, 114, 121]) (.lit (.int .i64 83))).put (.string [102, 97, 99, 116, 111, 114, 105, 97, 108]) (.lit (.int .i64 84))).put (.string [112, 97, 105, 114]) (.lit (.int .i64 85))).put (.string [115, 112, 108, 105, 116]) (.lit (.int .i64 86))).put (.string [101, 110, 103, 101, 108]) (.lit (.int .i64 87)))
theorem look_meth {w : World} {b n : Nat} {D : DataW Unit} (h : w.ownsMap Tryz.prog 9 mR b n D) {s : ByteArray} (hs : s.size ≤ maxLen) (T : Nat) (hD : ∀ zd, D.atKey (.string s.data.toList) zd = .lit (.int .i64 (T : Int)))
    (hz : (zeroValue 70).run Tryz.prog w = .ok .nilIface w) :
    (Instr.lookup 72 (.map (some b)) (.string s) true).run Tryz.prog w = .ok (.tuple #[.iface T (.agg #[]), .bool true]) w := by
  obtain ⟨es, clock, hb, F, _, rfl⟩ := h
  rcases Go.Maps.fit_look true keyLaw Tryz.underlying72 hz hb F (keyOf_string_mk Tryz.underlying9 hs) with ⟨_, _, hat⟩ | ⟨e0, y, _, _, hrun, hRv, hat, _⟩
  · have h1 := hat (.lit (.int .i64 (-1)))
    rw [hD] at h1
    simp only [DataW.lit.injEq, Lit.int.injEq] at h1
    omega
  · have h1 := hat (.lit (.int .i64 (-1)))
    rw [hD] at h1
    obtain ⟨y1, y2⟩ := y
    simp only at h1
    rw [← h1] at hRv
    rw [hrun, mR_inv hRv]
    rfl
theorem wpList_insert_own {H : Type} {P : Program} (w : World) {ops : Array Oper} {rest : List Oper} {o : Oper} {a : Act} {Q : Exit → Act → World → Prop}
    (hg : o.guard = none) (m x v : Operand) (t : TypeId) (hop : o.op = Op.insert t m x v)
    (k e : TypeId) (K : Keyed P k) (ht : P.underlying t = some (.map k e)) (R : Value → Option (DataW H × List MemPlace)) (b n : Nat) (D : DataW H)
    (hm : a.eval m = .map (some b)) (hown : w.ownsMap P k R b n D) (hn : n < maxLen) (key val : Value) (kl : Lit) (hx : a.eval x = key) (hv : a.eval v = val) (hkey : keyOf P k key = some kl)
    (d : DataW H) (ps : List MemPlace) (hval : R val = some (d, ps))
    (hK : ∀ w', w'.ownsMap P k R b (n + 1) (D.put kl d) → w.grownBy w' (some b) → wpList P ops Q rest (a.put o.dst undef) w') :
    wpList P ops Q (o :: rest) a w := by
  refine wpList_plain hg fun K' hK' => ?_
  obtain ⟨w', hrun, r1, r2⟩ := hown.update K ht hn hkey hval
  unfold Oper.wp
  simp [execOp, hop, hm, hx, hv, hrun, Result.andThen]
  exact hK' _ _ (hK w' r1 r2)
set_option maxRecDepth 100000 in
set_option maxHeartbeats 4000000 in
theorem methods_any (w : World) : Calls Tryz.prog 60 #[] w (fun e w' => ∃ b, e = .returned (.map (some b)) ∧ w'.ownsMap Tryz.prog 9 mR b 7 mD ∧ Below w.heap.size w w') := by
  have hmm := @run_makeMap Tryz.prog
  have h0 := World.ownsMap_made w Tryz.prog 9 mR
  go_enter Tryz.func60, Tryz.ntmps60
  go_wp2_with (first | (refine wpList_insert_own _ rfl _ _ _ 72 rfl 9 70 keyLaw Tryz.underlying72 mR w.heap.size 0 _ rfl h0 (by unfold maxLen; omega) _ _ _ rfl rfl (keyOf_string_mk Tryz.underlying9 (by decide)) _ [] (mR_mk _) ?_; intro w1 h1 g1) | (refine wpList_insert_own _ rfl _ _ _ 72 rfl 9 70 keyLaw Tryz.underlying72 mR w.heap.size 1 _ rfl h1 (by unfold maxLen; omega) _ _ _ rfl rfl (keyOf_string_mk Tryz.underlying9 (by decide)) _ [] (mR_mk _) ?_; intro w2 h2 g2) | (refine wpList_insert_own _ rfl _ _ _ 72 rfl 9 70 keyLaw Tryz.underlying72 mR w.heap.size 2 _ rfl h2 (by unfold maxLen; omega) _ _ _ rfl rfl (keyOf_string_mk Tryz.underlying9 (by decide)) _ [] (mR_mk _) ?_; intro w3 h3 g3) | (refine wpList_insert_own _ rfl _ _ _ 72 rfl 9 70 keyLaw Tryz.underlying72 mR w.heap.size 3 _ rfl h3 (by unfold maxLen; omega) _ _ _ rfl rfl (keyOf_string_mk Tryz.underlying9 (by decide)) _ [] (mR_mk _) ?_; intro w4 h4 g4) | (refine wpList_insert_own _ rfl _ _ _ 72 rfl 9 70 keyLaw Tryz.underlying72 mR w.heap.size 4 _ rfl h4 (by unfold maxLen; omega) _ _ _ rfl rfl (keyOf_string_mk Tryz.underlying9 (by decide)) _ [] (mR_mk _) ?_; intro w5 h5 g5) | (refine wpList_insert_own _ rfl _ _ _ 72 rfl 9 70 keyLaw Tryz.underlying72 mR w.heap.size 5 _ rfl h5 (by unfold maxLen; omega) _ _ _ rfl rfl (keyOf_string_mk Tryz.underlying9 (by decide)) _ [] (mR_mk _) ?_; intro w6 h6 g6) | (refine wpList_insert_own _ rfl _ _ _ 72 rfl 9 70 keyLaw Tryz.underlying72 mR w.heap.size 6 _ rfl h6 (by unfold maxLen; omega) _ _ _ rfl rfl (keyOf_string_mk Tryz.underlying9 (by decide)) _ [] (mR_mk _) ?_; intro w7 h7 g7))
  go_ret
  refine ⟨_, rfl, h7, ?_⟩
  have hb : ∀ {a b : World}, a.grownBy b (some w.heap.size) → w.heap.size ≤ a.heap.size → Below w.heap.size a b := fun h1 h2 => (Below.refl _ _).grown h1 h2 (fun k hk => by injection hk with hk; omega)
  have b0 : Below w.heap.size w (w.alloc (.map #[] 0)) := by (repeat' (first | (with_reducible exact Below.refl _ _) | (with_reducible assumption) | (with_reducible refine Below.drew ?_) | (with_reducible refine belowDrewN ?_ _) | (with_reducible refine Below.alloc ?_ ?_ _) | (with_reducible refine Below.setCell ?_ ?_ _) | (with_reducible refine belowStep (by assumption) ?_ ?_) | (with_reducible exact Below.size (by assumption)) | go_size))
  have b1 := b0.trans (hb g1 b0.size)
  have b2 := b1.trans (hb g2 b1.size)
  have b3 := b2.trans (hb g3 b2.size)
  have b4 := b3.trans (hb g4 b3.size)
  have b5 := b4.trans (hb g5 b4.size)
  have b6 := b5.trans (hb g6 b5.size)
  exact b6.trans (hb g7 b6.size)
end Go.Proofs.YtbjblkfibinenadGreat
