import Derived.Test.YtolgjokghecceaaGreatDoorPk40
import Derived.Lib.LaidTab
import Derived.LaidMore
import Derived.Lib.AtoiErrMem
import Derived.Test.YtolgjokghecceaaGreatDoorPk1
import Derived.Test.YtolgjokghecceaaGreatDoorTie
import Derived.Test.YtolgjokghecceaaGreatDoorCards
import Derived.ProofKit
import Derived.OpenShut
import Derived.Lay
import Derived.Stop.Joined
import Derived.Handed
import Derived.ChangeVars

/-
  The contract of the program's expansions by the names of the methods that are compared.
-/
namespace Go.Proofs.YtolgjokghecceaaGreatDoor
open Go.RowKit
open Go.Maps Go.WideMaps
/-- the names of the methods that are compared -/
def nmS : Nat → ByteArray
  | 0 => ⟨#[103, 114, 101, 101, 100, 121]⟩
  | 1 => ⟨#[103, 111, 108, 111, 109, 98]⟩
  | 2 => ⟨#[98, 105, 110, 97, 114, 121]⟩
  | 3 => ⟨#[102, 97, 99, 116, 111, 114, 105, 97, 108]⟩
  | 4 => ⟨#[112, 97, 105, 114]⟩
  | _ => ⟨#[101, 110, 103, 101, 108]⟩
/-- the expansion by the k-th method that is compared, of a fraction that methods require -/
def mbO (k : Nat) (n d : Int) : Option (List Int) := if proB n d = true then msO k n d else none
set_option maxRecDepth 100000 in
theorem greedyTerms_any (n d : Int) (w : World) (rn : -9223372036854775808 ≤ n ∧ n ≤ 9223372036854775807) (rd : -9223372036854775808 ≤ d ∧ d ≤ 9223372036854775807) : Calls Tryz.prog 146 #[.agg #[], .agg #[.int .i64 n, .int .i64 d]] w (RetM (gexO n d) w) := by
  have HX := Lib.hid fun (w : World) => greedyExp_any n d w rn rd
  go_enter Tryz.func146, Tryz.ntmps146
  go_wp2_with fail
  refine (HX.out _).mono ?_; rintro e w2 ⟨v2, rfl, ho2, hb2⟩
  have Ho2 := Lib.hid ho2
  have hz2 := hb2.size
  clear ho2
  go_wp2
  go_ret2
  exact ⟨_, _, rfl, rfl, fun xs hx => (by have := Ho2.out; rw [hx] at this; exact this.mono (by (first | (go_size; done) | ((try simp only [World.size_alloc, World.size_setCell, World.size_drew, World.heap_drewN]); omega)))), by (repeat' (first | (with_reducible exact Below.refl _ _) | (with_reducible assumption) | (with_reducible refine Below.drew ?_) | (with_reducible refine belowDrewN ?_ _) | (with_reducible refine Below.alloc ?_ ?_ _) | (with_reducible refine Below.setCell ?_ ?_ _) | (with_reducible refine belowStep (by assumption) ?_ ?_) | (with_reducible exact Below.size (by assumption)) | go_size))⟩
set_option maxRecDepth 100000 in
theorem greedyMethod (j : Nat) (w : World) : (method (j + 1) 85 (.agg #[]) "loop.example/g01107/impl.termsOf").run Tryz.prog w = .ok (146, .agg #[]) w := by kernel_rfl
set_option maxRecDepth 100000 in
theorem greedyD (zd : DataW Unit) : mD.atKey (.string [103, 114, 101, 101, 100, 121]) zd = .lit (.int .i64 ((85 : Nat) : Int)) := by kernel_rfl
set_option maxRecDepth 100000 in
theorem engelMTerms_any (n d : Int) (w : World) (rn : -9223372036854775808 ≤ n ∧ n ≤ 9223372036854775807) (rd : -9223372036854775808 ≤ d ∧ d ≤ 9223372036854775807) : Calls Tryz.prog 171 #[.agg #[], .agg #[.int .i64 n, .int .i64 d]] w (RetM (etO n d) w) := by
  have HX := Lib.hid fun (w : World) => engelTerms_any n d w rn rd
  go_enter Tryz.func171, Tryz.ntmps171
  go_wp2_with fail
  refine (HX.out _).mono ?_; rintro e w2 ⟨v2, rfl, ho2, hb2⟩
  have Ho2 := Lib.hid ho2
  have hz2 := hb2.size
  clear ho2
  go_wp2
  go_ret2
  exact ⟨_, _, rfl, rfl, fun xs hx => (by have := Ho2.out; rw [hx] at this; exact this.mono (by (first | (go_size; done) | ((try simp only [World.size_alloc, World.size_setCell, World.size_drew, World.heap_drewN]); omega)))), by (repeat' (first | (with_reducible exact Below.refl _ _) | (with_reducible assumption) | (with_reducible refine Below.drew ?_) | (with_reducible refine belowDrewN ?_ _) | (with_reducible refine Below.alloc ?_ ?_ _) | (with_reducible refine Below.setCell ?_ ?_ _) | (with_reducible refine belowStep (by assumption) ?_ ?_) | (with_reducible exact Below.size (by assumption)) | go_size))⟩
set_option maxRecDepth 100000 in
theorem engelMethod (j : Nat) (w : World) : (method (j + 1) 91 (.agg #[]) "loop.example/g01107/impl.termsOf").run Tryz.prog w = .ok (171, .agg #[]) w := by kernel_rfl
set_option maxRecDepth 100000 in
theorem engelD (zd : DataW Unit) : mD.atKey (.string [101, 110, 103, 101, 108]) zd = .lit (.int .i64 ((91 : Nat) : Int)) := by kernel_rfl
theorem exp_64 {xs : List Int} (h : expB xs = true) : xs.length ≤ 1000 ∧ In64 xs := ⟨by have := expB_len h; omega, In64.of_mem fun x hx => by have := expB_small h x hx; omega⟩
theorem pexO_if {n d : Int} {o : Option (List Int)} : pexO n d (if proB n d = true then o else none) = pexO n d o := by unfold pexO; cases proB n d <;> rfl
theorem pexO_mb {k : Nat} {n d : Int} {o : Option (List Int)} (h : msO k n d = pexO n d o) : pexO n d (if proB n d = true then o else none) = mbO k n d := by
  rw [pexO_if]
  unfold mbO
  rw [h]
  unfold pexO
  cases proB n d <;> rfl
theorem pexO_me {k : Nat} {n d : Int} {o : Option (List Int)} (h : msO k n d = o) (he : ∀ xs, o = some xs → expB xs = true) : pexO n d (if proB n d = true then o else none) = mbO k n d := by
  rw [pexO_if]
  unfold mbO
  rw [h]
  unfold pexO
  split
  · cases ho : o with
    | none => rfl
    | some xs => exact exO_same (he xs ho)
  · rfl
set_option maxRecDepth 100000 in
theorem by_any (k : Nat) (hk : k < 6) (n d : Int) (w : World) (rn : -9223372036854775808 ≤ n ∧ n ≤ 9223372036854775807) (rd : -9223372036854775808 ≤ d ∧ d ≤ 9223372036854775807) : Calls Tryz.prog 34 #[.string (nmS k), .agg #[.int .i64 n, .int .i64 d]] w (RetLB ((mbO k n d).getD []) (mbO k n d).isSome w) := by
  rcases (by omega : k = 0 ∨ k = 1 ∨ k = 2 ∨ k = 3 ∨ k = 4 ∨ k = 5) with rfl | rfl | rfl | rfl | rfl | rfl
  · have := expandBy_any (nmS 0) (by decide) 85 146 greedyD n d (if proB n d = true then gexO n d else none) w rn rd greedyMethod (fun _ _ => rfl) (fun hp w => by rw [if_pos hp]; exact greedyTerms_any n d w rn rd) (fun xs hx => by
      split at hx
      · rename_i hp
        obtain ⟨f1, f2⟩ := gexO_facts hx
        exact ⟨f2 (proB_bounds hp).1, exp_64 f1⟩
      · cases hx)
    rwa [pexO_me (k := 0) (o := gexO n d) rfl (fun xs h => (gexO_facts h).1)] at this
  · have := expandBy_any (nmS 1) (by decide) 86 147 golD n d (if proB n d = true then golO n d else none) w rn rd golMethod (fun _ _ => rfl) (fun hp w => by rw [if_pos hp]; exact golTerms_any n d w hp) (fun xs hx => by
      split at hx
      · rename_i hp
        have := golO_facts hp hx
        exact ⟨this.1, this.2.1, this.2.2.1⟩
      · cases hx)
    rwa [pexO_mb (k := 1) (o := golO n d) rfl] at this
  · have := expandBy_any (nmS 2) (by decide) 87 150 binD n d (if proB n d = true then biO n d else none) w rn rd binMethod (fun _ _ => rfl) (fun hp w => by rw [if_pos hp]; exact binTerms_any n d w hp) (fun xs hx => by
      split at hx
      · rename_i hp
        injection hx with hx
        subst hx
        have := bL_facts hp
        exact ⟨this.1, by omega, In64.of_mem fun x hx => by have := this.2.2.1 x hx; omega⟩
      · cases hx)
    rwa [pexO_mb (k := 2) (o := biO n d) rfl] at this
  · have := expandBy_any (nmS 3) (by decide) 88 155 facD n d (if proB n d = true then faO n d else none) w rn rd facMethod (fun _ _ => rfl) (fun hp w => by rw [if_pos hp]; exact facTerms_any n d w rn rd) (fun xs hx => by
      split at hx
      · have := faO_facts hx
        exact ⟨this.1, this.2.1, In64.of_mem fun x hx => by have := this.2.2.2 x hx; omega⟩
      · cases hx)
    rwa [pexO_mb (k := 3) (o := faO n d) rfl] at this
  · have := expandBy_any (nmS 4) (by decide) 89 159 pairD n d (if proB n d = true then twO repP n d else none) w rn rd pairMethod (fun _ _ => rfl) (fun hp w => by rw [if_pos hp]; exact pairTerms_any n d w hp) (fun xs hx => by
      split at hx
      · rename_i hp
        exact twO_facts repP_good hp hx
      · cases hx)
    rwa [pexO_mb (k := 4) (o := twO repP n d) rfl] at this
  · have := expandBy_any (nmS 5) (by decide) 91 171 engelD n d (if proB n d = true then etO n d else none) w rn rd engelMethod (fun _ _ => rfl) (fun hp w => by rw [if_pos hp]; exact engelMTerms_any n d w rn rd) (fun xs hx => by
      split at hx
      · rename_i hp
        obtain ⟨f1, f2⟩ := etO_facts hx
        exact ⟨f2 (proB_bounds hp).1, exp_64 f1⟩
      · cases hx)
    rwa [pexO_me (k := 5) (o := etO n d) rfl (fun xs h => (etO_facts h).1)] at this
end Go.Proofs.YtolgjokghecceaaGreatDoor


/-
  What the listed package-level variable gives the walks: the names of the methods that are compared.
-/
namespace Go.Proofs.YtolgjokghecceaaGreatDoor
open Go.RowKit
theorem cells_of_strs {H : Type} {enc : TypeId × Value → H} {P : Program} {w : World} {base : Nat} {sp : Nat → Bool} {held : Bool} {fuel : Nat} {t e : TypeId} {n : Nat} {cs : List Value} {zs : List (List UInt8)} {p : List MemPlace}
    (ht : P.underlying t = some (.array n e)) (he : P.underlying e = some .string) (hce : P.cellsOf e = 1) (hct : P.cellsOf t = n)
    (h : DataW.trod enc P w base sp held fuel t cs = some (.agg (zs.map fun z => .lit (.string z)), p)) : cs = zs.map fun z => Value.string ⟨z.toArray⟩ := by
  cases fuel with
  | zero => simp [DataW.trod] at h
  | succ fuel =>
    simp only [DataW.trod, ht, hce, hct, Nat.mul_one] at h
    split at h
    · rename_i hl
      obtain ⟨xs, hm, hx⟩ := Option.map_eq_some_iff.1 h
      have hxs : xs.map (·.1) = zs.map fun z => (DataW.lit (.string z) : DataW H) := by
        have := congrArg Prod.fst hx
        simpa using this
      have hxl : xs.length = n := by simpa using Lib.mapM_length hm
      have hzl : zs.length = n := by
        have := congrArg List.length hxs
        simp at this
        omega
      apply List.ext_getElem?
      intro i
      by_cases hi : i < n
      · obtain ⟨b, hb, hf⟩ := Lib.mapM_at hm i i (by simp [hi])
        obtain ⟨z, hc, rfl, _⟩ := DataW.trod_string he hf
        have h1 : cs[i]? = some (.string z) := by
          have := congrArg (·[0]?) hc
          simpa [List.getElem?_take, List.getElem?_drop] using this
        have h2 : (xs.map (·.1))[i]? = some (DataW.lit (.string z.data.toList) : DataW H) := by simp [hb]
        rw [hxs] at h2
        simp only [List.getElem?_map, Option.map_eq_some_iff, DataW.lit.injEq, Lit.string.injEq] at h2
        obtain ⟨z', hz', hzz⟩ := h2
        simp [h1, hz', hzz]
      · rw [List.getElem?_eq_none (by omega), List.getElem?_eq_none (by simp; omega)]
    · cases h
theorem gCmp : Tryz.prog.globalNamed "loop.example/g01107/impl.comparedMethods" = some 0 := by kernel_rfl
def EnvM (w : World) : Prop := (∀ k, k < 6 → w.cell? ⟨0, k, none⟩ = some (.string (nmS k))) ∧ 0 < w.heap.size
theorem EnvM.below {w w' : World} (h : EnvM w) (hb : Below w.heap.size w w') : EnvM w' := ⟨fun k hk => (hb.cell (p := ⟨0, k, none⟩) h.2).trans (h.1 k hk), Nat.lt_of_lt_of_le h.2 hb.size⟩
theorem EnvM.of_laid {rest : List (String × DataW Unit)} {W : World} (h : laidMet Tryz.prog (("loop.example/g01107/impl.comparedMethods", Rows.laid_loop_example_g01107_impl_comparedMethods) :: rest) W) : EnvM W := by
  obtain ⟨ps, ⟨g', t', cs, fuel, p, q, hg', ht', hvar, hd, _, _⟩, _⟩ := h
  obtain rfl := Option.some.inj (gCmp.symm.trans hg')
  obtain rfl := Option.some.inj ((show (Tryz.prog.globals[0]?).map (·.type) = some 45 by kernel_rfl).symm.trans ht')
  have hcs := cells_of_strs (zs := [[103, 114, 101, 101, 100, 121], [103, 111, 108, 111, 109, 98], [98, 105, 110, 97, 114, 121], [102, 97, 99, 116, 111, 114, 105, 97, 108], [112, 97, 105, 114], [101, 110, 103, 101, 108]]) Tryz.underlying45 Tryz.underlying9 (by kernel_rfl) (by kernel_rfl) hd
  have hcell : ∀ k, k < 6 → W.cell? ⟨0, k, none⟩ = some (.string (nmS k)) := fun k hk => by
    have := World.var?_cell gCmp hvar k
    rw [this, ← Array.getElem?_toList, hcs]
    rcases (by omega : k = 0 ∨ k = 1 ∨ k = 2 ∨ k = 3 ∨ k = 4 ∨ k = 5) with rfl | rfl | rfl | rfl | rfl | rfl <;> rfl
  exact ⟨hcell, Lib.lt_of_cell (hcell 0 (by omega))⟩
end Go.Proofs.YtolgjokghecceaaGreatDoor


/-
  The common last step of the laws on methods: the walk is handed what the list of variables gives, and the listed variable reads behind the call as before.
-/
namespace Go.Proofs.YtolgjokghecceaaGreatDoor
open Go.ChangeShapes Go.WideShapes Go.ChangeAt Go.RowKit Go.Joins Go.Deep
section
variable {H : Type} {enc : TypeId × Value → H} {P : Program}
theorem trod_str_any {W W' : World} {base : Nat} {sp sp' : Nat → Bool} {held : Bool} {fuel : Nat} {e : TypeId} (he : P.underlying e = some .string) (l : List Value) :
    DataW.trod enc P W base sp held (fuel + 1) e l = DataW.trod enc P W' base sp' held (fuel + 1) e l := by
  simp only [DataW.trod, he]
  cases l with
  | nil => rfl
  | cons v l =>
    cases l with
    | nil => cases v <;> rfl
    | cons u l => cases v <;> rfl
theorem trod_strs_any {W W' : World} {base : Nat} {sp sp' : Nat → Bool} {held : Bool} {fuel : Nat} {t e : TypeId} {n : Nat} {cs : List Value} (ht : P.underlying t = some (.array n e)) (he : P.underlying e = some .string) :
    DataW.trod enc P W base sp held fuel t cs = DataW.trod enc P W' base sp' held fuel t cs := by
  cases fuel with
  | zero => simp [DataW.trod]
  | succ fuel =>
    unfold DataW.trod
    rw [ht]
    dsimp only
    cases fuel with
    | zero => simp [DataW.trod]
    | succ fuel =>
      have key : (fun i : Nat => DataW.trod enc P W base sp held (fuel + 1) e ((cs.drop (i * P.cellsOf e)).take (P.cellsOf e))) = (fun i : Nat => DataW.trod enc P W' base sp' held (fuel + 1) e ((cs.drop (i * P.cellsOf e)).take (P.cellsOf e))) := funext fun i => trod_str_any he _
      rw [key]
theorem law_post1 {f : Func} {s : ChangeSpec} {W W' : World} {args : Array Value} {ds : List (DataW H)} {g1 : DataW H} {before : List MemPlace} {tb : TypeId} {nm : String} {g : Nat} {t e : TypeId} {n : Nat}
    (hl : laidOutB P = true) (hr : ∀ t ∈ f.params.toList, P.readableRec t = true ∧ t < P.types.size) (hrt : f.resultTypes = #[tb]) (htb : P.underlying tb = some .bool)
    (hvars : s.vars = [nm]) (hgn : P.globalNamed nm = some g) (hgt : (P.globals[g]?).map (·.type) = some t) (hta : P.underlying t = some (.array n e)) (hts : P.underlying e = some .string) (hglt : g < W.heap.size)
    (hW : DataW.Whole enc P f.params.toList s.vars false W args.toList ds [g1] before)
    (hfn : s.fn H (ds ++ [g1]) = { results := [.lit (.bool true)], args := ds, vars := [g1] }) (hb : Below W.heap.size W W') :
    s.post enc P f false true false false W args (.bool true) W' := by
  have hlt : ∀ p ∈ before, p.block < W.heap.size := fun p hp => hW.lt p hp
  have hW0 := hW
  obtain ⟨p, q, hA, hV, e0, hz, hn⟩ := hW
  have hold : ∀ x ∈ p, (fun b => decide (b < W.heap.size)) x.block = true := fun x hx => by simpa using hlt x (by rw [e0]; simp [hx])
  have hV' := hV
  rw [hvars] at hV'
  obtain ⟨g', t', cs, fuel, d, pv, hd, h1, h2, h3, h4, h5⟩ := trodVars_one hV'
  injection hd with hd _
  subst hd
  obtain rfl := Option.some.inj (hgn.symm.trans h1)
  obtain rfl := Option.some.inj (hgt.symm.trans h2)
  have h3' : W'.var? P nm = some cs := by
    simp only [World.var?, hgn, Option.bind_some] at h3 ⊢
    rw [hb.block g hglt]
    exact h3
  have hres : ∀ (b : Nat) (sp : Nat → Bool) (hd : Bool), DataW.TrodAll enc P W' b sp hd f.resultTypes.toList ((Value.bool true).resultList f.resultTypes.size) (s.fn H (ds ++ [g1])).results [] := by
    intro b sp hd
    rw [hfn, hrt]
    exact trodAll_cons_mk (shut_bool htb _) trodAll_mk0
  have hargs : ∀ sp : Nat → Bool, (∀ x ∈ p, sp x.block = true) → DataW.TrodAll enc P W' 0 sp true f.params.toList args.toList (s.fn H (ds ++ [g1])).args p := by
    intro sp hsp
    rw [hfn]
    exact trodAll_stays hl hb hr hA (fun x hx => hlt x (by rw [e0]; simp [hx])) hsp
  have hvs : ∀ sp : Nat → Bool, DataW.TrodVars enc P W' sp s.vars (s.fn H (ds ++ [g1])).vars q := by
    intro sp
    rw [hfn, hvars, h5]
    exact trodVars_mk1 hgn hgt h3' ((trod_strs_any hta hts).symm.trans h4)
  have hok : ∀ (j : Nat) (t : TypeId) (r : Value), f.resultTypes[j]? = some t → ((Value.bool true).resultList f.resultTypes.size)[j]? = some r → Value.okWide P W' .any 0 t r :=
    ok_one hrt rfl (okWide_bool_mk htb _)
  refine ⟨ds, [g1], before, [], p, q, hW0, hres _ _ _, hargs _ hold, hvs _, World.keptBut_mono (fun x hx => ⟨hx, ?_⟩) (hb.frame (· ∈ before)), fun h => by cases h⟩
  rw [e0] at hx
  rcases List.mem_append.1 hx with h | h
  · exact Or.inr (Or.inl h)
  · exact Or.inr (Or.inr h)
end
end Go.Proofs.YtolgjokghecceaaGreatDoor
