import Derived.Test.YtbjblkfibinenadGreatDoorPk14
import Derived.Test.YtbjblkfibinenadGreatDoorPk19
import Derived.Test.YtbjblkfibinenadGreatDoorPk21
import Derived.Test.YtbjblkfibinenadGreatDoorPk23
import Derived.Test.YtbjblkfibinenadGreatDoorPk26
import Derived.Test.YtbjblkfibinenadGreatDoorPk31
import Derived.Lib.LaidTab
import Derived.LaidMore
import Derived.Lib.AtoiErrMem
import Derived.Test.YtbjblkfibinenadGreatDoorPk1
import Derived.Test.YtbjblkfibinenadGreatDoorTie
import Derived.Test.YtbjblkfibinenadGreatDoorCards
import Derived.ProofKit
import Derived.OpenShut
import Derived.Lay
import Derived.Stop.Joined
import Derived.Handed
import Derived.ChangeVars

/-
  The lists of all methods that are compared, and what is common to them.
-/
namespace Go.Proofs.YtbjblkfibinenadGreatDoor
open Go.RowKit
/-- the expansion by the k-th method that is compared -/
def msO (k : Nat) (n d : Int) : Option (List Int) := match k with
  | 0 => gexO n d
  | 1 => gxO n d
  | 2 => bxO n d
  | 3 => fxO n d
  | 4 => twE repP n d
  | _ => etO n d
theorem exO_exp {o : Option (List Int)} {ys : List Int} (h : exO o = some ys) : ∃ xs, o = some xs ∧ ys = srt xs ∧ expB ys = true := by
  cases o with
  | none => rw [exO_none] at h; cases h
  | some xs =>
    cases hx : expB (srt xs) with
    | false => rw [exO_no hx] at h; cases h
    | true =>
      rw [exO_yes hx] at h
      injection h with h
      subst h
      exact ⟨xs, rfl, rfl, hx⟩
theorem pexO_exp {n d : Int} {o : Option (List Int)} {ys : List Int} (h : pexO n d o = some ys) : ∃ xs, o = some xs ∧ ys = srt xs ∧ expB ys = true := by
  unfold pexO at h
  split at h
  · exact exO_exp h
  · cases h
theorem exO_same {xs : List Int} (h : expB xs = true) : exO (some xs) = some xs := by
  have e := srt_rising (expB_rising h)
  rw [exO_yes (by rw [e]; exact h), e]
theorem walkR_ne {st : Stp} {k : Nat} {l n d : Int} {es : List (Int × Int × Int)} (h : walkR st k l n d = some es) (hn : 1 ≤ n) : es ≠ [] := by
  cases k with
  | zero => rw [walkR_out (by omega)] at h; cases h
  | succ k =>
    cases hs : st l n d with
    | none => rw [walkR_none (by omega) hs] at h; cases h
    | some p =>
      obtain ⟨t, n', d'⟩ := p
      rw [walkR_some (by omega) hs] at h
      cases hw : walkR st k (t + 1) n' d' with
      | none => rw [hw] at h; cases h
      | some es' =>
        rw [hw] at h
        injection h with h
        rw [← h]
        exact List.cons_ne_nil _ _
theorem taken_ne {es : List (Int × Int × Int)} (h : es ≠ []) : takenOf es ≠ [] := fun e => h (List.eq_nil_of_length_eq_zero (by rw [← takenOf_len, e]; rfl))
theorem gexO_facts {n d : Int} {xs : List Int} (h : gexO n d = some xs) : expB xs = true ∧ (1 ≤ n → xs ≠ []) := by
  unfold gexO at h
  split at h
  · obtain ⟨es, h1, h2, h3⟩ := lstO_some h
    exact ⟨h3, fun hn => by rw [← h2]; exact taken_ne (walkR_ne h1 hn)⟩
  · cases h
theorem etO_facts {n d : Int} {xs : List Int} (h : etO n d = some xs) : expB xs = true ∧ (1 ≤ n → xs ≠ []) := by
  unfold etO at h
  cases he : engO n d with
  | none => rw [he] at h; cases h
  | some es =>
    rw [he, Option.bind_some] at h
    obtain ⟨ps, h1, h2, h3⟩ := engB_prod (engO_some he)
    rw [h1] at h
    injection h with h
    subst h
    refine ⟨h2, fun hn e => ?_⟩
    rw [e] at h3
    unfold engO at he
    split at he
    · obtain ⟨fs, g1, g2, _⟩ := lstO_some he
      exact taken_ne (walkR_ne g1 hn) (by rw [g2]; exact List.eq_nil_of_length_eq_zero h3.symm)
    · cases he
theorem srt_ne {xs : List Int} (h : xs ≠ []) : srt xs ≠ [] := fun e => h (List.eq_nil_of_length_eq_zero (by rw [← srt_len, e]; rfl))
theorem msO_exp {k : Nat} {n d : Int} {xs : List Int} (h : msO k n d = some xs) : expB xs = true := by
  unfold msO at h
  split at h
  · exact (gexO_facts h).1
  · obtain ⟨_, _, _, hx⟩ := pexO_exp (o := golO n d) h; exact hx
  · obtain ⟨_, _, _, hx⟩ := pexO_exp (o := biO n d) h; exact hx
  · obtain ⟨_, _, _, hx⟩ := pexO_exp (o := faO n d) h; exact hx
  · obtain ⟨_, _, _, hx⟩ := pexO_exp (o := twO repP n d) h; exact hx
  · exact (etO_facts h).1
theorem msO_ne {k : Nat} {n d : Int} {xs : List Int} (hp : proB n d = true) (h : msO k n d = some xs) : xs ≠ [] := by
  have hn := (proB_bounds hp).1
  unfold msO at h
  split at h
  · exact (gexO_facts h).2 hn
  · obtain ⟨ys, h1, rfl, _⟩ := pexO_exp (o := golO n d) h; exact srt_ne (golO_facts hp h1).1
  · obtain ⟨ys, h1, rfl, _⟩ := pexO_exp (o := biO n d) h
    unfold biO at h1
    injection h1 with h1
    subst h1
    exact srt_ne (bL_facts hp).1
  · obtain ⟨ys, h1, rfl, _⟩ := pexO_exp (o := faO n d) h; exact srt_ne (faO_facts h1).1
  · obtain ⟨ys, h1, rfl, _⟩ := pexO_exp (o := twO repP n d) h; exact srt_ne (twO_facts repP_good hp h1).1
  · exact (etO_facts h).2 hn
/-- the terms by the k-th method, or none -/
def msL (k : Nat) (n d : Int) : List Int := (msO k n d).getD []
theorem msL_len (k : Nat) (n d : Int) : (msL k n d).length ≤ 24 := by
  unfold msL
  cases h : msO k n d with
  | none => simp
  | some xs => exact expB_len (msO_exp h)
theorem msL_told {k : Nat} {n d : Int} (hp : proB n d = true) : (msO k n d).isSome = decide (0 < (msL k n d).length) := by
  unfold msL
  cases h : msO k n d with
  | none => simp
  | some xs =>
    have := msO_ne hp h
    simp [List.length_pos_iff, this]
/-- the sizes of the first k -/
def szL (n d : Int) : Nat → List Int
  | 0 => []
  | k + 1 => szL n d k ++ [((msL k n d).length : Int)]
theorem szL_len (n d : Int) : ∀ k, (szL n d k).length = k
  | 0 => rfl
  | k + 1 => by rw [szL, List.length_append, szL_len n d k]; rfl
def szO (n d : Int) : Option (List Int) := if proB n d = true then some (szL n d 6) else none
theorem szO_no {n d : Int} (h : proB n d = false) : szO n d = none := by unfold szO; rw [h]; rfl
theorem szO_yes {n d : Int} (h : proB n d = true) : szO n d = some (szL n d 6) := by unfold szO; rw [h]; rfl
/-- the first one with the fewest terms among the first k -/
def beL (n d : Int) : Nat → List Int
  | 0 => []
  | k + 1 => if 0 < (msL k n d).length ∧ ((beL n d k).length = 0 ∨ (msL k n d).length < (beL n d k).length) then msL k n d else beL n d k
theorem beL_take {n d : Int} {k : Nat} (h1 : 0 < (msL k n d).length) (h2 : (beL n d k).length = 0 ∨ (msL k n d).length < (beL n d k).length) : beL n d (k + 1) = msL k n d := by rw [beL, if_pos ⟨h1, h2⟩]
theorem beL_keep {n d : Int} {k : Nat} (h : ¬ (0 < (msL k n d).length ∧ ((beL n d k).length = 0 ∨ (msL k n d).length < (beL n d k).length))) : beL n d (k + 1) = beL n d k := by rw [beL, if_neg h]
theorem beL_len (n d : Int) : ∀ k, (beL n d k).length ≤ 24
  | 0 => by simp [beL]
  | k + 1 => by
    rw [beL]
    split
    · exact msL_len k n d
    · exact beL_len n d k
def beO (n d : Int) : Option (List Int) := if proB n d = true then (if 0 < (beL n d 6).length then some (beL n d 6) else none) else none
theorem beO_no {n d : Int} (h : proB n d = false) : beO n d = none := by unfold beO; rw [h]; rfl
theorem beO_none {n d : Int} (h : ¬ 0 < (beL n d 6).length) : beO n d = none := by unfold beO; split <;> simp
theorem beO_some {n d : Int} (h : proB n d = true) (h2 : 0 < (beL n d 6).length) : beO n d = some (beL n d 6) := by unfold beO; rw [if_pos h, if_pos h2]
end Go.Proofs.YtbjblkfibinenadGreatDoor


/-
  The contract of the program's expansions by the names of the methods that are compared.
-/
namespace Go.Proofs.YtbjblkfibinenadGreatDoor
open Go.RowKit
open Go.Maps Go.WideMaps
/-- the names of the methods that are compared -/
def nmS : Nat → ByteArray
  | 0 => ⟨#[103, 114, 101, 101, 100, 121]⟩
  | 1 => ⟨#[103, 111, 108, 111, 109, 98]⟩
  | 2 => ⟨#[98, 105, 110, 97, 114, 121]⟩
  | 3 => ⟨#[102, 97, 99, 116, 111, 114, 105, 97, 108]⟩
  | 4 => ⟨#[112, 97, 105, 114]⟩
  | _ => ⟨#[101, 110, 103, 101, 108]⟩
/-- the expansion by the k-th method that is compared, of a fraction that methods require -/
def mbO (k : Nat) (n d : Int) : Option (List Int) := if proB n d = true then msO k n d else none
set_option maxRecDepth 100000 in
theorem greedyTerms_any (n d : Int) (w : World) (rn : -9223372036854775808 ≤ n ∧ n ≤ 9223372036854775807) (rd : -9223372036854775808 ≤ d ∧ d ≤ 9223372036854775807) : Calls Tryz.prog 128 #[.agg #[], .agg #[.int .i64 n, .int .i64 d]] w (RetM (gexO n d) w) := by
  have HX := Lib.hid fun (w : World) => greedyExp_any n d w rn rd
  go_enter Tryz.func128, Tryz.ntmps128
  go_wp2_with fail
  refine (HX.out _).mono ?_; rintro e w2 ⟨v2, rfl, ho2, hb2⟩
  have Ho2 := Lib.hid ho2
  have hz2 := hb2.size
  clear ho2
  go_wp2
  go_ret2
  exact ⟨_, _, rfl, rfl, fun xs hx => (by have := Ho2.out; rw [hx] at this; exact this.mono (by (first | (go_size; done) | ((try simp only [World.size_alloc, World.size_setCell, World.size_drew, World.heap_drewN]); omega)))), by (repeat' (first | (with_reducible exact Below.refl _ _) | (with_reducible assumption) | (with_reducible refine Below.drew ?_) | (with_reducible refine belowDrewN ?_ _) | (with_reducible refine Below.alloc ?_ ?_ _) | (with_reducible refine Below.setCell ?_ ?_ _) | (with_reducible refine belowStep (by assumption) ?_ ?_) | (with_reducible exact Below.size (by assumption)) | go_size))⟩
set_option maxRecDepth 100000 in
theorem greedyMethod (j : Nat) (w : World) : (method (j + 1) 78 (.agg #[]) "loop.example/g01107/impl.termsOf").run Tryz.prog w = .ok (128, .agg #[]) w := by kernel_rfl
set_option maxRecDepth 100000 in
theorem greedyD (zd : DataW Unit) : mD.atKey (.string [103, 114, 101, 101, 100, 121]) zd = .lit (.int .i64 ((78 : Nat) : Int)) := by kernel_rfl
set_option maxRecDepth 100000 in
theorem engelMTerms_any (n d : Int) (w : World) (rn : -9223372036854775808 ≤ n ∧ n ≤ 9223372036854775807) (rd : -9223372036854775808 ≤ d ∧ d ≤ 9223372036854775807) : Calls Tryz.prog 153 #[.agg #[], .agg #[.int .i64 n, .int .i64 d]] w (RetM (etO n d) w) := by
  have HX := Lib.hid fun (w : World) => engelTerms_any n d w rn rd
  go_enter Tryz.func153, Tryz.ntmps153
  go_wp2_with fail
  refine (HX.out _).mono ?_; rintro e w2 ⟨v2, rfl, ho2, hb2⟩
  have Ho2 := Lib.hid ho2
  have hz2 := hb2.size
  clear ho2
  go_wp2
  go_ret2
  exact ⟨_, _, rfl, rfl, fun xs hx => (by have := Ho2.out; rw [hx] at this; exact this.mono (by (first | (go_size; done) | ((try simp only [World.size_alloc, World.size_setCell, World.size_drew, World.heap_drewN]); omega)))), by (repeat' (first | (with_reducible exact Below.refl _ _) | (with_reducible assumption) | (with_reducible refine Below.drew ?_) | (with_reducible refine belowDrewN ?_ _) | (with_reducible refine Below.alloc ?_ ?_ _) | (with_reducible refine Below.setCell ?_ ?_ _) | (with_reducible refine belowStep (by assumption) ?_ ?_) | (with_reducible exact Below.size (by assumption)) | go_size))⟩
set_option maxRecDepth 100000 in
theorem engelMethod (j : Nat) (w : World) : (method (j + 1) 84 (.agg #[]) "loop.example/g01107/impl.termsOf").run Tryz.prog w = .ok (153, .agg #[]) w := by kernel_rfl
set_option maxRecDepth 100000 in
theorem engelD (zd : DataW Unit) : mD.atKey (.string [101, 110, 103, 101, 108]) zd = .lit (.int .i64 ((84 : Nat) : Int)) := by kernel_rfl
theorem exp_64 {xs : List Int} (h : expB xs = true) : xs.length ≤ 1000 ∧ In64 xs := ⟨by have := expB_len h; omega, In64.of_mem fun x hx => by have := expB_small h x hx; omega⟩
theorem pexO_if {n d : Int} {o : Option (List Int)} : pexO n d (if proB n d = true then o else none) = pexO n d o := by unfold pexO; cases proB n d <;> rfl
theorem pexO_mb {k : Nat} {n d : Int} {o : Option (List Int)} (h : msO k n d = pexO n d o) : pexO n d (if proB n d = true then o else none) = mbO k n d := by
  rw [pexO_if]
  unfold mbO
  rw [h]
  unfold pexO
  cases proB n d <;> rfl
theorem pexO_me {k : Nat} {n d : Int} {o : Option (List Int)} (h : msO k n d = o) (he : ∀ xs, o = some xs → expB xs = true) : pexO n d (if proB n d = true then o else none) = mbO k n d := by
  rw [pexO_if]
  unfold mbO
  rw [h]
  unfold pexO
  split
  · cases ho : o with
    | none => rfl
    | some xs => exact exO_same (he xs ho)
  · rfl
set_option maxRecDepth 100000 in
theorem by_any (k : Nat) (hk : k < 6) (n d : Int) (w : World) (rn : -9223372036854775808 ≤ n ∧ n ≤ 9223372036854775807) (rd : -9223372036854775808 ≤ d ∧ d ≤ 9223372036854775807) : Calls Tryz.prog 25 #[.string (nmS k), .agg #[.int .i64 n, .int .i64 d]] w (RetLB ((mbO k n d).getD []) (mbO k n d).isSome w) := by
  rcases (by omega : k = 0 ∨ k = 1 ∨ k = 2 ∨ k = 3 ∨ k = 4 ∨ k = 5) with rfl | rfl | rfl | rfl | rfl | rfl
  · have := expandBy_any (nmS 0) (by decide) 78 128 greedyD n d (if proB n d = true then gexO n d else none) w rn rd greedyMethod (fun _ _ => rfl) (fun hp w => by rw [if_pos hp]; exact greedyTerms_any n d w rn rd) (fun xs hx => by
      split at hx
      · rename_i hp
        obtain ⟨f1, f2⟩ := gexO_facts hx
        exact ⟨f2 (proB_bounds hp).1, exp_64 f1⟩
      · cases hx)
    rwa [pexO_me (k := 0) (o := gexO n d) rfl (fun xs h => (gexO_facts h).1)] at this
  · have := expandBy_any (nmS 1) (by decide) 79 129 golD n d (if proB n d = true then golO n d else none) w rn rd golMethod (fun _ _ => rfl) (fun hp w => by rw [if_pos hp]; exact golTerms_any n d w hp) (fun xs hx => by
      split at hx
      · rename_i hp
        have := golO_facts hp hx
        exact ⟨this.1, this.2.1, this.2.2.1⟩
      · cases hx)
    rwa [pexO_mb (k := 1) (o := golO n d) rfl] at this
  · have := expandBy_any (nmS 2) (by decide) 80 132 binD n d (if proB n d = true then biO n d else none) w rn rd binMethod (fun _ _ => rfl) (fun hp w => by rw [if_pos hp]; exact binTerms_any n d w hp) (fun xs hx => by
      split at hx
      · rename_i hp
        injection hx with hx
        subst hx
        have := bL_facts hp
        exact ⟨this.1, by omega, In64.of_mem fun x hx => by have := this.2.2.1 x hx; omega⟩
      · cases hx)
    rwa [pexO_mb (k := 2) (o := biO n d) rfl] at this
  · have := expandBy_any (nmS 3) (by decide) 81 137 facD n d (if proB n d = true then faO n d else none) w rn rd facMethod (fun _ _ => rfl) (fun hp w => by rw [if_pos hp]; exact facTerms_any n d w rn rd) (fun xs hx => by
      split at hx
      · have := faO_facts hx
        exact ⟨this.1, this.2.1, In64.of_mem fun x hx => by have := this.2.2.2 x hx; omega⟩
      · cases hx)
    rwa [pexO_mb (k := 3) (o := faO n d) rfl] at this
  · have := expandBy_any (nmS 4) (by decide) 82 141 pairD n d (if proB n d = true then twO repP n d else none) w rn rd pairMethod (fun _ _ => rfl) (fun hp w => by rw [if_pos hp]; exact pairTerms_any n d w hp) (fun xs hx => by
      split at hx
      · rename_i hp
        exact twO_facts repP_good hp hx
      · cases hx)
    rwa [pexO_mb (k := 4) (o := twO repP n d) rfl] at this
  · have := expandBy_any (nmS 5) (by decide) 84 153 engelD n d (if proB n d = true then etO n d else none) w rn rd engelMethod (fun _ _ => rfl) (fun hp w => by rw [if_pos hp]; exact engelMTerms_any n d w rn rd) (fun xs hx => by
      split at hx
      · rename_i hp
        obtain ⟨f1, f2⟩ := etO_facts hx
        exact ⟨f2 (proB_bounds hp).1, exp_64 f1⟩
      · cases hx)
    rwa [pexO_me (k := 5) (o := etO n d) rfl (fun xs h => (etO_facts h).1)] at this
end Go.Proofs.YtbjblkfibinenadGreatDoor


/-
  What the listed package-level variable gives the walks: the names of the methods that are compared.
-/
namespace Go.Proofs.YtbjblkfibinenadGreatDoor
open Go.RowKit
theorem cells_of_strs {H : Type} {enc : TypeId × Value → H} {P : Program} {w : World} {base : Nat} {sp : Nat → Bool} {held : Bool} {fuel : Nat} {t e : TypeId} {n : Nat} {cs : List Value} {zs : List (List UInt8)} {p : List MemPlace}
    (ht : P.underlying t = some (.array n e)) (he : P.underlying e = some .string) (hce : P.cellsOf e = 1) (hct : P.cellsOf t = n)
    (h : DataW.trod enc P w base sp held fuel t cs = some (.agg (zs.map fun z => .lit (.string z)), p)) : cs = zs.map fun z => Value.string ⟨z.toArray⟩ := by
  cases fuel with
  | zero => simp [DataW.trod] at h
  | succ fuel =>
    simp only [DataW.trod, ht, hce, hct, Nat.mul_one] at h
    split at h
    · rename_i hl
      obtain ⟨xs, hm, hx⟩ := Option.map_eq_some_iff.1 h
      have hxs : xs.map (·.1) = zs.map fun z => (DataW.lit (.string z) : DataW H) := by
        have := congrArg Prod.fst hx
        simpa using this
      have hxl : xs.length = n := by simpa using Lib.mapM_length hm
      have hzl : zs.length = n := by
        have := congrArg List.length hxs
        simp at this
        omega
      apply List.ext_getElem?
      intro i
      by_cases hi : i < n
      · obtain ⟨b, hb, hf⟩ := Lib.mapM_at hm i i (by simp [hi])
        obtain ⟨z, hc, rfl, _⟩ := DataW.trod_string he hf
        have h1 : cs[i]? = some (.string z) := by
          have := congrArg (·[0]?) hc
          simpa [List.getElem?_take, List.getElem?_drop] using this
        have h2 : (xs.map (·.1))[i]? = some (DataW.lit (.string z.data.toList) : DataW H) := by simp [hb]
        rw [hxs] at h2
        simp only [List.getElem?_map, Option.map_eq_some_iff, DataW.lit.injEq, Lit.string.injEq] at h2
        obtain ⟨z', hz', hzz⟩ := h2
        simp [h1, hz', hzz]
      · rw [List.getElem?_eq_none (by omega), List.getElem?_eq_none (by simp; omega)]
    · cases h
theorem gCmp : Tryz.prog.globalNamed "loop.example/g01107/impl.comparedMethods" = some 0 := by kernel_rfl
def EnvM (w : World) : Prop := (∀ k, k < 6 → w.cell? ⟨0, k, none⟩ = some (.string (nmS k))) ∧ 0 < w.heap.size
theorem EnvM.below {w w' : World} (h : EnvM w) (hb : Below w.heap.size w w') : EnvM w' := ⟨fun k hk => (hb.cell (p := ⟨0, k, none⟩) h.2).trans (h.1 k hk), Nat.lt_of_lt_of_le h.2 hb.size⟩
theorem EnvM.of_laid {rest : List (String × DataW Unit)} {W : World} (h : laidMet Tryz.prog (("loop.example/g01107/impl.comparedMethods", Rows.laid_loop_example_g01107_impl_comparedMethods) :: rest) W) : EnvM W := by
  obtain ⟨ps, ⟨g', t', cs, fuel, p, q, hg', ht', hvar, hd, _, _⟩, _⟩ := h
  obtain rfl := Option.some.inj (gCmp.symm.trans hg')
  obtain rfl := Option.some.inj ((show (Tryz.prog.globals[0]?).map (·.type) = some 39 by kernel_rfl).symm.trans ht')
  have hcs := cells_of_strs (zs := [[103, 114, 101, 101, 100, 121], [103, 111, 108, 111, 109, 98], [98, 105, 110, 97, 114, 121], [102, 97, 99, 116, 111, 114, 105, 97, 108], [112, 97, 105, 114], [101, 110, 103, 101, 108]]) Tryz.underlying39 Tryz.underlying9 (by kernel_rfl) (by kernel_rfl) hd
  have hcell : ∀ k, k < 6 → W.cell? ⟨0, k, none⟩ = some (.string (nmS k)) := fun k hk => by
    have := World.var?_cell gCmp hvar k
    rw [this, ← Array.getElem?_toList, hcs]
    rcases (by omega : k = 0 ∨ k = 1 ∨ k = 2 ∨ k = 3 ∨ k = 4 ∨ k = 5) with rfl | rfl | rfl | rfl | rfl | rfl <;> rfl
  exact ⟨hcell, Lib.lt_of_cell (hcell 0 (by omega))⟩
end Go.Proofs.YtbjblkfibinenadGreatDoor


/-
  The common last step of the laws on methods: the walk is handed what the list of variables gives, and the listed variable reads behind the call as before.
-/
namespace Go.Proofs.YtbjblkfibinenadGreatDoor
open Go.ChangeShapes Go.WideShapes Go.ChangeAt Go.RowKit Go.Joins Go.Deep
section
variable {H : Type} {enc : TypeId × Value → H} {P : Program}
theorem trod_str_any {W W' : World} {base : Nat} {sp sp' : Nat → Bool} {held : Bool} {fuel : Nat} {e : TypeId} (he : P.underlying e = some .string) (l : List Value) :
    DataW.trod enc P W base sp held (fuel + 1) e l = DataW.trod enc P W' base sp' held (fuel + 1) e l := by
  simp only [DataW.trod, he]
  cases l with
  | nil => rfl
  | cons v l =>
    cases l with
    | nil => cases v <;> rfl
    | cons u l => cases v <;> rfl
theorem trod_strs_any {W W' : World} {base : Nat} {sp sp' : Nat → Bool} {held : Bool} {fuel : Nat} {t e : TypeId} {n : Nat} {cs : List Value} (ht : P.underlying t = some (.array n e)) (he : P.underlying e = some .string) :
    DataW.trod enc P W base sp held fuel t cs = DataW.trod enc P W' base sp' held fuel t cs := by
  cases fuel with
  | zero => simp [DataW.trod]
  | succ fuel =>
    unfold DataW.trod
    rw [ht]
    dsimp only
    cases fuel with
    | zero => simp [DataW.trod]
    | succ fuel =>
      have key : (fun i : Nat => DataW.trod enc P W base sp held (fuel + 1) e ((cs.drop (i * P.cellsOf e)).take (P.cellsOf e))) = (fun i : Nat => DataW.trod enc P W' base sp' held (fuel + 1) e ((cs.drop (i * P.cellsOf e)).take (P.cellsOf e))) := funext fun i => trod_str_any he _
      rw [key]
theorem law_post1 {f : Func} {s : ChangeSpec} {W W' : World} {args : Array Value} {ds : List (DataW H)} {g1 : DataW H} {before : List MemPlace} {tb : TypeId} {nm : String} {g : Nat} {t e : TypeId} {n : Nat}
    (hl : laidOutB P = true) (hr : ∀ t ∈ f.params.toList, P.readableRec t = true ∧ t < P.types.size) (hrt : f.resultTypes = #[tb]) (htb : P.underlying tb = some .bool)
    (hvars : s.vars = [nm]) (hgn : P.globalNamed nm = some g) (hgt : (P.globals[g]?).map (·.type) = some t) (hta : P.underlying t = some (.array n e)) (hts : P.underlying e = some .string) (hglt : g < W.heap.size)
    (hW : DataW.Whole enc P f.params.toList s.vars false W args.toList ds [g1] before)
    (hfn : s.fn H (ds ++ [g1]) = { results := [.lit (.bool true)], args := ds, vars := [g1] }) (hb : Below W.heap.size W W') :
    s.post enc P f false true false false W args (.bool true) W' := by
  have hlt : ∀ p ∈ before, p.block < W.heap.size := fun p hp => hW.lt p hp
  have hW0 := hW
  obtain ⟨p, q, hA, hV, e0, hz, hn⟩ := hW
  have hold : ∀ x ∈ p, (fun b => decide (b < W.heap.size)) x.block = true := fun x hx => by simpa using hlt x (by rw [e0]; simp [hx])
  have hV' := hV
  rw [hvars] at hV'
  obtain ⟨g', t', cs, fuel, d, pv, hd, h1, h2, h3, h4, h5⟩ := trodVars_one hV'
  injection hd with hd _
  subst hd
  obtain rfl := Option.some.inj (hgn.symm.trans h1)
  obtain rfl := Option.some.inj (hgt.symm.trans h2)
  have h3' : W'.var? P nm = some cs := by
    simp only [World.var?, hgn, Option.bind_some] at h3 ⊢
    rw [hb.block g hglt]
    exact h3
  have hres : ∀ (b : Nat) (sp : Nat → Bool) (hd : Bool), DataW.TrodAll enc P W' b sp hd f.resultTypes.toList ((Value.bool true).resultList f.resultTypes.size) (s.fn H (ds ++ [g1])).results [] := by
    intro b sp hd
    rw [hfn, hrt]
    exact trodAll_cons_mk (shut_bool htb _) trodAll_mk0
  have hargs : ∀ sp : Nat → Bool, (∀ x ∈ p, sp x.block = true) → DataW.TrodAll enc P W' 0 sp true f.params.toList args.toList (s.fn H (ds ++ [g1])).args p := by
    intro sp hsp
    rw [hfn]
    exact trodAll_stays hl hb hr hA (fun x hx => hlt x (by rw [e0]; simp [hx])) hsp
  have hvs : ∀ sp : Nat → Bool, DataW.TrodVars enc P W' sp s.vars (s.fn H (ds ++ [g1])).vars q := by
    intro sp
    rw [hfn, hvars, h5]
    exact trodVars_mk1 hgn hgt h3' ((trod_strs_any hta hts).symm.trans h4)
  have hok : ∀ (j : Nat) (t : TypeId) (r : Value), f.resultTypes[j]? = some t → ((Value.bool true).resultList f.resultTypes.size)[j]? = some r → Value.okWide P W' .any 0 t r :=
    ok_one hrt rfl (okWide_bool_mk htb _)
  refine ⟨ds, [g1], before, [], p, q, hW0, hres _ _ _, hargs _ hold, hvs _, World.keptBut_mono (fun x hx => ⟨hx, ?_⟩) (hb.frame (· ∈ before)), fun h => by cases h⟩
  rw [e0] at hx
  rcases List.mem_append.1 hx with h | h
  · exact Or.inr (Or.inl h)
  · exact Or.inr (Or.inr h)
end
end Go.Proofs.YtbjblkfibinenadGreatDoor
