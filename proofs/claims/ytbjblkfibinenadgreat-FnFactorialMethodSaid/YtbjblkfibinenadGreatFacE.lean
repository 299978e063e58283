
/-
  Contracts of the expansion by factorials, in the program and in the model.
-/
import Derived.Test.YtbjblkfibinenadGreatExpBy
import Derived.Test.YtbjblkfibinenadGreatFacI
import Derived.Test.YtbjblkfibinenadGreatFacT
namespace Go.Proofs.YtbjblkfibinenadGreat
open Go.RowKit
open Go.Maps Go.WideMaps
def fxO (n d : Int) : Option (List Int) := pexO n d (faO n d)
theorem faO_some {n d : Int} {ds : List Int} (h : fdO n d = some ds) : faO n d = some (facT 0 ds) ∧ ds.length ≤ 11 ∧ ∀ (i : Nat) (x : Int), ds[i]? = some x → 0 ≤ x ∧ x ≤ (i : Int) + 1 := by
  refine ⟨by unfold faO; rw [h]; rfl, by have := fdO_len n d; rw [h] at this; exact this, ?_⟩
  unfold fdO at h
  split at h
  · injection h with h
    subst h
    exact digL_in _ _
  · cases h
theorem faO_none {n d : Int} (h : fdO n d = none) : faO n d = none := by unfold faO; rw [h]; rfl
set_option maxRecDepth 100000 in
set_option maxHeartbeats 4000000 in
theorem facTerms_any (n d : Int) (w : World) (rn : -9223372036854775808 ≤ n ∧ n ≤ 9223372036854775807) (rd : -9223372036854775808 ≤ d ∧ d ≤ 9223372036854775807) : Calls Tryz.prog 130 #[.agg #[], .agg #[.int .i64 n, .int .i64 d]] w (RetM (faO n d) w) := by
  go_enter Tryz.func130, Tryz.ntmps130
  go_wp2_with fail
  refine (factorialDigits_any n d _ rn rd).mono ?_; rintro e w2 ⟨v2, rfl, ho2, hb2⟩
  have hz2 := hb2.size
  simp only [World.size_alloc] at hz2
  have hb2' : Below w.heap.size w w2 := by (repeat' (first | (with_reducible exact Below.refl _ _) | (with_reducible assumption) | (with_reducible refine Below.drew ?_) | (with_reducible refine belowDrewN ?_ _) | (with_reducible refine Below.alloc ?_ ?_ _) | (with_reducible refine Below.setCell ?_ ?_ _) | (with_reducible refine belowStep (by assumption) ?_ ?_) | (with_reducible exact Below.size (by assumption)) | go_size))
  cases hf : fdO n d with
  | none =>
    rw [hf] at ho2
    have E := Lib.hid (faO_none hf)
    obtain ⟨A2, c2, rfl, hr2⟩ := ho2.form
    clear ho2 hr2
    go_wp2
    refine wp_loop_rounds 1 ?_
    rw [rounds_succ]
    go_wp2
    go_ret2
    rw [E.out]
    exact ⟨_, _, rfl, rfl, fun xs hx => by (cases hx), by (repeat' (first | (with_reducible exact Below.refl _ _) | (with_reducible assumption) | (with_reducible refine Below.drew ?_) | (with_reducible refine belowDrewN ?_ _) | (with_reducible refine Below.alloc ?_ ?_ _) | (with_reducible refine Below.setCell ?_ ?_ _) | (with_reducible refine belowStep (by assumption) ?_ ?_) | (with_reducible exact Below.size (by assumption)) | go_size))⟩
  | some ds =>
    rw [hf] at ho2
    obtain ⟨e1, hl, hin⟩ := faO_some hf
    have E := Lib.hid e1
    have Hin := Lib.hid hin
    obtain ⟨A2, c2, rfl, hr2⟩ := ho2.form
    have Hr2 : Hid (Reads w2 A2 ds) := Lib.hid hr2
    clear ho2 hr2 hin e1
    go_wp2
    go_loopw [8, 19] (fun v8 v19 wr => ∃ (k : Nat) (A : Option Addr) (c : Nat), k ≤ ds.length ∧ v19 = .int .i64 (k : Int) ∧ v8 = .slice A (facT 0 (ds.take k)).length c ∧ OwnI wr w2.heap.size (.slice A (facT 0 (ds.take k)).length c) (facT 0 (ds.take k)) ∧ Below w2.heap.size w2 wr) (fun _ v19 _ => ds.length - (intOf v19).toNat)
    case atStart => exact ⟨0, _, _, Nat.zero_le _, rfl, rfl, OwnI.zero w2 w2.heap.size (Nat.le_refl _), by (repeat' (first | (with_reducible exact Below.refl _ _) | (with_reducible assumption) | (with_reducible refine Below.drew ?_) | (with_reducible refine belowDrewN ?_ _) | (with_reducible refine Below.alloc ?_ ?_ _) | (with_reducible refine Below.setCell ?_ ?_ _) | (with_reducible refine belowStep (by assumption) ?_ ?_) | (with_reducible exact Below.size (by assumption)) | go_size))⟩
    case round =>
      obtain ⟨k, A, c, hk, rfl, rfl, ho, hbr⟩ := hrel
      have hzr := hbr.size
      have Ho := Lib.hid ho
      clear ho
      by_cases hlt : k < ds.length
      · obtain ⟨b, o, x, rfl, hb, hx, hcell⟩ := (Hr2.out.below hbr).at_ hlt
        obtain ⟨x0, x1⟩ := Hin.out k x hx
        have hN := Lib.hid (facT_next hlt hx)
        have hfl := facT_len 0 (ds.take k)
        have htl : (ds.take k).length ≤ 11 := by rw [List.length_take]; omega
        clear hx
        by_cases hp : 0 < x
        · have hN2 : Hid (facT 0 (ds.take (k + 1)) = facT 0 (ds.take k) ++ [fac (k + 2) / x]) := Lib.hid (by rw [hN.out, if_pos hp])
          have hff := fac_in (n := k + 2) (by omega)
          have t12 := term_in hp x1
          have hne : x ≠ 0 := by omega
          have HF : Hid (∀ w : World, Calls Tryz.prog 44 #[.int .i64 ((k : Int) + 2)] w (RetQ (.int .i64 (fac (k + 2))) w)) := Lib.hid fun w => factorialOf_any (k + 2) w (by omega)
          have hf1 := fac_pos (k + 1)
          have htd : (fac (k + 2)).tdiv x = fac (k + 2) / x := Int.tdiv_eq_ediv_of_nonneg (by omega)
          generalize facT 0 (ds.take k) = xs at *
          generalize fac (k + 2) = F at *
          go_wp2_with (first | (go_at_call 44; refine (HF.out _).mono ?_; rintro e w1 ⟨rfl, k1, rfl⟩) | (at_builtin; refine wpList_app _ (o := ⟨some 33, _, _, _, _, _⟩) (ys := [F / x]) rfl _ _ rfl rfl (Ho.out.below (by (repeat' (first | (with_reducible exact Below.refl _ _) | (with_reducible assumption) | (with_reducible refine Below.drew ?_) | (with_reducible refine belowDrewN ?_ _) | (with_reducible refine Below.alloc ?_ ?_ _) | (with_reducible refine Below.setCell ?_ ?_ _) | (with_reducible refine belowStep (by assumption) ?_ ?_) | (with_reducible exact Below.size (by assumption)) | go_size)))) (1) (1) (by first | (simp; done) | (simp; omega)) rfl (Reads.one _ (F / x)) (by (try simp only [List.length_nil, List.length_cons]); omega) (by first | exact Nat.le_refl _ | ((try simp only [World.size_alloc, World.heap_drewN]); omega)) ?_; intro v3 w3 ho3 hb3 hg3 ht3; clear hg3 ht3; have hz3 := hb3.size; (try simp only [World.size_alloc, World.heap_drewN] at hz3)))
          obtain ⟨A3, c3, rfl, hr3⟩ := ho3.form
          go_roundw
          case rel => exact ⟨k + 1, A3, c3, by omega, by go_num, by rw [hN2.out], by rw [hN2.out]; exact ho3, by (repeat' (first | (with_reducible exact Below.refl _ _) | (with_reducible assumption) | (with_reducible refine Below.drew ?_) | (with_reducible refine belowDrewN ?_ _) | (with_reducible refine Below.alloc ?_ ?_ _) | (with_reducible refine Below.setCell ?_ ?_ _) | (with_reducible refine belowStep (by assumption) ?_ ?_) | (with_reducible exact Below.size (by assumption)) | go_size))⟩
          case measure => simp [intOf]; omega
        · have hN2 : Hid (facT 0 (ds.take (k + 1)) = facT 0 (ds.take k)) := Lib.hid (by rw [hN.out, if_neg hp, List.append_nil])
          go_wp2
          go_roundw
          case rel => exact ⟨k + 1, A, c, by omega, by go_num, by rw [hN2.out], by rw [hN2.out]; exact Ho.out, by (repeat' (first | (with_reducible exact Below.refl _ _) | (with_reducible assumption) | (with_reducible refine Below.drew ?_) | (with_reducible refine belowDrewN ?_ _) | (with_reducible refine Below.alloc ?_ ?_ _) | (with_reducible refine Below.setCell ?_ ?_ _) | (with_reducible refine belowStep (by assumption) ?_ ?_) | (with_reducible exact Below.size (by assumption)) | go_size))⟩
          case measure => simp [intOf]; omega
      · obtain rfl : k = ds.length := by omega
        have Ho2 : Hid (OwnI wr w2.heap.size (.slice A (facT 0 (ds.take ds.length)).length c) (facT 0 ds)) := Lib.hid (by have := Ho.out; rw [List.take_length] at this ⊢; exact this)
        go_wp2
        go_ret2
        rw [E.out]
        exact ⟨_, _, rfl, rfl, fun xs hx => by injection hx with hx; subst hx; exact Ho2.out.mono (by (first | (go_size; done) | ((try simp only [World.size_alloc, World.size_setCell, World.size_drew, World.heap_drewN]); omega))), by (repeat' (first | (with_reducible exact Below.refl _ _) | (with_reducible assumption) | (with_reducible refine Below.drew ?_) | (with_reducible refine belowDrewN ?_ _) | (with_reducible refine Below.alloc ?_ ?_ _) | (with_reducible refine Below.setCell ?_ ?_ _) | (with_reducible refine belowStep (by assumption) ?_ ?_) | (with_reducible exact Below.size (by assumption)) | go_size))⟩
set_option maxRecDepth 100000 in
theorem facMethod (j : Nat) (w : World) : (method (j + 1) 84 (.agg #[]) "loop.example/g01107/impl.termsOf").run Tryz.prog w = .ok (130, .agg #[]) w := by kernel_rfl
set_option maxRecDepth 100000 in
theorem facD (zd : DataW Unit) : mD.atKey (.string [102, 97, 99, 116, 111, 114, 105, 97, 108]) zd = .lit (.int .i64 ((84 : Nat) : Int)) := by kernel_rfl
set_option maxRecDepth 100000 in
set_option maxHeartbeats 2000000 in
theorem factorialExp_any (n d : Int) (w : World) (rn : -9223372036854775808 ≤ n ∧ n ≤ 9223372036854775807) (rd : -9223372036854775808 ≤ d ∧ d ≤ 9223372036854775807) : Calls Tryz.prog 19 #[.agg #[.int .i64 n, .int .i64 d]] w (RetLB ((fxO n d).getD []) (fxO n d).isSome w) := by
  have HX := Lib.hid fun (w : World) => expandBy_any ⟨#[102, 97, 99, 116, 111, 114, 105, 97, 108]⟩ (by decide) 84 130 facD n d (faO n d) w rn rd facMethod (fun _ _ => rfl) (fun _ w => facTerms_any n d w rn rd) (fun xs hx => by
    have := faO_facts hx
    exact ⟨this.1, this.2.1, In64.of_mem fun x hx => by have := this.2.2.2 x hx; omega⟩)
  have E : Hid (pexO n d (faO n d) = fxO n d) := Lib.hid rfl
  go_enter Tryz.func19, Tryz.ntmps19
  go_wp2_with fail
  refine (HX.out _).mono ?_; rintro e w2 ⟨v2, rfl, ho2, hb2⟩
  rw [E.out] at ho2 ⊢
  have Ho2 := Lib.hid ho2
  have hz2 := hb2.size
  clear ho2
  go_wp2
  go_ret2
  exact ⟨_, rfl, Ho2.out.mono (by (first | (go_size; done) | ((try simp only [World.size_alloc, World.size_setCell, World.size_drew, World.heap_drewN]); omega))), by (repeat' (first | (with_reducible exact Below.refl _ _) | (with_reducible assumption) | (with_reducible refine Below.drew ?_) | (with_reducible refine belowDrewN ?_ _) | (with_reducible refine Below.alloc ?_ ?_ _) | (with_reducible refine Below.setCell ?_ ?_ _) | (with_reducible refine belowStep (by assumption) ?_ ?_) | (with_reducible exact Below.size (by assumption)) | go_size))⟩
end Go.Proofs.YtbjblkfibinenadGreat
