import Derived.Test.YtolgjokghecceaaGreatDoorPt6
import Derived.Test.YtolgjokghecceaaGreatDoorPk2
import Derived.Test.YtolgjokghecceaaGreatDoorPk8
import Derived.Test.YtolgjokghecceaaGreatDoorPk6
import Derived.Test.YtolgjokghecceaaGreatDoorPk9
import Derived.Test.YtolgjokghecceaaGreatDoorPk16
import Derived.Test.YtolgjokghecceaaGreatDoorPt1
import Derived.Test.YtolgjokghecceaaGreatDoorStepL
import Derived.Test.YtolgjokghecceaaGreatDoorPt4

/-
  Contracts of the merge of all that can be, in the program and in the model.
-/
namespace Go.Proofs.YtolgjokghecceaaGreatDoor
open Go.RowKit
theorem clone_any (w : World) (Axs : Option Addr) (cxs : Nat) (xs : List Int) (hxs : Reads w Axs xs) (lxs : xs.length ≤ 1048576) : Calls Tryz.prog 46 #[.slice Axs xs.length cxs] w (RetL xs w) := by
  cases xs with
  | nil =>
    cases Axs with
    | none =>
      refine (Tryz.slices_Clone_int_nil 0 cxs w).mono ?_
      rintro e w' ⟨rfl, rfl⟩
      exact ⟨_, rfl, OwnI.empty _ _, Below.refl _ _⟩
    | some a =>
      refine (Tryz.slices_Clone_int_zero a cxs w).mono ?_
      rintro e w' ⟨v, rfl, ho, _, hb⟩
      exact ⟨v, rfl, ho, hb⟩
  | cons x xs =>
    obtain ⟨b, o, rfl, hb, hc⟩ := hxs (by simp)
    refine (Tryz.slices_Clone_int b o (x :: xs).length cxs (x :: xs) w (Nat.le_refl _) (by omega) (fun j hj => ?_)).mono ?_
    · have := hc j _ (List.getElem?_eq_getElem hj)
      rw [this]
      simp [List.getD, List.getElem?_eq_getElem hj]
    · rintro e w' ⟨v, rfl, ho, _, hb⟩
      rw [List.take_length] at ho
      exact ⟨v, rfl, ho, hb⟩
set_option maxRecDepth 100000 in
set_option maxHeartbeats 4000000 in
theorem mergeFirst_any (w : World) (Axs : Option Addr) (cxs : Nat) (xs : List Int) (hxs : Reads w Axs xs) (lxs : xs.length ≤ 1048576) (hx : expB xs = true) : Calls Tryz.prog 47 #[.slice Axs xs.length cxs] w (RetLB ((mf xs).getD []) (mf xs).isSome w) := by
  have Hxs := Lib.hid hxs
  have hlen := expB_len hx
  have H64 : Hid (In64 xs) := Lib.hid (In64.of_mem fun z hz => by have := expB_small hx z hz; omega)
  clear hxs hx
  go_enter Tryz.func47, Tryz.ntmps47
  go_wp2
  go_loopw [10] (fun v10 wr => ∃ i : Nat, i ≤ xs.length ∧ v10 = .int .i64 (i : Int) ∧ mf xs = mfI xs (xs.length - i) i ∧ Below w.heap.size w wr) (fun v10 _ => xs.length - (intOf v10).toNat)
  case atStart => exact ⟨0, Nat.zero_le _, rfl, rfl, by (repeat' (first | (with_reducible exact Below.refl _ _) | (with_reducible assumption) | (with_reducible refine Below.drew ?_) | (with_reducible refine belowDrewN ?_ _) | (with_reducible refine Below.alloc ?_ ?_ _) | (with_reducible refine Below.setCell ?_ ?_ _) | (with_reducible refine belowStep (by assumption) ?_ ?_) | (with_reducible exact Below.size (by assumption)) | go_size))⟩
  case round =>
    obtain ⟨i, hi, rfl, hm, hbr⟩ := hrel
    have Hm := Lib.hid hm
    have hzr := hbr.size
    clear hm
    by_cases hlt : i < xs.length
    · go_wp2
      go_loopw [5] (fun v5 wq => ∃ j : Nat, i + 1 ≤ j ∧ j ≤ xs.length ∧ v5 = .int .i64 (j : Int) ∧ mfJ xs i (xs.length - (i + 1)) (i + 1) = mfJ xs i (xs.length - j) j ∧ Below wr.heap.size wr wq) (fun v5 _ => xs.length - (intOf v5).toNat)
      case atStart => exact ⟨i + 1, Nat.le_refl _, by omega, by go_num, rfl, by (repeat' (first | (with_reducible exact Below.refl _ _) | (with_reducible assumption) | (with_reducible refine Below.drew ?_) | (with_reducible refine belowDrewN ?_ _) | (with_reducible refine Below.alloc ?_ ?_ _) | (with_reducible refine Below.setCell ?_ ?_ _) | (with_reducible refine belowStep (by assumption) ?_ ?_) | (with_reducible exact Below.size (by assumption)) | go_size))⟩
      case round =>
        obtain ⟨j, hj1, hj2, rfl, hmj, hbq⟩ := hrel
        have Hmj := Lib.hid hmj
        have hzq := hbq.size
        have hbw : Below w.heap.size w _ := hbr.trans (hbq.mono hzr)
        clear hmj
        by_cases hjt : j < xs.length
        · have HP := Lib.hid fun (w : World) (h : Reads w Axs xs) => mergePair_any w (i : Int) (j : Int) ⟨by omega, by omega⟩ ⟨by omega, by omega⟩ Axs cxs xs h lxs H64.out
          cases hb : mpB xs i j with
          | true =>
            have E : Hid (mf xs = some (mpL xs i j)) := Lib.hid (by
              rw [Hm.out, show xs.length - i = (xs.length - i - 1) + 1 from by omega, mfI_some (ys := mpL xs i j)]
              rw [Hmj.out, show xs.length - j = (xs.length - j - 1) + 1 from by omega, mfJ_yes hb])
            rw [hb] at HP
            go_wp2_with fail
            refine (HP.out _ (Hxs.out.below (by (repeat' (first | (with_reducible exact Below.refl _ _) | (with_reducible assumption) | (with_reducible refine Below.drew ?_) | (with_reducible refine belowDrewN ?_ _) | (with_reducible refine Below.alloc ?_ ?_ _) | (with_reducible refine Below.setCell ?_ ?_ _) | (with_reducible refine belowStep (by assumption) ?_ ?_) | (with_reducible exact Below.size (by assumption)) | go_size))))).mono ?_; rintro e w3 ⟨v3, rfl, ho3, hb3⟩
            have Ho3 := Lib.hid ho3
            have hz3 := hb3.size
            clear ho3
            go_wp2
            go_ret2
            rw [E.out]
            exact ⟨_, rfl, Ho3.out.mono (by (first | (go_size; done) | ((try simp only [World.size_alloc, World.size_setCell, World.size_drew, World.heap_drewN]); omega))), by (repeat' (first | (with_reducible exact Below.refl _ _) | (with_reducible assumption) | (with_reducible refine Below.drew ?_) | (with_reducible refine belowDrewN ?_ _) | (with_reducible refine Below.alloc ?_ ?_ _) | (with_reducible refine Below.setCell ?_ ?_ _) | (with_reducible refine belowStep (by assumption) ?_ ?_) | (with_reducible exact Below.size (by assumption)) | go_size))⟩
          | false =>
            have E : Hid (mfJ xs i (xs.length - (i + 1)) (i + 1) = mfJ xs i (xs.length - (j + 1)) (j + 1)) := Lib.hid (by
              rw [Hmj.out, show xs.length - j = (xs.length - (j + 1)) + 1 from by omega, mfJ_no hb])
            rw [hb] at HP
            go_wp2_with fail
            refine (HP.out _ (Hxs.out.below (by (repeat' (first | (with_reducible exact Below.refl _ _) | (with_reducible assumption) | (with_reducible refine Below.drew ?_) | (with_reducible refine belowDrewN ?_ _) | (with_reducible refine Below.alloc ?_ ?_ _) | (with_reducible refine Below.setCell ?_ ?_ _) | (with_reducible refine belowStep (by assumption) ?_ ?_) | (with_reducible exact Below.size (by assumption)) | go_size))))).mono ?_; rintro e w3 ⟨v3, rfl, ho3, hb3⟩
            have hz3 := hb3.size
            clear ho3
            go_wp2
            go_roundw
            case rel => exact ⟨j + 1, by omega, by omega, by go_num, E.out, by (repeat' (first | (with_reducible exact Below.refl _ _) | (with_reducible assumption) | (with_reducible refine Below.drew ?_) | (with_reducible refine belowDrewN ?_ _) | (with_reducible refine Below.alloc ?_ ?_ _) | (with_reducible refine Below.setCell ?_ ?_ _) | (with_reducible refine belowStep (by assumption) ?_ ?_) | (with_reducible exact Below.size (by assumption)) | go_size))⟩
            case measure => simp [intOf]; omega
        · obtain rfl : j = xs.length := by omega
          have E : Hid (mf xs = mfI xs (xs.length - (i + 1)) (i + 1)) := Lib.hid (by
            rw [Hm.out, show xs.length - i = (xs.length - (i + 1)) + 1 from by omega, mfI_none]
            rw [Hmj.out, Nat.sub_self]
            rfl)
          go_wp2
          go_roundw
          case rel => exact ⟨i + 1, by omega, by go_num, E.out, by (repeat' (first | (with_reducible exact Below.refl _ _) | (with_reducible assumption) | (with_reducible refine Below.drew ?_) | (with_reducible refine belowDrewN ?_ _) | (with_reducible refine Below.alloc ?_ ?_ _) | (with_reducible refine Below.setCell ?_ ?_ _) | (with_reducible refine belowStep (by assumption) ?_ ?_) | (with_reducible exact Below.size (by assumption)) | go_size))⟩
          case measure => simp [intOf]; omega
    · obtain rfl : i = xs.length := by omega
      have E : Hid (mf xs = none) := Lib.hid (by rw [Hm.out, Nat.sub_self]; rfl)
      go_wp2
      go_ret2
      rw [E.out]
      exact ⟨_, rfl, OwnI.empty _ _, by (repeat' (first | (with_reducible exact Below.refl _ _) | (with_reducible assumption) | (with_reducible refine Below.drew ?_) | (with_reducible refine belowDrewN ?_ _) | (with_reducible refine Below.alloc ?_ ?_ _) | (with_reducible refine Below.setCell ?_ ?_ _) | (with_reducible refine belowStep (by assumption) ?_ ?_) | (with_reducible exact Below.size (by assumption)) | go_size))⟩
end Go.Proofs.YtolgjokghecceaaGreatDoor


/-
  Contracts of the expansion in which all is merged.
-/
namespace Go.Proofs.YtolgjokghecceaaGreatDoor
open Go.RowKit
set_option maxRecDepth 100000 in
set_option maxHeartbeats 4000000 in
theorem mergeAll_any (w : World) (Axs : Option Addr) (cxs : Nat) (xs : List Int) (hxs : Reads w Axs xs) (lxs : xs.length ≤ 1048576) (r64 : In64 xs) : Calls Tryz.prog 28 #[.slice Axs xs.length cxs] w (RetLB ((maO xs).getD []) (maO xs).isSome w) := by
  have Hr64 := Lib.hid r64
  have Hxs := Lib.hid hxs
  clear r64 hxs
  cases hx : expB xs with
  | false =>
    have E : Hid (maO xs = none) := Lib.hid (by unfold maO; rw [hx]; rfl)
    go_enter Tryz.func28, Tryz.ntmps28
    go_wp2_with fail
    refine (isExpansion_any _ _ _ _ Hxs.out lxs Hr64.out).mono ?_; rintro e w1 ⟨rfl, hb1⟩; have hz1 := hb1.size; (try simp only [World.size_alloc, World.size_setCell, World.size_drew, World.heap_drewN] at hz1)
    rw [hx]
    go_wp2
    go_ret2
    rw [E.out]
    exact ⟨_, rfl, OwnI.empty _ _, by (repeat' (first | (with_reducible exact Below.refl _ _) | (with_reducible assumption) | (with_reducible refine Below.drew ?_) | (with_reducible refine belowDrewN ?_ _) | (with_reducible refine Below.alloc ?_ ?_ _) | (with_reducible refine Below.setCell ?_ ?_ _) | (with_reducible refine belowStep (by assumption) ?_ ?_) | (with_reducible exact Below.size (by assumption)) | go_size))⟩
  | true =>
    have E : Hid (maO xs = some (mall xs.length xs)) := Lib.hid (by unfold maO; rw [hx]; rfl)
    have HX := Lib.hid hx
    go_enter Tryz.func28, Tryz.ntmps28
    go_wp2_with fail
    refine (isExpansion_any _ _ _ _ Hxs.out lxs Hr64.out).mono ?_; rintro e w1 ⟨rfl, hb1⟩; have hz1 := hb1.size; (try simp only [World.size_alloc, World.size_setCell, World.size_drew, World.heap_drewN] at hz1)
    rw [hx]
    go_wp2_with fail
    refine (clone_any _ _ _ _ (Hxs.out.below (by (repeat' (first | (with_reducible exact Below.refl _ _) | (with_reducible assumption) | (with_reducible refine Below.drew ?_) | (with_reducible refine belowDrewN ?_ _) | (with_reducible refine Below.alloc ?_ ?_ _) | (with_reducible refine Below.setCell ?_ ?_ _) | (with_reducible refine belowStep (by assumption) ?_ ?_) | (with_reducible exact Below.size (by assumption)) | go_size)))) lxs).mono ?_; rintro e w2 ⟨v2, rfl, ho2, hb2⟩
    have hz2 := hb2.size
    obtain ⟨A2, c2, rfl, hr2⟩ := ho2.form
    have Ho2 := Lib.hid ho2
    have hbw2 : Below w.heap.size w w2 := by (repeat' (first | (with_reducible exact Below.refl _ _) | (with_reducible assumption) | (with_reducible refine Below.drew ?_) | (with_reducible refine belowDrewN ?_ _) | (with_reducible refine Below.alloc ?_ ?_ _) | (with_reducible refine Below.setCell ?_ ?_ _) | (with_reducible refine belowStep (by assumption) ?_ ?_) | (with_reducible exact Below.size (by assumption)) | go_size))
    clear ho2 hr2 hx
    go_wp2
    go_loopw [4] (fun v4 wr => ∃ (k : Nat) (zs : List Int) (A : Option Addr) (c : Nat), v4 = .slice A zs.length c ∧ zs.length ≤ k ∧ expB zs = true ∧ mall xs.length xs = mall k zs ∧ OwnI wr w.heap.size (.slice A zs.length c) zs ∧ Below w.heap.size w wr) (fun v4 _ => slen v4)
    case atStart => exact ⟨xs.length, xs, A2, c2, rfl, Nat.le_refl _, HX.out, rfl, Ho2.out.mono (by (first | (go_size; done) | ((try simp only [World.size_alloc, World.size_setCell, World.size_drew, World.heap_drewN]); omega))), hbw2⟩
    case round =>
      obtain ⟨k, zs, A, c, rfl, hk, hez, hm, ho, hbr⟩ := hrel
      have hzr := hbr.size
      have hzl := expB_len hez
      have Hm := Lib.hid hm
      have Ho := Lib.hid ho
      obtain ⟨Aq, cq, eq1, hr⟩ := ho.form
      injection eq1 with eq2 eq3 eq4
      subst eq2 eq4
      have Hr := Lib.hid hr
      have HF := Lib.hid fun (w : World) (h : Reads w A zs) => mergeFirst_any w A c zs h (by omega) hez
      clear ho hr hm
      cases hf : mf zs with
      | none =>
        have E2 : Hid (maO xs = some zs) := Lib.hid (by rw [E.out, Hm.out, mall_none hf])
        rw [hf] at HF
        go_wp2_with fail
        refine (HF.out _ (Hr.out.below (by (repeat' (first | (with_reducible exact Below.refl _ _) | (with_reducible assumption) | (with_reducible refine Below.drew ?_) | (with_reducible refine belowDrewN ?_ _) | (with_reducible refine Below.alloc ?_ ?_ _) | (with_reducible refine Below.setCell ?_ ?_ _) | (with_reducible refine belowStep (by assumption) ?_ ?_) | (with_reducible exact Below.size (by assumption)) | go_size))))).mono ?_; rintro e w3 ⟨v3, rfl, ho3, hb3⟩
        have hz3 := hb3.size
        clear ho3
        go_wp2
        go_ret2
        rw [E2.out]
        exact ⟨_, rfl, Ho.out.below hb3, by (repeat' (first | (with_reducible exact Below.refl _ _) | (with_reducible assumption) | (with_reducible refine Below.drew ?_) | (with_reducible refine belowDrewN ?_ _) | (with_reducible refine Below.alloc ?_ ?_ _) | (with_reducible refine Below.setCell ?_ ?_ _) | (with_reducible refine belowStep (by assumption) ?_ ?_) | (with_reducible exact Below.size (by assumption)) | go_size))⟩
      | some ys =>
        obtain ⟨l1, l2⟩ := mf_less hf
        obtain ⟨k, rfl⟩ : ∃ j, k = j + 1 := ⟨k - 1, by omega⟩
        have E2 : Hid (mall xs.length xs = mall k ys) := Lib.hid (by rw [Hm.out, mall_some hf])
        have L1 := Lib.hid l1
        have l3 : ys.length < zs.length := by omega
        rw [hf] at HF
        go_wp2_with fail
        refine (HF.out _ (Hr.out.below (by (repeat' (first | (with_reducible exact Below.refl _ _) | (with_reducible assumption) | (with_reducible refine Below.drew ?_) | (with_reducible refine belowDrewN ?_ _) | (with_reducible refine Below.alloc ?_ ?_ _) | (with_reducible refine Below.setCell ?_ ?_ _) | (with_reducible refine belowStep (by assumption) ?_ ?_) | (with_reducible exact Below.size (by assumption)) | go_size))))).mono ?_; rintro e w3 ⟨v3, rfl, ho3, hb3⟩
        have hz3 := hb3.size
        obtain ⟨A3, c3, rfl, hr3⟩ := (show OwnI w3 _ v3 ys from ho3).form
        have Ho3 : Hid (OwnI w3 wr.heap.size (.slice A3 ys.length c3) ys) := Lib.hid ho3
        clear ho3 hr3 l1 l2
        go_wp2
        go_roundw
        case rel => exact ⟨k, ys, A3, c3, rfl, by omega, L1.out, E2.out, Ho3.out.mono (by (first | (go_size; done) | ((try simp only [World.size_alloc, World.size_setCell, World.size_drew, World.heap_drewN]); omega))), by (repeat' (first | (with_reducible exact Below.refl _ _) | (with_reducible assumption) | (with_reducible refine Below.drew ?_) | (with_reducible refine belowDrewN ?_ _) | (with_reducible refine Below.alloc ?_ ?_ _) | (with_reducible refine Below.setCell ?_ ?_ _) | (with_reducible refine belowStep (by assumption) ?_ ?_) | (with_reducible exact Below.size (by assumption)) | go_size))⟩
        case measure => simp [slen]; omega
end Go.Proofs.YtolgjokghecceaaGreatDoor


/-
  Contracts of the tests of a part, and of the rest of a fraction.
-/
namespace Go.Proofs.YtolgjokghecceaaGreatDoor
open Go.RowKit
def partB : List Int → List Int → Bool
  | [], _ => true
  | x :: xs, ys => hasB ys x && partB xs ys
theorem part_yes {xs ys : List Int} {x : Int} (h : hasB ys x = true) : partB (x :: xs) ys = partB xs ys := by simp [partB, h]
theorem part_no {xs ys : List Int} {x : Int} (h : hasB ys x = false) : partB (x :: xs) ys = false := by simp [partB, h]
theorem ret_bbP {a b c d : Bool} (h : a = c) (h2 : b = d) : Ending.returned (.tuple #[.bool a, .bool b]) = .returned (.tuple #[.bool c, .bool d]) := by rw [h, h2]
def bothB (xs ys : List Int) : Bool := expB xs && expB ys
end Go.Proofs.YtolgjokghecceaaGreatDoor


/-
  Plain facts on sums of unit fractions as rational numbers.
-/
namespace Go.Proofs.YtolgjokghecceaaGreatDoor
open Go.RowKit
theorem sumQ_ins (xs : List Int) (p : Nat) (v : Int) : sumQ (insAt xs p v) = 1 / (v : Rat) + sumQ xs := by
  have h : sumQ xs = sumQ (xs.take p) + sumQ (xs.drop p) := by rw [← sumQ_append, List.take_append_drop]
  rw [h, insAt, sumQ_append]
  simp only [sumQ]
  grind
theorem sumQ_put {xs : List Int} (h : Rising xs) (v : Int) (hv : hasB xs v = false) : sumQ (putL xs v) = 1 / (v : Rat) + sumQ xs := by
  rw [put_no h (by rw [hv]; simp), sumQ_ins]
/-- the numbers of ys that are not in xs -/
def oth (xs ys : List Int) : List Int := ys.filter (fun y => !hasB xs y)
theorem has_put {xs : List Int} (h : Rising xs) (a b : Int) : hasB (putL xs a) b = (decide (b = a) || hasB xs b) := by
  by_cases ha : hasB xs a = true
  · rw [put_yes h ha]
    by_cases hb : b = a
    · subst hb; simp [ha]
    · simp [hb]
  · rw [put_no h ha, has_ins]
theorem oth_put {xs : List Int} (h : Rising xs) (y : Int) (ys : List Int) (hy : ∀ z ∈ ys, z ≠ y) : oth (putL xs y) ys = oth xs ys := by
  unfold oth
  apply List.filter_congr
  intro z hz
  rw [has_put h]
  simp [hy z hz]
theorem putAll_oth : ∀ (ys : List Int) {xs : List Int}, Rising xs → Rising ys → (putAll xs ys).length = xs.length + (oth xs ys).length ∧ sumQ (putAll xs ys) = sumQ xs + sumQ (oth xs ys) ∧ (∀ z, z ∈ putAll xs ys ↔ z ∈ xs ∨ z ∈ ys)
  | [], xs, _, _ => ⟨by simp [putAll, oth], by show sumQ xs = sumQ xs + 0; grind, by simp [putAll]⟩
  | y :: ys, xs, hx, hy => by
    have hne : ∀ z ∈ ys, z ≠ y := fun z hz => by have := List.rel_of_pairwise_cons hy hz; omega
    obtain ⟨a, b, c⟩ := putAll_oth ys (hx.put y) (List.pairwise_cons.1 hy).2
    rw [oth_put hx y ys hne] at a b
    have hm : ∀ z, z ∈ putL xs y ↔ z = y ∨ z ∈ xs := fun z => by
      rw [← hasB_iff, has_put hx, Bool.or_eq_true, decide_eq_true_iff, hasB_iff]
    refine ⟨?_, ?_, fun z => ?_⟩
    · cases h : hasB xs y with
      | true =>
        rw [put_yes hx h] at a
        simpa [putAll, put_yes hx h, oth, h] using a
      | false =>
        rw [put_no hx (by rw [h]; simp), ins_len _ _ _ (pos_le xs y)] at a
        rw [putAll, put_no hx (by rw [h]; simp), a]
        simp [oth, h]
        omega
    · cases h : hasB xs y with
      | true =>
        rw [put_yes hx h] at b
        simpa [putAll, put_yes hx h, oth, h] using b
      | false =>
        rw [putAll, b, sumQ_put hx y h]
        simp only [oth, List.filter_cons, h, Bool.not_false, if_true, sumQ]
        grind
    · rw [putAll, c, hm, List.mem_cons]
      grind
end Go.Proofs.YtolgjokghecceaaGreatDoor


/-
  Plain facts on merging: the sum is kept, and nothing is left to merge; the model's merge for whatever input; and the draws for the law on merging.
-/
namespace Go.Proofs.YtolgjokghecceaaGreatDoor
open Go.RowKit
theorem keep_two_sum {xs : List Int} {i j : Nat} {x y : Int} (hij : i < j) (hxi : xs[i]? = some x) (hxj : xs[j]? = some y) : ∀ k, k ≤ xs.length → sumQ (keepL [(i : Int), (j : Int)] 0 (xs.take k)) + ((if i < k then 1 / (x : Rat) else 0) + (if j < k then 1 / (y : Rat) else 0)) = sumQ (xs.take k)
  | 0, _ => by simp [keepL, sumQ]; grind
  | k + 1, hk => by
    have ih := keep_two_sum hij hxi hxj k (by omega)
    obtain ⟨z, hz⟩ : ∃ z, xs[k]? = some z := ⟨_, List.getElem?_eq_getElem (by omega)⟩
    have et : xs.take (k + 1) = xs.take k ++ [z] := by rw [List.take_add_one, hz]; rfl
    rw [keep_take hz, has_two, et, sumQ_append, sumQ_append]
    by_cases h1 : k = i
    · have a1 : ¬ i < k := by omega
      have a2 : i < k + 1 := by omega
      have a3 : ¬ j < k := by omega
      have a4 : ¬ j < k + 1 := by omega
      have hzx : z = x := by rw [h1, hxi] at hz; injection hz with hz; exact hz.symm
      rw [if_neg a1, if_neg a3] at ih
      rw [if_pos a2, if_neg a4]
      simp [h1, hzx, sumQ] at ih ⊢
      grind
    · by_cases h2 : k = j
      · have a1 : i < k := by omega
        have a2 : i < k + 1 := by omega
        have a3 : ¬ j < k := by omega
        have a4 : j < k + 1 := by omega
        have hzy : z = y := by rw [h2, hxj] at hz; injection hz with hz; exact hz.symm
        rw [if_pos a1, if_neg a3] at ih
        rw [if_pos a2, if_pos a4]
        simp [h2, hzy, sumQ] at ih ⊢
        grind
      · have e1 : (if i < k + 1 then 1 / (x : Rat) else 0) = (if i < k then 1 / (x : Rat) else 0) := by
          by_cases h3 : i < k
          · rw [if_pos h3, if_pos (by omega)]
          · rw [if_neg h3, if_neg (by omega)]
        have e2 : (if j < k + 1 then 1 / (y : Rat) else 0) = (if j < k then 1 / (y : Rat) else 0) := by
          by_cases h3 : j < k
          · rw [if_pos h3, if_pos (by omega)]
          · rw [if_neg h3, if_neg (by omega)]
        rw [e1, e2]
        simp [h1, h2, sumQ] at ih ⊢
        grind
theorem mp_sum {xs : List Int} {i j : Nat} (hij : i < j) (h : mpB xs i j = true) : sumQ (mpL xs i j) = sumQ xs := by
  have h0 := h
  unfold mpB at h0
  simp only [Bool.and_eq_true, decide_eq_true_eq] at h0
  obtain ⟨⟨⟨⟨⟨hx, _⟩, _⟩, hj⟩, hm⟩, hi⟩ := h0
  have hjl : j < xs.length := by omega
  obtain ⟨x, hxi⟩ : ∃ x, xs[i]? = some x := ⟨_, List.getElem?_eq_getElem (by omega)⟩
  obtain ⟨y, hxj⟩ : ∃ y, xs[j]? = some y := ⟨_, List.getElem?_eq_getElem hjl⟩
  have x1 := (expB_small hx x (List.mem_of_getElem? hxi)).1
  have y1 := (expB_small hx y (List.mem_of_getElem? hxj)).1
  rw [term_at hxi, term_at hxj] at hm hi
  have hk := keep_two_sum hij hxi hxj xs.length (Nat.le_refl _)
  rw [List.take_length, if_pos (by omega), if_pos hjl] at hk
  have hr := (expB_rising hx).keep [(i : Int), (j : Int)] 0
  obtain ⟨f1, f2⟩ := into_one hr (x * y / (x + y))
  rw [mpL, if_pos h, term_at hxi, term_at hxj, f2]
  rw [f1] at hi
  rw [if_pos hi]
  simp only [Bool.and_eq_true, Bool.not_eq_true'] at hi
  rw [sumQ_put hr _ hi.1, ← hk]
  have hdv : (x + y) * (x * y / (x + y)) = x * y := Int.mul_ediv_cancel' (Int.dvd_of_emod_eq_zero hm)
  have hxy := mul_pos1 x1 y1
  have hf : 1 ≤ x * y / (x + y) := by
    rcases Int.lt_or_le 0 (x * y / (x + y)) with h1 | h1
    · omega
    · have : (x + y) * (x * y / (x + y)) ≤ (x + y) * 0 := Int.mul_le_mul_of_nonneg_left h1 (by omega)
      omega
  generalize x * y / (x + y) = f at *
  have n1 := ne0 x1
  have n2 := ne0 y1
  have n3 := ne0 hf
  have hq : ((x : Rat) + y) * f = x * y := by exact_mod_cast congrArg (fun z : Int => (z : Rat)) hdv
  have e : 1 / (f : Rat) = 1 / (x : Rat) + 1 / (y : Rat) := by grind
  rw [e]
  grind
theorem mp_keeps {xs : List Int} {i j : Nat} (hij : i < j) (h : mpB xs i j = true) : expB xs = true ∧ expB (mpL xs i j) = true ∧ (mpL xs i j).length + 1 = xs.length ∧ eN (mpL xs i j) = eN xs ∧ eD (mpL xs i j) = eD xs := by
  obtain ⟨a, b⟩ := mp_less hij h
  have hx : expB xs = true := by
    cases hh : expB xs with
    | true => rfl
    | false => rw [mp_exp hh] at h; cases h
  have q1 := sum_q a
  have q2 := sum_q hx
  rw [mp_sum hij h, ← q2] at q1
  obtain ⟨e1, e2⟩ := good_same (good_sum a) (good_sum hx) q1
  exact ⟨hx, a, b, by rw [eN, eN, if_pos a, if_pos hx, e1], by rw [eD, eD, if_pos a, if_pos hx, e2]⟩
theorem mfJ_none {xs : List Int} {i : Nat} : ∀ (k j : Nat), mfJ xs i k j = none → ∀ j', j ≤ j' → j' < j + k → mpB xs i (j' : Nat) = false
  | 0, j, _, j', h1, h2 => by omega
  | k + 1, j, h, j', h1, h2 => by
    cases hb : mpB xs i j with
    | true => rw [mfJ_yes hb] at h; cases h
    | false =>
      rw [mfJ_no hb] at h
      by_cases e : j' = j
      · rw [e]; exact hb
      · exact mfJ_none k (j + 1) h j' (by omega) (by omega)
theorem mfI_all {xs : List Int} : ∀ (k i : Nat), mfI xs k i = none → ∀ i', i ≤ i' → i' < i + k → mfJ xs i' (xs.length - (i' + 1)) (i' + 1) = none
  | 0, i, _, i', h1, h2 => by omega
  | k + 1, i, h, i', h1, h2 => by
    cases hb : mfJ xs i (xs.length - (i + 1)) (i + 1) with
    | some ys => rw [mfI_some hb] at h; cases h
    | none =>
      rw [mfI_none hb] at h
      by_cases e : i' = i
      · rw [e]; exact hb
      · exact mfI_all k (i + 1) h i' (by omega) (by omega)
theorem mf_none {xs : List Int} (h : mf xs = none) (i j : Nat) (hij : i < j) (hj : j < xs.length) : mpB xs (i : Int) (j : Int) = false :=
  mfJ_none _ _ (mfI_all _ _ h i (by omega) (by omega)) j (by omega) (by omega)
theorem mall_end : ∀ (k : Nat) {xs : List Int}, expB xs = true → xs.length ≤ k → mf (mall k xs) = none ∧ expB (mall k xs) = true ∧ eN (mall k xs) = eN xs ∧ eD (mall k xs) = eD xs
  | 0, xs, hx, hl => by
    obtain rfl := List.eq_nil_of_length_eq_zero (by omega : xs.length = 0)
    exact ⟨rfl, hx, rfl, rfl⟩
  | k + 1, xs, hx, hl => by
    cases h : mf xs with
    | none => rw [mall_none h]; exact ⟨h, hx, rfl, rfl⟩
    | some ys =>
      rw [mall_some h]
      obtain ⟨i, j, hij, hb, rfl⟩ := mfI_is _ _ h
      obtain ⟨_, a, b, c, d⟩ := mp_keeps hij hb
      obtain ⟨e1, e2, e3, e4⟩ := mall_end k a (by omega)
      exact ⟨e1, e2, e3.trans c, e4.trans d⟩
structure MergA (xs ys : List Int) : Prop where
  xexp : expB xs = true
  exp : expB ys = true
  sum : eN ys = eN xs ∧ eD ys = eD xs
  few : ys.length ≤ xs.length
  none : ∀ i j : Nat, i < j → j < ys.length → mpB ys (i : Int) (j : Int) = false
  l24 : ys.length ≤ 24
  y64 : In64 ys
theorem maO_back {xs ys : List Int} (h : maO xs = some ys) : MergA xs ys := by
  unfold maO at h
  split at h
  · rename_i hx
    injection h with h
    subst h
    obtain ⟨a, b, c, d⟩ := mall_end xs.length hx (Nat.le_refl _)
    exact ⟨hx, b, ⟨c, d⟩, mall_len _ _, mf_none a, expB_len b, In64.of_mem fun x hx => by have := expB_small b x hx; omega⟩
  · cases h
end Go.Proofs.YtolgjokghecceaaGreatDoor


/-
  Plain facts: a Pierce list is got back from its fraction and the other way round.
-/
namespace Go.Proofs.YtolgjokghecceaaGreatDoor
open Go.RowKit
theorem pieO_again {zs : List Int} (h : pieB zs = true) : pieO (pieN zs) (pieD zs) = some zs ∧ (-9223372036854775808 ≤ pieN zs ∧ pieN zs ≤ 9223372036854775807) ∧ (-9223372036854775808 ≤ pieD zs ∧ pieD zs ≤ 9223372036854775807) := by
  obtain ⟨hle, es, hw, ht⟩ := pie_again h
  have hg := (pie_q h).1
  have hb := good_bounds hg
  refine ⟨?_, by omega, by omega⟩
  have hB : atMostB (pieN zs) (pieD zs) = true := by simp [atMostB, hg, hle]
  unfold pieO
  rw [if_pos hB, lstO_yes hw (by rw [ht]; exact h), ht]
theorem up_rise {s : Int} : ∀ {xs : List Int} {lo : Int}, up s lo xs = true → ∀ (i : Nat) (x y : Int), xs[i]? = some x → xs[i + 1]? = some y → x + s ≤ y
  | [], _, _, i, x, y, h, _ => by simp at h
  | u :: us, lo, hu, 0, x, y, h, h2 => by
    by_cases hc : lo ≤ u ∧ u ≤ 1000000000
    · rw [up_yes hc.1 hc.2] at hu
      simp only [List.getElem?_cons_zero, Option.some.injEq] at h
      simp only [Nat.zero_add, List.getElem?_cons_succ] at h2
      subst h
      cases us with
      | nil => simp at h2
      | cons v vs =>
        simp only [List.getElem?_cons_zero, Option.some.injEq] at h2
        subst h2
        by_cases hc2 : u + s ≤ v ∧ v ≤ 1000000000
        · exact hc2.1
        · rw [up_no hc2] at hu; cases hu
    · rw [up_no hc] at hu; cases hu
  | u :: us, lo, hu, i + 1, x, y, h, h2 => by
    by_cases hc : lo ≤ u ∧ u ≤ 1000000000
    · rw [up_yes hc.1 hc.2] at hu
      simp only [List.getElem?_cons_succ] at h h2
      exact up_rise hu i x y h h2
    · rw [up_no hc] at hu; cases hu
structure PieL (n d : Int) (xs : List Int) : Prop where
  back : pieN xs = n ∧ pieD xs = d ∧ pieB xs = true
  few : (xs.length : Int) ≤ n
  rise : ∀ (i : Nat) (x y : Int), xs[i]? = some x → xs[i + 1]? = some y → x < y
  l24 : xs.length ≤ 24
  x64 : In64 xs
theorem pieO_back {n d : Int} {xs : List Int} (h : pieO n d = some xs) : PieL n d xs := by
  unfold pieO at h
  split at h
  · rename_i hb
    obtain ⟨hg, hnd⟩ := atMostB_yes hb
    obtain ⟨es, hw, hes, hk⟩ := lstO_some h
    subst hes
    obtain ⟨h1, h2, h3, h4⟩ := pieB_parts hk
    obtain ⟨a, b, c⟩ := pie_back hg hnd hw hk
    exact ⟨⟨a, b, hk⟩, by rw [takenOf_len]; exact c, fun i x y hx hy => by have := up_rise h2 i x y hx hy; omega, h1, In64.of_mem fun x hx => by have := up_in (by omega) h2 x hx; omega⟩
  · cases h
end Go.Proofs.YtolgjokghecceaaGreatDoor
