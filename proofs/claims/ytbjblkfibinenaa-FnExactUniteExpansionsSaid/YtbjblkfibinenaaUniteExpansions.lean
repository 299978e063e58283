
/-
  For every two lists, the program's union is the model's; it is new memory; nothing is changed. No condition.
-/
import Derived.Test.YtbjblkfibinenaaShell
import Derived.Test.YtbjblkfibinenaaUnite
namespace Go.Proofs.Ytbjblkfibinenaa
open Go.ChangeShapes Go.WideShapes Go.ChangeAt Go.RowKit Go.Joins Go.Deep
set_option maxHeartbeats 8000000 in
theorem FnExactUniteExpansions_walk (w : World) (Axs : Option Addr) (cxs : Nat) (xs : List Int) (Ays : Option Addr) (cys : Nat) (ys : List Int) (hxs : Reads w Axs xs) (r64 : ∀ (i : Nat) (x : Int), xs[i]? = some x → -9223372036854775808 ≤ x ∧ x ≤ 9223372036854775807) (hys : Reads w Ays ys) (r64y : ∀ (i : Nat) (x : Int), ys[i]? = some x → -9223372036854775808 ≤ x ∧ x ≤ 9223372036854775807) :
    Calls Try.prog 10 #[.slice Axs xs.length cxs, .slice Ays ys.length cys] w (Ret (.bool true) w) := by
  have Hr64 := Lib.hid r64
  have Hxs := Lib.hid hxs
  have Hr64y := Lib.hid r64y
  have Hys := Lib.hid hys
  clear r64 hxs r64y hys
  by_cases lxs : xs.length ≤ 1048576
  · have hle : (xs.length : Int) ≤ 1048576 := by omega
    by_cases lys : ys.length ≤ 1048576
    · have hley : (ys.length : Int) ≤ 1048576 := by omega
      have hzs := un_len xs ys
      go_enter Try.func10, Try.ntmps10
      go_wp2_with fail
      refine (toIntS_any _ _ _ _ (Hxs.out.below (by (repeat' (first | (with_reducible exact Below.refl _ _) | (with_reducible assumption) | (with_reducible refine Below.drew ?_) | (with_reducible refine belowDrewN ?_ _) | (with_reducible refine Below.alloc ?_ ?_ _) | (with_reducible refine Below.setCell ?_ ?_ _) | (with_reducible refine belowStep (by assumption) ?_ ?_) | (with_reducible exact Below.size (by assumption)) | go_size)))) lxs).mono ?_; rintro e w1 ⟨v1, rfl, ho1, hb1⟩; obtain ⟨A1, c1, rfl, hr1⟩ := ho1.form
      have hz1 : w.heap.size ≤ w1.heap.size := hb1.size
      go_wp2_with fail
      refine (toIntS_any _ _ _ _ (Hys.out.below (by (repeat' (first | (with_reducible exact Below.refl _ _) | (with_reducible assumption) | (with_reducible refine Below.drew ?_) | (with_reducible refine belowDrewN ?_ _) | (with_reducible refine Below.alloc ?_ ?_ _) | (with_reducible refine Below.setCell ?_ ?_ _) | (with_reducible refine belowStep (by assumption) ?_ ?_) | (with_reducible exact Below.size (by assumption)) | go_size)))) lys).mono ?_; rintro e w21 ⟨v21, rfl, ho21, hb21⟩; obtain ⟨A21, c21, rfl, hr21⟩ := ho21.form
      have hz21 : w1.heap.size ≤ w21.heap.size := hb21.size
      go_wp2_with fail
      refine (spec_unite_any _ _ _ _ (hr1.below (by (repeat' (first | (with_reducible exact Below.refl _ _) | (with_reducible assumption) | (with_reducible refine Below.drew ?_) | (with_reducible refine belowDrewN ?_ _) | (with_reducible refine Below.alloc ?_ ?_ _) | (with_reducible refine Below.setCell ?_ ?_ _) | (with_reducible refine belowStep (by assumption) ?_ ?_) | (with_reducible exact Below.size (by assumption)) | go_size)))) lxs _ _ _ (hr21.below (by (repeat' (first | (with_reducible exact Below.refl _ _) | (with_reducible assumption) | (with_reducible refine Below.drew ?_) | (with_reducible refine belowDrewN ?_ _) | (with_reducible refine Below.alloc ?_ ?_ _) | (with_reducible refine Below.setCell ?_ ?_ _) | (with_reducible refine belowStep (by assumption) ?_ ?_) | (with_reducible exact Below.size (by assumption)) | go_size)))) lys).mono ?_; rintro e w2 ⟨A2, c2, rfl, hr2, hb2⟩
      have hz2 : w21.heap.size ≤ w2.heap.size := hb2.size
      go_wp2_with fail
      refine (toIntS_any _ _ _ _ (Hxs.out.below (by (repeat' (first | (with_reducible exact Below.refl _ _) | (with_reducible assumption) | (with_reducible refine Below.drew ?_) | (with_reducible refine belowDrewN ?_ _) | (with_reducible refine Below.alloc ?_ ?_ _) | (with_reducible refine Below.setCell ?_ ?_ _) | (with_reducible refine belowStep (by assumption) ?_ ?_) | (with_reducible exact Below.size (by assumption)) | go_size)))) lxs).mono ?_; rintro e w3 ⟨v3, rfl, ho3, hb3⟩; obtain ⟨A3, c3, rfl, hr3⟩ := ho3.form
      have hz3 : w2.heap.size ≤ w3.heap.size := hb3.size
      go_wp2_with fail
      refine (toIntS_any _ _ _ _ (Hys.out.below (by (repeat' (first | (with_reducible exact Below.refl _ _) | (with_reducible assumption) | (with_reducible refine Below.drew ?_) | (with_reducible refine belowDrewN ?_ _) | (with_reducible refine Below.alloc ?_ ?_ _) | (with_reducible refine Below.setCell ?_ ?_ _) | (with_reducible refine belowStep (by assumption) ?_ ?_) | (with_reducible exact Below.size (by assumption)) | go_size)))) lys).mono ?_; rintro e w23 ⟨v23, rfl, ho23, hb23⟩; obtain ⟨A23, c23, rfl, hr23⟩ := ho23.form
      have hz23 : w3.heap.size ≤ w23.heap.size := hb23.size
      go_wp2_with fail
      refine (unite_any _ _ _ _ (hr3.below (by (repeat' (first | (with_reducible exact Below.refl _ _) | (with_reducible assumption) | (with_reducible refine Below.drew ?_) | (with_reducible refine belowDrewN ?_ _) | (with_reducible refine Below.alloc ?_ ?_ _) | (with_reducible refine Below.setCell ?_ ?_ _) | (with_reducible refine belowStep (by assumption) ?_ ?_) | (with_reducible exact Below.size (by assumption)) | go_size)))) lxs _ _ _ (hr23.below (by (repeat' (first | (with_reducible exact Below.refl _ _) | (with_reducible assumption) | (with_reducible refine Below.drew ?_) | (with_reducible refine belowDrewN ?_ _) | (with_reducible refine Below.alloc ?_ ?_ _) | (with_reducible refine Below.setCell ?_ ?_ _) | (with_reducible refine belowStep (by assumption) ?_ ?_) | (with_reducible exact Below.size (by assumption)) | go_size)))) lys Hr64.out Hr64y.out).mono ?_; rintro e w4 ⟨v4, rfl, ho4, hb4⟩
      have hz4 : w23.heap.size ≤ w4.heap.size := hb4.size
      obtain ⟨A4, c4, rfl, hr4⟩ := ho4.form
      go_wp2_with fail
      refine (eqIntS_same _ _ _ _ _ _ (hr4.below (by (repeat' (first | (with_reducible exact Below.refl _ _) | (with_reducible assumption) | (with_reducible refine Below.drew ?_) | (with_reducible refine belowDrewN ?_ _) | (with_reducible refine Below.alloc ?_ ?_ _) | (with_reducible refine Below.setCell ?_ ?_ _) | (with_reducible refine belowStep (by assumption) ?_ ?_) | (with_reducible exact Below.size (by assumption)) | go_size)))) (hr2.below (by (repeat' (first | (with_reducible exact Below.refl _ _) | (with_reducible assumption) | (with_reducible refine Below.drew ?_) | (with_reducible refine belowDrewN ?_ _) | (with_reducible refine Below.alloc ?_ ?_ _) | (with_reducible refine Below.setCell ?_ ?_ _) | (with_reducible refine belowStep (by assumption) ?_ ?_) | (with_reducible exact Below.size (by assumption)) | go_size)))) hzs).mono ?_; rintro e w5 ⟨rfl, k5, rfl⟩
      go_wp2_with fail
      refine (toIntS_any _ _ _ _ (Hxs.out.below (by (repeat' (first | (with_reducible exact Below.refl _ _) | (with_reducible assumption) | (with_reducible refine Below.drew ?_) | (with_reducible refine belowDrewN ?_ _) | (with_reducible refine Below.alloc ?_ ?_ _) | (with_reducible refine Below.setCell ?_ ?_ _) | (with_reducible refine belowStep (by assumption) ?_ ?_) | (with_reducible exact Below.size (by assumption)) | go_size)))) lxs).mono ?_; rintro e w6 ⟨v6, rfl, ho6, hb6⟩; obtain ⟨A6, c6, rfl, hr6⟩ := ho6.form
      have hz6 : w4.heap.size ≤ w6.heap.size := hb6.size
      go_wp2_with fail
      refine (eqIntS_same _ _ _ _ _ _ (hr3.below (by (repeat' (first | (with_reducible exact Below.refl _ _) | (with_reducible assumption) | (with_reducible refine Below.drew ?_) | (with_reducible refine belowDrewN ?_ _) | (with_reducible refine Below.alloc ?_ ?_ _) | (with_reducible refine Below.setCell ?_ ?_ _) | (with_reducible refine belowStep (by assumption) ?_ ?_) | (with_reducible exact Below.size (by assumption)) | go_size)))) hr6 lxs).mono ?_; rintro e w7 ⟨rfl, k7, rfl⟩
      go_wp2_with fail
      refine (toIntS_any _ _ _ _ (Hys.out.below (by (repeat' (first | (with_reducible exact Below.refl _ _) | (with_reducible assumption) | (with_reducible refine Below.drew ?_) | (with_reducible refine belowDrewN ?_ _) | (with_reducible refine Below.alloc ?_ ?_ _) | (with_reducible refine Below.setCell ?_ ?_ _) | (with_reducible refine belowStep (by assumption) ?_ ?_) | (with_reducible exact Below.size (by assumption)) | go_size)))) lys).mono ?_; rintro e w26 ⟨v26, rfl, ho26, hb26⟩; obtain ⟨A26, c26, rfl, hr26⟩ := ho26.form
      have hz26 : w6.heap.size ≤ w26.heap.size := hb26.size
      go_wp2_with fail
      refine (eqIntS_same _ _ _ _ _ _ (hr23.below (by (repeat' (first | (with_reducible exact Below.refl _ _) | (with_reducible assumption) | (with_reducible refine Below.drew ?_) | (with_reducible refine belowDrewN ?_ _) | (with_reducible refine Below.alloc ?_ ?_ _) | (with_reducible refine Below.setCell ?_ ?_ _) | (with_reducible refine belowStep (by assumption) ?_ ?_) | (with_reducible exact Below.size (by assumption)) | go_size)))) hr26 lys).mono ?_; rintro e w27 ⟨rfl, k27, rfl⟩
      go_wp2_with fail
      refine (markIntS_any _ _ _ _ _ (ho3.below (by (repeat' (first | (with_reducible exact Below.refl _ _) | (with_reducible assumption) | (with_reducible refine Below.drew ?_) | (with_reducible refine belowDrewN ?_ _) | (with_reducible refine Below.alloc ?_ ?_ _) | (with_reducible refine Below.setCell ?_ ?_ _) | (with_reducible refine belowStep (by assumption) ?_ ?_) | (with_reducible exact Below.size (by assumption)) | go_size)))) (by omega) (by omega) (by omega)).mono ?_; rintro e w8 ⟨rfl, ho8, hg8⟩
      have hb8 := belowMark (B := w2.heap.size) hg8 (show w2.heap.size ≤ w26.heap.size by omega) (fun k hk => (ho8.block k hk).1)
      have hz8 : w26.heap.size ≤ w8.heap.size := hg8.size
      have hj8 := OwnI.kept_ (OwnI.below ho23 (by (repeat' (first | (with_reducible exact Below.refl _ _) | (with_reducible assumption) | (with_reducible refine Below.drew ?_) | (with_reducible refine belowDrewN ?_ _) | (with_reducible refine Below.alloc ?_ ?_ _) | (with_reducible refine Below.setCell ?_ ?_ _) | (with_reducible refine belowStep (by assumption) ?_ ?_) | (with_reducible exact Below.size (by assumption)) | go_size)))) hg8 (fun k hk => (ho3.block k hk).2)
      have Hj8 := Lib.hid hj8
      clear hj8
      have hk4 := OwnI.kept_ (OwnI.below ho4 (by (repeat' (first | (with_reducible exact Below.refl _ _) | (with_reducible assumption) | (with_reducible refine Below.drew ?_) | (with_reducible refine belowDrewN ?_ _) | (with_reducible refine Below.alloc ?_ ?_ _) | (with_reducible refine Below.setCell ?_ ?_ _) | (with_reducible refine belowStep (by assumption) ?_ ?_) | (with_reducible exact Below.size (by assumption)) | go_size)))) hg8 (fun k hk => by have := (ho3.block k hk).2; omega)
      have Hk4 := Lib.hid hk4
      clear hk4
      have lxs2 : (1 : Int) + xs.length ≥ 0 := by omega
      go_wp2_with fail
      refine (markIntS_any _ _ _ _ _ Hj8.out (by omega) (by omega) (by omega)).mono ?_; rintro e w28 ⟨rfl, ho28, hg28⟩
      have hb28 := belowMark (B := w2.heap.size) hg28 (show w2.heap.size ≤ w8.heap.size by omega) (fun k hk => by have := (ho28.block k hk).1; omega)
      have hz28 : w8.heap.size ≤ w28.heap.size := hg28.size
      have hk5 := OwnI.kept_ Hk4.out hg28 (fun k hk => (ho23.block k hk).2)
      have Hk5 := Lib.hid hk5
      clear hk5
      have lys2 : (1 : Int) + xs.length + ys.length ≥ 0 := by omega
      go_wp2_with fail
      refine (eqIntS_same _ _ _ _ _ _ (Hk5.out.reads.1) (hr2.below (by (repeat' (first | (with_reducible exact Below.refl _ _) | (with_reducible assumption) | (with_reducible refine Below.drew ?_) | (with_reducible refine belowDrewN ?_ _) | (with_reducible refine Below.alloc ?_ ?_ _) | (with_reducible refine Below.setCell ?_ ?_ _) | (with_reducible refine belowStep (by assumption) ?_ ?_) | (with_reducible exact Below.size (by assumption)) | go_size)))) hzs).mono ?_; rintro e w9 ⟨rfl, k9, rfl⟩
      go_wp2_with fail
      refine (markIntS_any _ _ _ _ _ (Hk5.out.drewN _) (by omega) (by omega) (by omega)).mono ?_; rintro e w10 ⟨rfl, ho10, hg10⟩
      have hb10 := belowMark (B := w2.heap.size) hg10 (show w2.heap.size ≤ w28.heap.size by omega) (fun k hk => by have := (ho10.block k hk).1; omega)
      have hz10 : w28.heap.size ≤ w10.heap.size := hg10.size
      go_wp2_with fail
      refine (heldIntS_any _ _ _ _ _ ho10.reads.1 (by omega) (by omega) (by omega)).mono ?_; rintro e w11 ⟨rfl, k11, rfl⟩
      go_wp2_with fail
      refine (toIntS_any _ _ _ _ (Hxs.out.below (by (repeat' (first | (with_reducible exact Below.refl _ _) | (with_reducible assumption) | (with_reducible refine Below.drew ?_) | (with_reducible refine belowDrewN ?_ _) | (with_reducible refine Below.alloc ?_ ?_ _) | (with_reducible refine Below.setCell ?_ ?_ _) | (with_reducible refine belowStep (by assumption) ?_ ?_) | (with_reducible exact Below.size (by assumption)) | go_size)))) lxs).mono ?_; rintro e w12 ⟨v12, rfl, ho12, hb12⟩; obtain ⟨A12, c12, rfl, hr12⟩ := ho12.form
      have hz12 : w10.heap.size ≤ w12.heap.size := hb12.size
      go_wp2_with fail
      refine (toIntS_any _ _ _ _ (Hys.out.below (by (repeat' (first | (with_reducible exact Below.refl _ _) | (with_reducible assumption) | (with_reducible refine Below.drew ?_) | (with_reducible refine belowDrewN ?_ _) | (with_reducible refine Below.alloc ?_ ?_ _) | (with_reducible refine Below.setCell ?_ ?_ _) | (with_reducible refine belowStep (by assumption) ?_ ?_) | (with_reducible exact Below.size (by assumption)) | go_size)))) lys).mono ?_; rintro e w32 ⟨v32, rfl, ho32, hb32⟩; obtain ⟨A32, c32, rfl, hr32⟩ := ho32.form
      have hz32 : w12.heap.size ≤ w32.heap.size := hb32.size
      go_wp2_with fail
      refine (unite_any _ _ _ _ (hr12.below (by (repeat' (first | (with_reducible exact Below.refl _ _) | (with_reducible assumption) | (with_reducible refine Below.drew ?_) | (with_reducible refine belowDrewN ?_ _) | (with_reducible refine Below.alloc ?_ ?_ _) | (with_reducible refine Below.setCell ?_ ?_ _) | (with_reducible refine belowStep (by assumption) ?_ ?_) | (with_reducible exact Below.size (by assumption)) | go_size)))) lxs _ _ _ (hr32.below (by (repeat' (first | (with_reducible exact Below.refl _ _) | (with_reducible assumption) | (with_reducible refine Below.drew ?_) | (with_reducible refine belowDrewN ?_ _) | (with_reducible refine Below.alloc ?_ ?_ _) | (with_reducible refine Below.setCell ?_ ?_ _) | (with_reducible refine belowStep (by assumption) ?_ ?_) | (with_reducible exact Below.size (by assumption)) | go_size)))) lys Hr64.out Hr64y.out).mono ?_; rintro e w13 ⟨v13, rfl, ho13, hb13⟩
      have hz13 : w32.heap.size ≤ w13.heap.size := hb13.size
      obtain ⟨A13, c13, rfl, hr13⟩ := ho13.form
      go_wp2_with fail
      refine (eqIntS_same _ _ _ _ _ _ (hr13.below (by (repeat' (first | (with_reducible exact Below.refl _ _) | (with_reducible assumption) | (with_reducible refine Below.drew ?_) | (with_reducible refine belowDrewN ?_ _) | (with_reducible refine Below.alloc ?_ ?_ _) | (with_reducible refine Below.setCell ?_ ?_ _) | (with_reducible refine belowStep (by assumption) ?_ ?_) | (with_reducible exact Below.size (by assumption)) | go_size)))) (hr2.below (by (repeat' (first | (with_reducible exact Below.refl _ _) | (with_reducible assumption) | (with_reducible refine Below.drew ?_) | (with_reducible refine belowDrewN ?_ _) | (with_reducible refine Below.alloc ?_ ?_ _) | (with_reducible refine Below.setCell ?_ ?_ _) | (with_reducible refine belowStep (by assumption) ?_ ?_) | (with_reducible exact Below.size (by assumption)) | go_size)))) hzs).mono ?_; rintro e w14 ⟨rfl, k14, rfl⟩
      go_wp2_with fail
      refine (heldIntS_any _ _ _ _ _ (ho10.reads.1.below (by (repeat' (first | (with_reducible exact Below.refl _ _) | (with_reducible assumption) | (with_reducible refine Below.drew ?_) | (with_reducible refine belowDrewN ?_ _) | (with_reducible refine Below.alloc ?_ ?_ _) | (with_reducible refine Below.setCell ?_ ?_ _) | (with_reducible refine belowStep (by assumption) ?_ ?_) | (with_reducible exact Below.size (by assumption)) | go_size)))) (by omega) (by omega) (by omega)).mono ?_; rintro e w15 ⟨rfl, k15, rfl⟩
      go_wp2
      go_ret
      exact ⟨rfl, by (repeat' (first | (with_reducible exact Below.refl _ _) | (with_reducible assumption) | (with_reducible refine Below.drew ?_) | (with_reducible refine belowDrewN ?_ _) | (with_reducible refine Below.alloc ?_ ?_ _) | (with_reducible refine Below.setCell ?_ ?_ _) | (with_reducible refine belowStep (by assumption) ?_ ?_) | (with_reducible exact Below.size (by assumption)) | go_size))⟩
    · have hgt : 1048576 < (ys.length : Int) := by omega
      clear lys
      go_enter Try.func10, Try.ntmps10
      go_wp2
      go_ret
      exact ⟨rfl, by (repeat' (first | (with_reducible exact Below.refl _ _) | (with_reducible assumption) | (with_reducible refine Below.drew ?_) | (with_reducible refine belowDrewN ?_ _) | (with_reducible refine Below.alloc ?_ ?_ _) | (with_reducible refine Below.setCell ?_ ?_ _) | (with_reducible refine belowStep (by assumption) ?_ ?_) | (with_reducible exact Below.size (by assumption)) | go_size))⟩
  · have hgt : 1048576 < (xs.length : Int) := by omega
    clear lxs
    go_enter Try.func10, Try.ntmps10
    go_wp2
    go_ret
    exact ⟨rfl, by (repeat' (first | (with_reducible exact Below.refl _ _) | (with_reducible assumption) | (with_reducible refine Below.drew ?_) | (with_reducible refine belowDrewN ?_ _) | (with_reducible refine Below.alloc ?_ ?_ _) | (with_reducible refine Below.setCell ?_ ?_ _) | (with_reducible refine belowStep (by assumption) ?_ ?_) | (with_reducible exact Below.size (by assumption)) | go_size))⟩

set_option maxRecDepth 100000 in
theorem FnExactUniteExpansions_lifted (os : Os) (started : os.Started) (H : Type) (enc : TypeId × Value → H) :
    ReturnsInHanded {} Try.checked os 10 .any (Rows.fnExactUniteExpansionsSpec.pre6 enc Try.prog Try.f10 Rows.fnExactUniteExpansionsRow.domain false) (Rows.fnExactUniteExpansionsSpec.post enc Try.prog Try.f10 false true false false) := by
  refine returnsInHanded_of_change (C := Try.checked) own started (by kernel_rfl) Try.func10
    (ChangeSpec.witness6 (enc := enc) (C := Try.checked) false ⟨#[], #[.slice none 0 0, .slice none 0 0], []⟩ 8 (by kernel_rfl) (by kernel_rfl) (by kernel_rfl) (by kernel_rfl)) ?_
  intro W base args ds gs before hval0 hW hcnd _
  have hval : ∀ (j : Nat) t v, Try.f10.params[j]? = some t → args[j]? = some v → Value.okWide Try.prog W .any base t v := hval0
  have hW' := hW
  have hlt : ∀ p ∈ before, p.block < W.heap.size := fun p hp => hW'.lt p hp
  obtain ⟨p, q, hA0, hV, rfl, hfz, hnd⟩ := hW
  have hA : DataW.TrodAll enc Try.prog W 0 (fun _ => true) true Try.f10.params.toList args.toList ds p := hA0
  rw [Try.params10] at hA hval
  obtain ⟨v0, vs0, d0, ds0, p0, q0, hargs, rfl, rfl, h0, r0⟩ := trodAll_cons hA
  obtain ⟨v1, vs1, d1, ds1, p1, q1, rfl, rfl, rfl, h1, r1⟩ := trodAll_cons r0
  obtain ⟨rfl, rfl, rfl⟩ := trodAll_nil r1
  obtain rfl : args = #[v0, v1] := by cases args; simp_all
  obtain ⟨rfl, rfl⟩ := trodVars_none hV
  obtain ⟨Axs, cxs, xs, rfl, hxs, rxs⟩ := open_ints_reads Try.underlying24 Try.underlying3 (by kernel_rfl) (hval 0 24 v0 rfl rfl) h0 (fun y hy => hlt y (by simp [hy]))
  obtain ⟨Ays, cys, ys, rfl, hys, rys⟩ := open_ints_reads Try.underlying24 Try.underlying3 (by kernel_rfl) (hval 1 24 v1 rfl rfl) h1 (fun y hy => hlt y (by simp [hy]))
  refine (FnExactUniteExpansions_walk W Axs cxs xs Ays cys ys hxs rxs hys rys).mono fun e W' ⟨he, hg⟩ => ?_
  subst he
  exact ⟨_, rfl, law_post laidOut (by rw [Try.params10]; intro t ht; simp only [List.mem_cons, List.not_mem_nil, or_false] at ht; rcases ht with rfl | rfl <;> exact ⟨by kernel_rfl, of_decide_eq_true (by kernel_rfl)⟩) (by kernel_rfl) Try.underlying4 rfl hW' rfl hg⟩

theorem FnExactUniteExpansions_closed : joinedFacts Try.prog 10 Try.f10 Rows.fnExactUniteExpansionsSpec Rows.fnExactUniteExpansionsRow = true := by
  unfold joinedFacts
  rw [mayEnter_eq, lifts_eq, make_eq]
  kernel_rfl

theorem FnExactUniteExpansions_holds : Rows.FnExactUniteExpansionsSaid :=
  OpenClaim.holds_of_wide 10 Try.f10 rfl rfl rfl rfl rfl rfl rfl ⟨rfl, rfl, rfl, rfl, rfl⟩ rfl rfl rfl rfl rfl (by kernel_rfl) Try.func10 FnExactUniteExpansions_closed
    (of_decide_eq_true (by kernel_rfl)) (by unfold Func.isWrapper; first | (rw [if_pos (by decide +kernel)]; kernel_rfl) | (rw [if_neg (by decide +kernel)]; exact ⟨rfl, rfl⟩))
    (fun os started H enc _ => FnExactUniteExpansions_lifted os started H enc)

end Go.Proofs.Ytbjblkfibinenaa
