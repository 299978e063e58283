import Derived.Test.YtbjblkfibinenadGreatDoorPm1
import Derived.Test.YtbjblkfibinenadGreatDoorPk34
import Derived.Test.YtbjblkfibinenadGreatDoorPk32
import Derived.Test.YtbjblkfibinenadGreatDoorPk1
import Derived.Test.YtbjblkfibinenadGreatDoorPm5

/-
  For all bytes: a fraction is drawn; the sizes of its expansions by all methods and the best one are the model's; the program's expansions have those sizes, none that is told is shorter than the best one, and that has the fraction as its sum. The row lists the names of the methods that are compared, as the program's text lays them. No other condition.
-/
namespace Go.Proofs.YtbjblkfibinenadGreatDoor
open Go.ChangeShapes Go.WideShapes Go.ChangeAt Go.RowKit Go.Joins Go.Deep
theorem RetQ.retL {v : Value} {w : World} {e : Ending} {w' : World} (h : RetQ v w e w') : Ret v w e w' := by
  obtain ⟨rfl, k, rfl⟩ := h
  exact ⟨rfl, by (repeat' (first | (with_reducible exact Below.refl _ _) | (with_reducible assumption) | (with_reducible refine Below.drew ?_) | (with_reducible refine belowDrewN ?_ _) | (with_reducible refine Below.alloc ?_ ?_ _) | (with_reducible refine Below.setCell ?_ ?_ _) | (with_reducible refine belowStep (by assumption) ?_ ?_) | (with_reducible exact Below.size (by assumption)) | go_size))⟩
/-- one of the first k is not 0 -/
def anyB (zs : List Int) (k : Nat) : Bool := (zs.take k).any fun z => decide (0 < z)
theorem anyB_next {zs : List Int} {k : Nat} {x : Int} (hx : zs[k]? = some x) : anyB zs (k + 1) = (anyB zs k || decide (0 < x)) := by
  unfold anyB
  rw [List.take_add_one, hx]
  simp
structure MsF (a b : Int) (zs bs : List Int) (tb : Bool) : Prop where
  pro : proB a b = true
  z6 : zs.length = 6
  at_ : ∀ k, k < 6 → zs[k]? = some ((msL k a b).length : Int)
  least : ∀ (k : Nat) (z : Int), zs[k]? = some z → 0 < z → (bs.length : Int) ≤ z
  told : tb = anyB zs 6
  back : tb = true → MsB a b bs
theorem szL_at {a b : Int} {k : Nat} (hk : k < 6) : (szL a b 6)[k]? = some ((msL k a b).length : Int) := by
  rcases (by omega : k = 0 ∨ k = 1 ∨ k = 2 ∨ k = 3 ∨ k = 4 ∨ k = 5) with rfl | rfl | rfl | rfl | rfl | rfl <;> rfl
theorem beO_yes {a b : Int} (hp : proB a b = true) : (beO a b).getD [] = beL a b 6 ∧ (beO a b).isSome = decide (0 < (beL a b 6).length) := by
  by_cases h : 0 < (beL a b 6).length
  · rw [beO_some hp h]; exact ⟨rfl, (decide_eq_true h).symm⟩
  · rw [beO_none h]
    exact ⟨(List.eq_nil_of_length_eq_zero (by omega)).symm, (decide_eq_false h).symm⟩
theorem msF {a b : Int} (h : (szO a b).isSome = true) : MsF a b ((szO a b).getD []) ((beO a b).getD []) (beO a b).isSome := by
  cases hp : proB a b with
  | false => rw [szO_no hp] at h; cases h
  | true =>
    obtain ⟨e1, e2⟩ := beO_yes hp
    rw [szO_yes hp, e1, e2]
    have hl := szL_len a b 6
    have key : decide (0 < (beL a b 6).length) = anyB (szL a b 6) 6 := by
      unfold anyB
      rw [List.take_of_length_le (by omega), Bool.eq_iff_iff, decide_eq_true_iff, List.any_eq_true]
      constructor
      · intro h0
        obtain ⟨j, hj, hm⟩ := beL_some 6 h0
        exact ⟨_, List.mem_of_getElem? (szL_at hj), by simp; omega⟩
      · rintro ⟨z, hz, h0⟩
        obtain ⟨k, hk, e⟩ := List.getElem_of_mem hz
        have hk6 : k < 6 := by rw [hl] at hk; exact hk
        have := szL_at (a := a) (b := b) hk6
        rw [List.getElem?_eq_getElem hk, e] at this
        injection this with this
        rw [decide_eq_true_iff] at h0
        exact (beL_least 6 k hk6 (by omega)).1
    refine ⟨hp, hl, fun k hk => szL_at hk, fun k z hz h0 => ?_, key, fun ht => beL_back hp 6 (of_decide_eq_true ht)⟩
    have hk6 : k < 6 := by
      have := (List.getElem?_eq_some_iff.1 (show (szL a b 6)[k]? = some z from hz)).1
      rw [hl] at this
      exact this
    have := szL_at (a := a) (b := b) hk6
    rw [show (szL a b 6)[k]? = some z from hz] at this
    injection this with this
    have := (beL_least (n := a) (d := b) 6 k hk6 (by omega)).2
    omega
theorem ms_told {k : Nat} {n d : Int} (hp : proB n d = true) : (msO k n d).isSome = decide ((0 : Int) < ((msL k n d).length : Int)) := by
  rw [msL_told hp, Bool.eq_iff_iff, decide_eq_true_iff, decide_eq_true_iff]
  omega
theorem reads_cells {w : World} {A : Option Addr} {zs : List Int} (h : Reads w A zs) (h6 : zs.length = 6) : ∃ b o, A = some ⟨b, o, none⟩ ∧ b < w.heap.size ∧ ∀ (k : Nat) (x : Int), zs[k]? = some x → w.cell? ⟨b, o + k, none⟩ = some (.int .i64 x) := by
  obtain ⟨b, o, e, hb, hc⟩ := h (by omega)
  exact ⟨b, o, e, hb, fun k x hx => hc k x hx⟩
set_option maxRecDepth 100000 in
set_option maxHeartbeats 32000000 in
theorem FnMethodsCompared_walk (w : World) (A : Option Addr) (c n : Nat) (B : Option Addr) (d m' : Nat) (hA : ReadsB w A n ∧ n ≤ 9223372036854775807) (hB : ReadsB w B m' ∧ m' ≤ 9223372036854775807) (hE : EnvM w) :
    Calls Tryz.prog 5 #[.slice A n c, .slice B m' d] w (Ret (.bool true) w) := by
  obtain ⟨hA, hn⟩ := hA
  obtain ⟨hB, hm'⟩ := hB
  have HA := Lib.hid hA
  have HE := Lib.hid hE
  clear hA hB hE
  cases hbig : bigB n m' with
  | true =>
    go_enter Tryz.func5, Tryz.ntmps5
    go_wp2_with fail
    refine (big_any _ _ _ _ _ _ _ hn hm').mono ?_; rintro e w1 ⟨rfl, k1, rfl⟩
    go_wp2
    go_ret
    exact ⟨rfl, by (repeat' (first | (with_reducible exact Below.refl _ _) | (with_reducible assumption) | (with_reducible refine Below.drew ?_) | (with_reducible refine belowDrewN ?_ _) | (with_reducible refine Below.alloc ?_ ?_ _) | (with_reducible refine Below.setCell ?_ ?_ _) | (with_reducible refine belowStep (by assumption) ?_ ?_) | (with_reducible exact Below.size (by assumption)) | go_size))⟩
  | false =>
    have hn2 : n ≤ 1048576 ∧ m' ≤ 1048576 := by
      simp only [bigB, Bool.or_eq_false_iff, decide_eq_false_iff_not] at hbig
      omega
    go_enter Tryz.func5, Tryz.ntmps5
    go_wp2_with fail
    refine (big_any _ _ _ _ _ _ _ hn hm').mono ?_; rintro e w1 ⟨rfl, k1, rfl⟩
    go_wp2_with fail
    refine (drawSizes_any _ A n c (HA.out.below (by (repeat' (first | (with_reducible exact Below.refl _ _) | (with_reducible assumption) | (with_reducible refine Below.drew ?_) | (with_reducible refine belowDrewN ?_ _) | (with_reducible refine Below.alloc ?_ ?_ _) | (with_reducible refine Below.setCell ?_ ?_ _) | (with_reducible refine belowStep (by assumption) ?_ ?_) | (with_reducible exact Below.size (by assumption)) | go_size)))) hn2.1).mono ?_; rintro e w2 ⟨a, b, rfl, ha, hb, hb2⟩
    have hz2 := hb2.size
    (try simp only [World.heap_drewN] at hz2)
    clear hbig
    have TG := Lib.hid (TwoAt.new w2 (a) (b) 27)
    have hl3 := szO_len a b
    have hl5 := beO_len a b
    have HF := Lib.hid fun h => msF (a := a) (b := b) h
    have H3 := Lib.hid fun (w' : World) (h : Below w.heap.size w w') => methodSizes_any a b w' ha hb (HE.out.below h)
    have H4 := Lib.hid fun (w' : World) => spec_methodSizes_any a b w'
    have H5 := Lib.hid fun (w' : World) (h : Below w.heap.size w w') => bestMethod_any a b w' ha hb (HE.out.below h)
    have H6 := Lib.hid fun (w' : World) => spec_bestMethod_any a b w'
    generalize (szO a b).getD [] = zs at *
    generalize (szO a b).isSome = ty at *
    generalize (beO a b).getD [] = bs at *
    generalize (beO a b).isSome = tb at *
    obtain ⟨oG1, oG2, oG3, oG4, oG5⟩ := TG.out
    go_wp2_with fail
    refine (H3.out _ (by (repeat' (first | (with_reducible exact Below.refl _ _) | (with_reducible assumption) | (with_reducible refine Below.drew ?_) | (with_reducible refine belowDrewN ?_ _) | (with_reducible refine Below.alloc ?_ ?_ _) | (with_reducible refine Below.setCell ?_ ?_ _) | (with_reducible refine belowStep (by assumption) ?_ ?_) | (with_reducible exact Below.size (by assumption)) | go_size)))).mono ?_; rintro e w3 ⟨v3, rfl, ho3, hb3⟩; have hz3 := hb3.size; (try simp only [World.size_alloc] at hz3)
    clear oG1 oG2 oG3 oG4 oG5
    have TG := Lib.hid (TG.out.below hb3)
    obtain ⟨A3, c3, rfl, hr3⟩ := ho3.form
    have HR3 := Lib.hid hr3
    have hbw3 : Below w.heap.size w w3 := by (repeat' (first | (with_reducible exact Below.refl _ _) | (with_reducible assumption) | (with_reducible refine Below.drew ?_) | (with_reducible refine belowDrewN ?_ _) | (with_reducible refine Below.alloc ?_ ?_ _) | (with_reducible refine Below.setCell ?_ ?_ _) | (with_reducible refine belowStep (by assumption) ?_ ?_) | (with_reducible exact Below.size (by assumption)) | go_size))
    clear ho3 hr3 H3
    obtain ⟨oG1, oG2, oG3, oG4, oG5⟩ := TG.out
    go_wp2_with fail
    refine (H4.out _).mono ?_; rintro e w4 ⟨A4, c4, rfl, hr4, hb4⟩; have hz4 := hb4.size; (try simp only [World.size_alloc, World.size_setCell, World.size_drew, World.heap_drewN] at hz4)
    clear oG1 oG2 oG3 oG4 oG5
    have TG := Lib.hid (TG.out.below hb4)
    have HR4 := Lib.hid hr4
    have HR3 := Lib.hid (HR3.out.below hb4)
    have hbw4 : Below w.heap.size w w4 := by (repeat' (first | (with_reducible exact Below.refl _ _) | (with_reducible assumption) | (with_reducible refine Below.drew ?_) | (with_reducible refine belowDrewN ?_ _) | (with_reducible refine Below.alloc ?_ ?_ _) | (with_reducible refine Below.setCell ?_ ?_ _) | (with_reducible refine belowStep (by assumption) ?_ ?_) | (with_reducible exact Below.size (by assumption)) | go_size))
    clear hr4 H4
    obtain ⟨oG1, oG2, oG3, oG4, oG5⟩ := TG.out
    go_wp2_with fail
    refine ((pSame_same _ _ _ _ _ _ HR3.out HR4.out (by omega)).mono fun _ _ h => h.retL).mono ?_; rintro e w5 ⟨rfl, hb5⟩
    have hz5 := hb5.size
    clear oG1 oG2 oG3 oG4 oG5
    have TG := Lib.hid (TG.out.below hb5)
    have HR3 := Lib.hid (HR3.out.below hb5)
    have hbw5 : Below w.heap.size w w5 := by (repeat' (first | (with_reducible exact Below.refl _ _) | (with_reducible assumption) | (with_reducible refine Below.drew ?_) | (with_reducible refine belowDrewN ?_ _) | (with_reducible refine Below.alloc ?_ ?_ _) | (with_reducible refine Below.setCell ?_ ?_ _) | (with_reducible refine belowStep (by assumption) ?_ ?_) | (with_reducible exact Below.size (by assumption)) | go_size))
    clear HR4
    obtain ⟨oG1, oG2, oG3, oG4, oG5⟩ := TG.out
    go_wp2_with fail
    refine (H5.out _ (by (repeat' (first | (with_reducible exact Below.refl _ _) | (with_reducible assumption) | (with_reducible refine Below.drew ?_) | (with_reducible refine belowDrewN ?_ _) | (with_reducible refine Below.alloc ?_ ?_ _) | (with_reducible refine Below.setCell ?_ ?_ _) | (with_reducible refine belowStep (by assumption) ?_ ?_) | (with_reducible exact Below.size (by assumption)) | go_size)))).mono ?_; rintro e w6 ⟨v6, rfl, ho6, hb6⟩; have hz6 := hb6.size; (try simp only [World.size_alloc, World.size_setCell, World.size_drew, World.heap_drewN] at hz6)
    clear oG1 oG2 oG3 oG4 oG5
    have TG := Lib.hid (TG.out.below hb6)
    obtain ⟨A6, c6, rfl, hr6⟩ := ho6.form
    have HR6 := Lib.hid hr6
    have HR3 := Lib.hid (HR3.out.below hb6)
    have hbw6 : Below w.heap.size w w6 := by (repeat' (first | (with_reducible exact Below.refl _ _) | (with_reducible assumption) | (with_reducible refine Below.drew ?_) | (with_reducible refine belowDrewN ?_ _) | (with_reducible refine Below.alloc ?_ ?_ _) | (with_reducible refine Below.setCell ?_ ?_ _) | (with_reducible refine belowStep (by assumption) ?_ ?_) | (with_reducible exact Below.size (by assumption)) | go_size))
    clear ho6 hr6 H5
    obtain ⟨oG1, oG2, oG3, oG4, oG5⟩ := TG.out
    go_wp2_with fail
    refine (H6.out _).mono ?_; rintro e w7 ⟨A7, c7, rfl, hr7, hb7⟩; have hz7 := hb7.size; (try simp only [World.size_alloc, World.size_setCell, World.size_drew, World.heap_drewN] at hz7)
    clear oG1 oG2 oG3 oG4 oG5
    have TG := Lib.hid (TG.out.below hb7)
    have HR7 := Lib.hid hr7
    have HR6 := Lib.hid (HR6.out.below hb7)
    have HR3 := Lib.hid (HR3.out.below hb7)
    have hbw7 : Below w.heap.size w w7 := by (repeat' (first | (with_reducible exact Below.refl _ _) | (with_reducible assumption) | (with_reducible refine Below.drew ?_) | (with_reducible refine belowDrewN ?_ _) | (with_reducible refine Below.alloc ?_ ?_ _) | (with_reducible refine Below.setCell ?_ ?_ _) | (with_reducible refine belowStep (by assumption) ?_ ?_) | (with_reducible exact Below.size (by assumption)) | go_size))
    clear hr7 H6
    obtain ⟨oG1, oG2, oG3, oG4, oG5⟩ := TG.out
    go_wp2_with fail
    refine ((pSame_same _ _ _ _ _ _ HR6.out HR7.out (by omega)).mono fun _ _ h => h.retL).mono ?_; rintro e w8 ⟨rfl, hb8⟩
    have hz8 := hb8.size
    clear oG1 oG2 oG3 oG4 oG5
    have TG := Lib.hid (TG.out.below hb8)
    have HR6 := Lib.hid (HR6.out.below hb8)
    have HR3 := Lib.hid (HR3.out.below hb8)
    have hbw8 : Below w.heap.size w w8 := by (repeat' (first | (with_reducible exact Below.refl _ _) | (with_reducible assumption) | (with_reducible refine Below.drew ?_) | (with_reducible refine belowDrewN ?_ _) | (with_reducible refine Below.alloc ?_ ?_ _) | (with_reducible refine Below.setCell ?_ ?_ _) | (with_reducible refine belowStep (by assumption) ?_ ?_) | (with_reducible exact Below.size (by assumption)) | go_size))
    clear HR7
    cases ty with
    | false =>
      obtain ⟨oG1, oG2, oG3, oG4, oG5⟩ := TG.out
      go_wp2
      go_ret
      exact ⟨rfl, by (repeat' (first | (with_reducible exact Below.refl _ _) | (with_reducible assumption) | (with_reducible refine Below.drew ?_) | (with_reducible refine belowDrewN ?_ _) | (with_reducible refine Below.alloc ?_ ?_ _) | (with_reducible refine Below.setCell ?_ ?_ _) | (with_reducible refine belowStep (by assumption) ?_ ?_) | (with_reducible exact Below.size (by assumption)) | go_size))⟩
    | true =>
      have F := Lib.hid (HF.out rfl)
      have hp := F.out.pro
      have h6 := F.out.z6
      have q0 := F.out.at_ 0 (by omega)
      have q1 := F.out.at_ 1 (by omega)
      have q2 := F.out.at_ 2 (by omega)
      have q5 := F.out.at_ 5 (by omega)
      have g0 := msL_len 0 a b
      have g1 := msL_len 1 a b
      have g2 := msL_len 2 a b
      have g5 := msL_len 5 a b
      have HLe := Lib.hid F.out.least
      have HT := Lib.hid F.out.told
      have HB := Lib.hid F.out.back
      have K0 : Hid (∀ w, Calls Tryz.prog 17 #[.agg #[.int .i64 a, .int .i64 b]] w (RetLB (msL 0 a b) (decide ((0 : Int) < ((msL 0 a b).length : Int))) w)) := Lib.hid fun w => by
        have := greedyExp_any a b w ha hb
        rw [show (gexO a b).isSome = decide ((0 : Int) < ((msL 0 a b).length : Int)) from ms_told (k := 0) hp] at this
        exact this
      have K1 : Hid (∀ w, Calls Tryz.prog 18 #[.agg #[.int .i64 a, .int .i64 b]] w (RetLB (msL 1 a b) (decide ((0 : Int) < ((msL 1 a b).length : Int))) w)) := Lib.hid fun w => by
        have := golombExp_any a b w ha hb
        rw [show (gxO a b).isSome = decide ((0 : Int) < ((msL 1 a b).length : Int)) from ms_told (k := 1) hp] at this
        exact this
      have K2 : Hid (∀ w, Calls Tryz.prog 19 #[.agg #[.int .i64 a, .int .i64 b]] w (RetLB (msL 2 a b) (decide ((0 : Int) < ((msL 2 a b).length : Int))) w)) := Lib.hid fun w => by
        have := binaryExp_any a b w ha hb
        rw [show (bxO a b).isSome = decide ((0 : Int) < ((msL 2 a b).length : Int)) from ms_told (k := 2) hp] at this
        exact this
      have K5 : Hid (∀ w, Calls Tryz.prog 20 #[.agg #[.int .i64 a, .int .i64 b]] w (RetLB (msL 5 a b) (decide ((0 : Int) < ((msL 5 a b).length : Int))) w)) := Lib.hid fun w => by
        have := engelTerms_any a b w ha hb
        rw [show (etO a b).isSome = decide ((0 : Int) < ((msL 5 a b).length : Int)) from ms_told (k := 5) hp] at this
        exact this
      clear hp F HF
      generalize msL 0 a b = l0 at *
      generalize msL 1 a b = l1 at *
      generalize msL 2 a b = l2 at *
      generalize msL 5 a b = l5 at *
      have Q : Hid (zs[0]? = some (l0.length : Int) ∧ zs[1]? = some (l1.length : Int) ∧ zs[2]? = some (l2.length : Int) ∧ zs[5]? = some (l5.length : Int)) := Lib.hid ⟨q0, q1, q2, q5⟩
      clear q0 q1 q2 q5
      obtain ⟨oG1, oG2, oG3, oG4, oG5⟩ := TG.out
      go_wp2_with fail
      refine (K0.out _).mono ?_; rintro e w9 ⟨v9, rfl, ho9, hb9⟩; have hz9 := hb9.size; (try simp only [World.size_alloc, World.size_setCell, World.size_drew, World.heap_drewN] at hz9)
      clear oG1 oG2 oG3 oG4 oG5
      have TG := Lib.hid (TG.out.below hb9)
      obtain ⟨A9, c9, rfl, -⟩ := ho9.form
      clear ho9
      have hbw9 : Below w.heap.size w w9 := by (repeat' (first | (with_reducible exact Below.refl _ _) | (with_reducible assumption) | (with_reducible refine Below.drew ?_) | (with_reducible refine belowDrewN ?_ _) | (with_reducible refine Below.alloc ?_ ?_ _) | (with_reducible refine Below.setCell ?_ ?_ _) | (with_reducible refine belowStep (by assumption) ?_ ?_) | (with_reducible exact Below.size (by assumption)) | go_size))
      have HR6 := Lib.hid (HR6.out.below hb9)
      have HR3 := Lib.hid (HR3.out.below hb9)
      obtain ⟨oG1, oG2, oG3, oG4, oG5⟩ := TG.out
      go_wp2_with fail
      refine (K1.out _).mono ?_; rintro e w10 ⟨v10, rfl, ho10, hb10⟩; have hz10 := hb10.size; (try simp only [World.size_alloc, World.size_setCell, World.size_drew, World.heap_drewN] at hz10)
      clear oG1 oG2 oG3 oG4 oG5
      have TG := Lib.hid (TG.out.below hb10)
      obtain ⟨A10, c10, rfl, -⟩ := ho10.form
      clear ho10
      have hbw10 : Below w.heap.size w w10 := by (repeat' (first | (with_reducible exact Below.refl _ _) | (with_reducible assumption) | (with_reducible refine Below.drew ?_) | (with_reducible refine belowDrewN ?_ _) | (with_reducible refine Below.alloc ?_ ?_ _) | (with_reducible refine Below.setCell ?_ ?_ _) | (with_reducible refine belowStep (by assumption) ?_ ?_) | (with_reducible exact Below.size (by assumption)) | go_size))
      have HR6 := Lib.hid (HR6.out.below hb10)
      have HR3 := Lib.hid (HR3.out.below hb10)
      obtain ⟨oG1, oG2, oG3, oG4, oG5⟩ := TG.out
      go_wp2_with fail
      refine (K2.out _).mono ?_; rintro e w11 ⟨v11, rfl, ho11, hb11⟩; have hz11 := hb11.size; (try simp only [World.size_alloc, World.size_setCell, World.size_drew, World.heap_drewN] at hz11)
      clear oG1 oG2 oG3 oG4 oG5
      have TG := Lib.hid (TG.out.below hb11)
      obtain ⟨A11, c11, rfl, -⟩ := ho11.form
      clear ho11
      have hbw11 : Below w.heap.size w w11 := by (repeat' (first | (with_reducible exact Below.refl _ _) | (with_reducible assumption) | (with_reducible refine Below.drew ?_) | (with_reducible refine belowDrewN ?_ _) | (with_reducible refine Below.alloc ?_ ?_ _) | (with_reducible refine Below.setCell ?_ ?_ _) | (with_reducible refine belowStep (by assumption) ?_ ?_) | (with_reducible exact Below.size (by assumption)) | go_size))
      have HR6 := Lib.hid (HR6.out.below hb11)
      have HR3 := Lib.hid (HR3.out.below hb11)
      obtain ⟨oG1, oG2, oG3, oG4, oG5⟩ := TG.out
      go_wp2_with fail
      refine (K5.out _).mono ?_; rintro e w12 ⟨v12, rfl, ho12, hb12⟩; have hz12 := hb12.size; (try simp only [World.size_alloc, World.size_setCell, World.size_drew, World.heap_drewN] at hz12)
      clear oG1 oG2 oG3 oG4 oG5
      have TG := Lib.hid (TG.out.below hb12)
      obtain ⟨A12, c12, rfl, -⟩ := ho12.form
      clear ho12
      have hbw12 : Below w.heap.size w w12 := by (repeat' (first | (with_reducible exact Below.refl _ _) | (with_reducible assumption) | (with_reducible refine Below.drew ?_) | (with_reducible refine belowDrewN ?_ _) | (with_reducible refine Below.alloc ?_ ?_ _) | (with_reducible refine Below.setCell ?_ ?_ _) | (with_reducible refine belowStep (by assumption) ?_ ?_) | (with_reducible exact Below.size (by assumption)) | go_size))
      have HR6 := Lib.hid (HR6.out.below hb12)
      have HR3 := Lib.hid (HR3.out.below hb12)
      clear K0 K1 K2 K5 hb2 hb3 hb4 hb5 hb6 hb7 hb8 hb9 hb10 hb11 hb12
      obtain ⟨bb, oo, rfl, hbb, hcc⟩ := reads_cells HR3.out h6
      have HC := Lib.hid hcc
      have i0 := hcc 0 _ Q.out.1
      have i1 := hcc 1 _ Q.out.2.1
      have i2 := hcc 2 _ Q.out.2.2.1
      have i5 := hcc 5 _ Q.out.2.2.2
      rw [Nat.add_zero] at i0
      clear hcc
      obtain ⟨oG1, oG2, oG3, oG4, oG5⟩ := TG.out
      go_wp2
      clear oG1 oG2 oG3 oG4 oG5
      clear i0 i1 i2 i5
      go_loopw [22, 154] (fun v22 v154 wr => ∃ k : Nat, k ≤ 6 ∧ v22 = .bool (anyB zs k) ∧ v154 = .int .i64 (k : Int) ∧ Below w12.heap.size w12 wr) (fun _ v154 _ => 6 - (intOf v154).toNat)
      case atStart => exact ⟨0, by omega, rfl, rfl, Below.refl _ _⟩
      case round =>
        obtain ⟨k, hk, rfl, rfl, hbr⟩ := hrel
        have hzr := hbr.size
        by_cases hlt : k < 6
        · obtain ⟨x, hx⟩ : ∃ x, zs[k]? = some x := ⟨_, List.getElem?_eq_getElem (by omega)⟩
          have hlt' : (k : Int) < 6 := by omega
          have HN := Lib.hid (anyB_next hx)
          have hcell := (hbr.cell (p := ⟨bb, oo + k, none⟩) hbb).trans (HC.out k x hx)
          have hle := HLe.out k x hx
          clear hx
          by_cases h0 : 0 < x
          · have hno : decide (x < (bs.length : Int)) = false := decide_eq_false (by have := hle h0; omega)
            have hno' : ¬ x < (bs.length : Int) := by have := hle h0; omega
            clear hle
            cases hs : anyB zs k with
            | true =>
              go_wp2_with fail
              (try go_quiet (fail))
              (try go_wp2)
              go_roundw
              case rel => exact ⟨k + 1, by omega, by rw [HN.out, hs]; rfl, by go_num, by (repeat' (first | (with_reducible exact Below.refl _ _) | (with_reducible assumption) | (with_reducible refine Below.drew ?_) | (with_reducible refine belowDrewN ?_ _) | (with_reducible refine Below.alloc ?_ ?_ _) | (with_reducible refine Below.setCell ?_ ?_ _) | (with_reducible refine belowStep (by assumption) ?_ ?_) | (with_reducible exact Below.size (by assumption)) | go_size))⟩
              case measure => simp [intOf]; omega
            | false =>
              go_wp2_with fail
              (try go_quiet (fail))
              (try go_wp2)
              go_roundw
              case rel => exact ⟨k + 1, by omega, by rw [HN.out, hs, decide_eq_true h0]; rfl, by go_num, by (repeat' (first | (with_reducible exact Below.refl _ _) | (with_reducible assumption) | (with_reducible refine Below.drew ?_) | (with_reducible refine belowDrewN ?_ _) | (with_reducible refine Below.alloc ?_ ?_ _) | (with_reducible refine Below.setCell ?_ ?_ _) | (with_reducible refine belowStep (by assumption) ?_ ?_) | (with_reducible exact Below.size (by assumption)) | go_size))⟩
              case measure => simp [intOf]; omega
          · clear hle
            cases hs : anyB zs k with
            | true =>
              go_wp2_with fail
              (try go_quiet (fail))
              (try go_wp2)
              go_roundw
              case rel => exact ⟨k + 1, by omega, by rw [HN.out, hs]; rfl, by go_num, by (repeat' (first | (with_reducible exact Below.refl _ _) | (with_reducible assumption) | (with_reducible refine Below.drew ?_) | (with_reducible refine belowDrewN ?_ _) | (with_reducible refine Below.alloc ?_ ?_ _) | (with_reducible refine Below.setCell ?_ ?_ _) | (with_reducible refine belowStep (by assumption) ?_ ?_) | (with_reducible exact Below.size (by assumption)) | go_size))⟩
              case measure => simp [intOf]; omega
            | false =>
              go_wp2_with fail
              (try go_quiet (fail))
              (try go_wp2)
              go_roundw
              case rel => exact ⟨k + 1, by omega, by rw [HN.out, hs, decide_eq_false h0]; rfl, by go_num, by (repeat' (first | (with_reducible exact Below.refl _ _) | (with_reducible assumption) | (with_reducible refine Below.drew ?_) | (with_reducible refine belowDrewN ?_ _) | (with_reducible refine Below.alloc ?_ ?_ _) | (with_reducible refine Below.setCell ?_ ?_ _) | (with_reducible refine belowStep (by assumption) ?_ ?_) | (with_reducible exact Below.size (by assumption)) | go_size))⟩
              case measure => simp [intOf]; omega
        · obtain rfl : k = 6 := by omega
          rw [← HT.out]
          have hbwr : Below w.heap.size w wr := hbw12.trans (hbr.mono (by have := hbw12.size; omega))
          cases tb with
          | false =>
            go_wp2
            go_ret
            exact ⟨rfl, by (repeat' (first | (with_reducible exact Below.refl _ _) | (with_reducible assumption) | (with_reducible refine Below.drew ?_) | (with_reducible refine belowDrewN ?_ _) | (with_reducible refine Below.alloc ?_ ?_ _) | (with_reducible refine Below.setCell ?_ ?_ _) | (with_reducible refine belowStep (by assumption) ?_ ?_) | (with_reducible exact Below.size (by assumption)) | go_size))⟩
          | true =>
            have M := Lib.hid (HB.out rfl)
            have HR := Lib.hid (HR6.out.below hbr)
            have TG := Lib.hid (TG.out.below hbr)
            have HPS := Lib.hid (pSums_yes wr a b A6 c6 bs HR.out (by have := M.out.l24; omega) M.out.x64 M.out.exp M.out.sum.1 M.out.sum.2)
            obtain ⟨oG1, oG2, oG3, oG4, oG5⟩ := TG.out
            go_wp2_with fail
            refine (HPS.out).mono ?_; rintro e w13 ⟨rfl, hb13⟩; have hz13 := hb13.size; (try simp only [World.size_alloc, World.size_setCell, World.size_drew, World.heap_drewN] at hz13)
            clear oG1 oG2 oG3 oG4 oG5
            go_wp2
            go_ret
            exact ⟨rfl, by (repeat' (first | (with_reducible exact Below.refl _ _) | (with_reducible assumption) | (with_reducible refine Below.drew ?_) | (with_reducible refine belowDrewN ?_ _) | (with_reducible refine Below.alloc ?_ ?_ _) | (with_reducible refine Below.setCell ?_ ?_ _) | (with_reducible refine belowStep (by assumption) ?_ ?_) | (with_reducible exact Below.size (by assumption)) | go_size))⟩

theorem FnMethodsCompared_door (os : Os) (args : Array Value) : laidMetH Tryz.prog Rows.fnMethodsComparedRow.laid ((World.doorLaid Tryz.prog 400 os).forCall (fun _ _ => 0) ⟨#[], args, []⟩).memory :=
  laidMetH_of_parts3 (fuel := 8) (laidMet_of_run' 8 (by kernel_rfl) (by kernel_rfl)) (by kernel_rfl) (by kernel_rfl)
set_option maxRecDepth 100000 in
theorem FnMethodsCompared_lifted (os : Os) (started : os.Started) (H : Type) (enc : TypeId × Value → H) :
    ReturnsInHanded {} Tryz.checked os 5 .any (fun w args => (Rows.fnMethodsComparedSpec.pre enc Tryz.prog Tryz.f5 Rows.fnMethodsComparedRow.domain false w args ∧ laidMetH Tryz.prog Rows.fnMethodsComparedRow.laid w) ∧ sizedMet enc Tryz.prog Tryz.f5 (OpenSpec.ofChange Rows.fnMethodsComparedSpec) false w args)
      (Rows.fnMethodsComparedSpec.post enc Tryz.prog Tryz.f5 false true false false) := by
  refine returnsInHanded_of_change_and (C := Tryz.checked) (X := fun w _ => laidMetH Tryz.prog Rows.fnMethodsComparedRow.laid w) (fun _ _ _ hh h => h.of_heap hh) own started (by kernel_rfl) Tryz.func5
    (ChangeSpec.witness_shaped (enc := enc) (C := Tryz.checked) (os := os) (X := fun w _ => laidMetH Tryz.prog Rows.fnMethodsComparedRow.laid w) false (World.doorLaid Tryz.prog 400 os) #[.slice none 0 0, .slice none 0 0] 8 rfl (World.shaped_of_RefB (by kernel_rfl) (by kernel_rfl)) (by kernel_rfl) (by kernel_rfl) (by kernel_rfl) (FnMethodsCompared_door os _)) ?_
  intro W base args ds gs before hval0 hW hcnd _ hL _
  have hval : ∀ (j : Nat) t v, Tryz.f5.params[j]? = some t → args[j]? = some v → Value.okWide Tryz.prog W .any base t v := hval0
  have hW' := hW
  have hlt : ∀ p ∈ before, p.block < W.heap.size := fun p hp => hW'.lt p hp
  obtain ⟨p, q, hA0, hV, rfl, hfz, hnd⟩ := hW
  have hA : DataW.TrodAll enc Tryz.prog W 0 (fun _ => true) true Tryz.f5.params.toList args.toList ds p := hA0
  rw [Tryz.params5] at hA hval
  obtain ⟨v0, vs0, d0, ds0, p0, q0, hargs, rfl, rfl, h0, r0⟩ := trodAll_cons hA
  obtain ⟨v1, vs1, d1, ds1, p1, q1, rfl, rfl, rfl, h1, r1⟩ := trodAll_cons r0
  obtain ⟨rfl, rfl, rfl⟩ := trodAll_nil r1
  obtain rfl : args = #[v0, v1] := by cases args; simp_all
  obtain ⟨gx, tx, csx, fuelx, g1, pvx, rfl, -, -, -, -, -⟩ := trodVars_one hV
  obtain ⟨Aa, ca, na, rfl, ha⟩ := open_bytes_reads Tryz.underlying32 Tryz.underlying5 (by kernel_rfl) (hval 0 32 v0 rfl rfl) h0 (fun y hy => hlt y (by simp [hy]))
  obtain ⟨Ab, cb, nb, rfl, hb⟩ := open_bytes_reads Tryz.underlying32 Tryz.underlying5 (by kernel_rfl) (hval 1 32 v1 rfl rfl) h1 (fun y hy => hlt y (by simp [hy]))
  rw [MakeChecks.laidMetH_plain _ _ _ (by kernel_rfl)] at hL
  have hM : laidMet Tryz.prog Rows.fnMethodsComparedRow.laid W := hL
  have hE := EnvM.of_laid (hM)
  refine (FnMethodsCompared_walk W Aa ca na Ab cb nb ha hb hE).mono fun e W' ⟨he, hg⟩ => ?_
  subst he
  exact ⟨_, rfl, law_post1 laidOut (by rw [Tryz.params5]; intro t ht; simp only [List.mem_cons, List.not_mem_nil, or_false] at ht; rcases ht with rfl | rfl <;> exact ⟨by kernel_rfl, of_decide_eq_true (by kernel_rfl)⟩) (by kernel_rfl) Tryz.underlying4 rfl gCmp (show (Tryz.prog.globals[0]?).map (·.type) = some 39 by kernel_rfl) Tryz.underlying39 Tryz.underlying9 hE.2 hW' rfl hg⟩

theorem FnMethodsCompared_closed : joinedFacts Tryz.prog 5 Tryz.f5 Rows.fnMethodsComparedSpec Rows.fnMethodsComparedRow = true := by
  unfold joinedFacts
  rw [mayEnter_eq, lifts_eq, make_eq]
  kernel_rfl

theorem FnMethodsCompared_holds : Rows.FnMethodsComparedSaid :=
  OpenClaim.holds_of_wide 5 Tryz.f5 rfl rfl rfl rfl rfl rfl rfl ⟨rfl, rfl, rfl, rfl, rfl⟩ rfl rfl rfl rfl rfl (by kernel_rfl) Tryz.func5 FnMethodsCompared_closed
    (of_decide_eq_true (by kernel_rfl)) (by unfold Func.isWrapper; first | (rw [if_pos (by decide +kernel)]; kernel_rfl) | (rw [if_neg (by decide +kernel)]; exact ⟨rfl, rfl⟩))
    (fun os started H enc _ => FnMethodsCompared_lifted os started H enc)

/-- the tied card -/
theorem FnMethodsCompared_card : Rows.FnMethodsComparedCardSaid :=
  Claim7.holds_tied_plain_at .later [] [.data] true (true, "2551a651bee44b1d95af4fe2fdd76ad269e71ec2ccc50f0a3ab06bf29e8e71e8") false
    FnMethodsCompared_holds (fun _ h => by cases h) (by kernel_rfl) (fun _ h => by cases h) fnMethodsCompared_row_tie rfl ⟨rfl, rfl⟩ (by kernel_rfl) rfl
    (fun f fn hf hfn => by
      obtain rfl : f = 5 := Option.some.inj ((show Tryz.prog.funcNamed "loop.example/g01107/laws.FnMethodsCompared" = some 5 by kernel_rfl).symm.trans hf) |>.symm
      obtain rfl : fn = Tryz.f5 := (Option.some.inj (Tryz.func5.symm.trans hfn)).symm
      exact ⟨by kernel_rfl, fun j t ht => by
        rw [Tryz.params5] at ht
        have hm : t ∈ [32, 32] := by simpa using Array.mem_of_getElem? ht
        have hall : ([32, 32].all fun u => !Tryz.prog.wantsStandIn u) = true := by kernel_rfl
        exact (show Tryz.prog.wantsStandIn t = false by simpa using List.all_eq_true.1 hall t hm)⟩)
    (by kernel_rfl)

end Go.Proofs.YtbjblkfibinenadGreatDoor
