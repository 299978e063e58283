
/-
  For all bytes: a fraction and a list are drawn; the Engel list of the fraction is the model's and gives the fraction back, a drawn Engel list is got back from its fraction, and the products of the fraction's list are an expansion of it. No condition.
-/
import Derived.Test.YtbjblkfibinenabLawK
import Derived.Test.YtbjblkfibinenabDrawP
import Derived.Test.YtbjblkfibinenabShell
import Derived.Test.YtbjblkfibinenabEngL
namespace Go.Proofs.Ytbjblkfibinenab
open Go.ChangeShapes Go.WideShapes Go.ChangeAt Go.RowKit Go.Joins Go.Deep
theorem RetQ.retL {v : Value} {w : World} {e : Ending} {w' : World} (h : RetQ v w e w') : Ret v w e w' := by
  obtain ⟨rfl, k, rfl⟩ := h
  exact ⟨rfl, by (repeat' (first | (with_reducible exact Below.refl _ _) | (with_reducible assumption) | (with_reducible refine Below.drew ?_) | (with_reducible refine belowDrewN ?_ _) | (with_reducible refine Below.alloc ?_ ?_ _) | (with_reducible refine Below.setCell ?_ ?_ _) | (with_reducible refine belowStep (by assumption) ?_ ?_) | (with_reducible exact Below.size (by assumption)) | go_size))⟩
set_option maxRecDepth 100000 in
set_option maxHeartbeats 32000000 in
theorem FnEngelLists_walk (w : World) (A : Option Addr) (c n : Nat) (B : Option Addr) (d m' : Nat) (hA : ReadsB w A n ∧ n ≤ 9223372036854775807) (hB : ReadsB w B m' ∧ m' ≤ 9223372036854775807) :
    Calls Try.prog 8 #[.slice A n c, .slice B m' d] w (Ret (.bool true) w) := by
  obtain ⟨hA, hn⟩ := hA
  obtain ⟨hB, hm'⟩ := hB
  have HA := Lib.hid hA
  have HB := Lib.hid hB
  clear hA hB
  cases hbig : bigB n m' with
  | true =>
    go_enter Try.func8, Try.ntmps8
    go_wp2_with fail
    refine (big_any _ _ _ _ _ _ _ hn hm').mono ?_; rintro e w1 ⟨rfl, k1, rfl⟩
    go_wp2
    go_ret
    exact ⟨rfl, by (repeat' (first | (with_reducible exact Below.refl _ _) | (with_reducible assumption) | (with_reducible refine Below.drew ?_) | (with_reducible refine belowDrewN ?_ _) | (with_reducible refine Below.alloc ?_ ?_ _) | (with_reducible refine Below.setCell ?_ ?_ _) | (with_reducible refine belowStep (by assumption) ?_ ?_) | (with_reducible exact Below.size (by assumption)) | go_size))⟩
  | false =>
    have hn2 : n ≤ 1048576 ∧ m' ≤ 1048576 := by
      simp only [bigB, Bool.or_eq_false_iff, decide_eq_false_iff_not] at hbig
      omega
    go_enter Try.func8, Try.ntmps8
    go_wp2_with fail
    refine (big_any _ _ _ _ _ _ _ hn hm').mono ?_; rintro e w1 ⟨rfl, k1, rfl⟩
    go_wp2_with fail
    refine (drawEngelOf_any _ A n c (HA.out.below (by (repeat' (first | (with_reducible exact Below.refl _ _) | (with_reducible assumption) | (with_reducible refine Below.drew ?_) | (with_reducible refine belowDrewN ?_ _) | (with_reducible refine Below.alloc ?_ ?_ _) | (with_reducible refine Below.setCell ?_ ?_ _) | (with_reducible refine belowStep (by assumption) ?_ ?_) | (with_reducible exact Below.size (by assumption)) | go_size)))) hn2.1).mono ?_; rintro e w2 ⟨a, b, rfl, ha, hb, hb2⟩
    have hz2 := hb2.size
    (try simp only [World.heap_drewN] at hz2)
    clear hbig
    have TG := Lib.hid (TwoAt.new w2 (a) (b) 27)
    obtain ⟨oG1, oG2, oG3, oG4, oG5⟩ := TG.out
    go_wp2_with fail
    refine (engelOf_any a b _ ha hb).mono ?_; rintro e w5 ⟨v5, rfl, ho5, hb5⟩; have hz5 := hb5.size; (try simp only [World.size_alloc] at hz5)
    clear oG1 oG2 oG3 oG4 oG5
    have TG := Lib.hid (TG.out.below hb5)
    obtain ⟨A5, c5, rfl, hr5⟩ := ho5.form
    have HR5 := Lib.hid hr5
    clear ho5 hr5
    obtain ⟨oG1, oG2, oG3, oG4, oG5⟩ := TG.out
    go_wp2_with fail
    refine (spec_engelOf_any a b _).mono ?_; rintro e w6 ⟨A6, c6, rfl, hr6, hb6⟩; have hz6 := hb6.size; (try simp only [World.size_alloc, World.size_setCell, World.size_drew, World.heap_drewN] at hz6)
    clear oG1 oG2 oG3 oG4 oG5
    have TG := Lib.hid (TG.out.below hb6)
    have HR6 := Lib.hid hr6
    have HR5 := Lib.hid (HR5.out.below hb6)
    have hxl := engO_len a b
    clear hr6
    obtain ⟨oG1, oG2, oG3, oG4, oG5⟩ := TG.out
    go_wp2_with fail
    refine ((pSame_same _ _ _ _ _ _ HR5.out HR6.out (by omega)).mono fun _ _ h => h.retL).mono ?_; rintro e w7 ⟨rfl, hb7⟩
    have hz7 := hb7.size
    clear oG1 oG2 oG3 oG4 oG5
    have TG := Lib.hid (TG.out.below hb7)
    have HR7 := Lib.hid (HR5.out.below hb7)
    have hbw7 : Below w.heap.size w w7 := by (repeat' (first | (with_reducible exact Below.refl _ _) | (with_reducible assumption) | (with_reducible refine Below.drew ?_) | (with_reducible refine belowDrewN ?_ _) | (with_reducible refine Below.alloc ?_ ?_ _) | (with_reducible refine Below.setCell ?_ ?_ _) | (with_reducible refine belowStep (by assumption) ?_ ?_) | (with_reducible exact Below.size (by assumption)) | go_size))
    clear HR6 HR5
    obtain ⟨oG1, oG2, oG3, oG4, oG5⟩ := TG.out
    go_wp2_with fail
    refine (drawFromEngel_any _ B m' d ((HB.out.below hbw7).below (by (repeat' (first | (with_reducible exact Below.refl _ _) | (with_reducible assumption) | (with_reducible refine Below.drew ?_) | (with_reducible refine belowDrewN ?_ _) | (with_reducible refine Below.alloc ?_ ?_ _) | (with_reducible refine Below.setCell ?_ ?_ _) | (with_reducible refine belowStep (by assumption) ?_ ?_) | (with_reducible exact Below.size (by assumption)) | go_size)))) hn2.2).mono ?_; rintro e w8 ⟨v8, zs, rfl, ho8, hl8, h64, hb8⟩
    have hz8 := hb8.size
    (try simp only [World.size_alloc, World.heap_drewN] at hz8)
    clear oG1 oG2 oG3 oG4 oG5
    have TG := Lib.hid (TG.out.below hb8)
    obtain ⟨A8, c8, rfl, hr8⟩ := ho8.form
    have HZ := Lib.hid hr8
    have Z64 := Lib.hid (In64.of_mem h64)
    have HR8 := Lib.hid (HR7.out.below hb8)
    have hzl : zs.length ≤ 1048576 := by omega
    clear ho8 hr8 h64 HR7
    obtain ⟨oG1, oG2, oG3, oG4, oG5⟩ := TG.out
    go_wp2_with fail
    refine (fromEngel_any _ _ _ _ HZ.out hzl Z64.out).mono ?_; rintro e w9 ⟨rfl, hb9⟩; have hz9 := hb9.size; (try simp only [World.size_alloc, World.size_setCell, World.size_drew, World.heap_drewN] at hz9)
    clear oG1 oG2 oG3 oG4 oG5
    have TG := Lib.hid (TG.out.below hb9)
    have HZ := Lib.hid (HZ.out.below hb9)
    have HR9 := Lib.hid (HR8.out.below hb9)
    clear HR8
    have TH := Lib.hid (TwoAt.new w9 (engN zs) (engD zs) 27)
    have TG := Lib.hid (TG.out.below ((Below.refl _ _).alloc (Nat.le_refl _) (.cells #[.int .i64 (engN zs), .int .i64 (engD zs)] 27)))
    go_wp2_with fail
    refine (spec_fromEngel_any _ _ _ _ (HZ.out.below (by (repeat' (first | (with_reducible exact Below.refl _ _) | (with_reducible assumption) | (with_reducible refine Below.drew ?_) | (with_reducible refine belowDrewN ?_ _) | (with_reducible refine Below.alloc ?_ ?_ _) | (with_reducible refine Below.setCell ?_ ?_ _) | (with_reducible refine belowStep (by assumption) ?_ ?_) | (with_reducible exact Below.size (by assumption)) | go_size)))) hzl).mono ?_; rintro e w10 ⟨rfl, hb10⟩; have hz10 := hb10.size; (try simp only [World.size_alloc] at hz10)
    have TG := Lib.hid (TG.out.below hb10)
    have TH := Lib.hid (TH.out.below hb10)
    have HZ := Lib.hid (HZ.out.below (w' := w10) (by (repeat' (first | (with_reducible exact Below.refl _ _) | (with_reducible assumption) | (with_reducible refine Below.drew ?_) | (with_reducible refine belowDrewN ?_ _) | (with_reducible refine Below.alloc ?_ ?_ _) | (with_reducible refine Below.setCell ?_ ?_ _) | (with_reducible refine belowStep (by assumption) ?_ ?_) | (with_reducible exact Below.size (by assumption)) | go_size))))
    have HR10 := Lib.hid (HR9.out.below (w' := w10) (by (repeat' (first | (with_reducible exact Below.refl _ _) | (with_reducible assumption) | (with_reducible refine Below.drew ?_) | (with_reducible refine belowDrewN ?_ _) | (with_reducible refine Below.alloc ?_ ?_ _) | (with_reducible refine Below.setCell ?_ ?_ _) | (with_reducible refine belowStep (by assumption) ?_ ?_) | (with_reducible exact Below.size (by assumption)) | go_size))))
    clear HR9
    have TI := Lib.hid (TwoAt.new w10 (engN zs) (engD zs) 27)
    have TG := Lib.hid (TG.out.below ((Below.refl _ _).alloc (Nat.le_refl _) (.cells #[.int .i64 (engN zs), .int .i64 (engD zs)] 27)))
    have TH := Lib.hid (TH.out.below ((Below.refl _ _).alloc (Nat.le_refl _) (.cells #[.int .i64 (engN zs), .int .i64 (engD zs)] 27)))
    go_wp2_with fail
    refine (isEngel_any _ _ _ _ (HZ.out.below (by (repeat' (first | (with_reducible exact Below.refl _ _) | (with_reducible assumption) | (with_reducible refine Below.drew ?_) | (with_reducible refine belowDrewN ?_ _) | (with_reducible refine Below.alloc ?_ ?_ _) | (with_reducible refine Below.setCell ?_ ?_ _) | (with_reducible refine belowStep (by assumption) ?_ ?_) | (with_reducible exact Below.size (by assumption)) | go_size)))) hzl Z64.out).mono ?_; rintro e w11 ⟨rfl, hb11⟩; have hz11 := hb11.size; (try simp only [World.size_alloc] at hz11)
    have TG := Lib.hid (TG.out.below hb11)
    have TH := Lib.hid (TH.out.below hb11)
    have TI := Lib.hid (TI.out.below hb11)
    have HZ := Lib.hid (HZ.out.below (w' := w11) (by (repeat' (first | (with_reducible exact Below.refl _ _) | (with_reducible assumption) | (with_reducible refine Below.drew ?_) | (with_reducible refine belowDrewN ?_ _) | (with_reducible refine Below.alloc ?_ ?_ _) | (with_reducible refine Below.setCell ?_ ?_ _) | (with_reducible refine belowStep (by assumption) ?_ ?_) | (with_reducible exact Below.size (by assumption)) | go_size))))
    have HR11 := Lib.hid (HR10.out.below (w' := w11) (by (repeat' (first | (with_reducible exact Below.refl _ _) | (with_reducible assumption) | (with_reducible refine Below.drew ?_) | (with_reducible refine belowDrewN ?_ _) | (with_reducible refine Below.alloc ?_ ?_ _) | (with_reducible refine Below.setCell ?_ ?_ _) | (with_reducible refine belowStep (by assumption) ?_ ?_) | (with_reducible exact Below.size (by assumption)) | go_size))))
    have hbw11 : Below w.heap.size w w11 := by (repeat' (first | (with_reducible exact Below.refl _ _) | (with_reducible assumption) | (with_reducible refine Below.drew ?_) | (with_reducible refine belowDrewN ?_ _) | (with_reducible refine Below.alloc ?_ ?_ _) | (with_reducible refine Below.setCell ?_ ?_ _) | (with_reducible refine belowStep (by assumption) ?_ ?_) | (with_reducible exact Below.size (by assumption)) | go_size))
    clear HR10
    obtain ⟨oH1, oH2, oH3, oH4, oH5⟩ := TH.out
    obtain ⟨oI1, oI2, oI3, oI4, oI5⟩ := TI.out
    have hne : w9.heap.size ≠ w10.heap.size := by omega
    cases hz : engB zs with
    | false =>
      cases hE : engO a b with
      | none =>
        clear hE
        go_wp2
        go_ret
        exact ⟨rfl, by (repeat' (first | (with_reducible exact Below.refl _ _) | (with_reducible assumption) | (with_reducible refine Below.drew ?_) | (with_reducible refine belowDrewN ?_ _) | (with_reducible refine Below.alloc ?_ ?_ _) | (with_reducible refine Below.setCell ?_ ?_ _) | (with_reducible refine belowStep (by assumption) ?_ ?_) | (with_reducible exact Below.size (by assumption)) | go_size))⟩
      | some xs =>
        obtain ⟨ps, L⟩ := engO_back hE
        have E := Lib.hid hE
        have L0 := Lib.hid L
        have HR := HR11
        rw [E.out] at HR
        have HR := Lib.hid (show Reads w11 A5 xs from HR.out)
        simp only [Option.getD_some, Option.isSome_some]
        have hx24 := L.l24
        have hfew := L.few
        have hpl1 : ps.length ≤ xs.length := by have := L.len; omega
        have hpl2 : xs.length ≤ ps.length := by have := L.len; omega
        clear hE L hxl
        go_wp2_with fail
        refine (fromEngel_any _ A5 c5 xs HR.out (by omega) L0.out.x64).mono ?_; rintro e w20 ⟨rfl, hb20⟩; have hz20 := hb20.size; (try simp only [World.size_alloc, World.size_setCell, World.size_drew, World.heap_drewN] at hz20)
        rw [L0.out.back.1, L0.out.back.2.1, L0.out.back.2.2]
        have TG := Lib.hid (TG.out.below hb20)
        have TJ := Lib.hid (TwoAt.new w20 (a) (b) 27)
        have TG := Lib.hid (TG.out.below ((Below.refl _ _).alloc (Nat.le_refl _) (.cells #[.int .i64 (a), .int .i64 (b)] 27)))
        have HR := Lib.hid (HR.out.below (w' := w20) (by (repeat' (first | (with_reducible exact Below.refl _ _) | (with_reducible assumption) | (with_reducible refine Below.drew ?_) | (with_reducible refine belowDrewN ?_ _) | (with_reducible refine Below.alloc ?_ ?_ _) | (with_reducible refine Below.setCell ?_ ?_ _) | (with_reducible refine belowStep (by assumption) ?_ ?_) | (with_reducible exact Below.size (by assumption)) | go_size))))
        obtain ⟨oG1, oG2, oG3, oG4, oG5⟩ := TG.out
        go_wp2_with fail
        refine (engelTerms_any a b _ ha hb).mono ?_; rintro e w21 ⟨v21, rfl, ho21, hb21⟩; have hz21 := hb21.size; (try simp only [World.size_alloc] at hz21)
        rw [L0.out.terms] at ho21 ⊢
        obtain ⟨A21, c21, rfl, hr21⟩ := (show OwnI w21 _ v21 ps from ho21).form
        have HP := Lib.hid hr21
        have HR := Lib.hid (HR.out.below (w' := w21) (by (repeat' (first | (with_reducible exact Below.refl _ _) | (with_reducible assumption) | (with_reducible refine Below.drew ?_) | (with_reducible refine belowDrewN ?_ _) | (with_reducible refine Below.alloc ?_ ?_ _) | (with_reducible refine Below.setCell ?_ ?_ _) | (with_reducible refine belowStep (by assumption) ?_ ?_) | (with_reducible exact Below.size (by assumption)) | go_size))))
        clear oG1 oG2 oG3 oG4 oG5
        have TG := Lib.hid (TG.out.below hb21)
        have TJ := Lib.hid (TJ.out.below hb21)
        clear ho21 hr21
        obtain ⟨oG1, oG2, oG3, oG4, oG5⟩ := TG.out
        obtain ⟨oJ1, oJ2, oJ3, oJ4, oJ5⟩ := TJ.out
        have hne2 : w2.heap.size ≠ w20.heap.size := by omega
        simp only [Option.isSome_some]
        go_wp2
        go_loopw [23, 129] (fun vp vi wr => ∃ (k : Nat) (p lo : Int), k ≤ xs.length ∧ vi = .int .i64 k ∧ vp = .int .i64 p ∧ 1 ≤ p ∧ p ≤ 1000000000 ∧ prodL p (xs.drop k) = some (ps.drop k) ∧ up 0 lo (xs.drop k) = true ∧ 2 ≤ lo ∧ (∀ j y, k = j + 1 → xs[j]? = some y → lo = y) ∧ ∃ n, wr = w21.drewN n) (fun _ vi _ => xs.length - (intOf vi).toNat)
        case atStart => exact ⟨0, 1, 2, Nat.zero_le _, rfl, rfl, by omega, by omega, L0.out.prod, L0.out.up, by omega, fun j y h => by omega, 0, rfl⟩
        case round =>
          obtain ⟨k, p, lo, hk, rfl, rfl, p1, p2, hp, hu, l2, hj, nn, rfl⟩ := hrel
          by_cases hlt : k < xs.length
          · obtain ⟨b1, o1, x, rfl, hb1, hx, hcell⟩ := HR.out.at_ hlt
            rw [drop_at hx] at hp hu
            obtain ⟨hle, qs, hq, hp2⟩ := prod_at hp
            have hc : lo ≤ x ∧ x ≤ 1000000000 := Decidable.byContradiction fun h => by rw [up_no h] at hu; cases hu
            rw [up_yes hc.1 hc.2, Int.add_zero] at hu
            have hzz : ps[k]? = some (p * x) := by
              have := congrArg (fun l : List Int => l[0]?) hq
              simpa using this
            have hqs : qs = ps.drop (k + 1) := by
              rw [drop_at hzz] at hq
              injection hq with _ hq
              exact hq.symm
            subst hqs
            obtain ⟨b2, o2, zz, rfl, hb2', hzz', hcell2⟩ := HP.out.at_ (k := k) (by omega)
            obtain rfl : zz = p * x := by rw [hzz] at hzz'; injection hzz' with e; exact e.symm
            have hm1 := mul_pos1 p1 (by omega : 1 ≤ x)
            have Hu := Lib.hid hu
            have Hp2 := Lib.hid hp2
            have Hx := Lib.hid hx
            have hki : (k : Int) < (xs.length : Int) := by omega
            have hki2 : (k : Int) < (ps.length : Int) := by omega
            clear hu hp hp2 hq hzz hzz'
            rcases k with _ | j
            · clear hj hx
              rw [Nat.add_zero] at hcell hcell2
              rw [show ((0 : Nat) : Int) = 0 from rfl]
              go_wp2
              go_roundw
              case rel => exact ⟨1, p * x, x, by omega, by go_num, rfl, hm1, hle, Hp2.out, Hu.out, by omega, fun j y h e => by
                  obtain rfl : j = 0 := by omega
                  rw [Hx.out] at e
                  injection e, _, rfl⟩
              case measure => simp [intOf]; omega
            · obtain ⟨b3, o3, y, e3, hb3', hy, hcell3⟩ := HR.out.at_ (k := j) (by omega)
              injection e3 with e3
              injection e3 with e31 e32
              subst e31 e32
              obtain rfl := hj j y rfl hy
              clear hj hx hy
              go_wp2
              go_roundw
              case rel => exact ⟨j + 1 + 1, p * x, x, by omega, by go_num, rfl, hm1, hle, Hp2.out, Hu.out, by omega, fun i y h e => by
                  obtain rfl : i = j + 1 := by omega
                  rw [Hx.out] at e
                  injection e, _, rfl⟩
              case measure => simp [intOf]; omega
          · obtain rfl : k = xs.length := by omega
            clear hp hu hj
            have HPS := Lib.hid fun (w : World) (h : Reads w A21 ps) => pSums_yes w a b A21 c21 ps h (by omega) L0.out.p64 L0.out.exp L0.out.sum.1 L0.out.sum.2
            obtain ⟨oG1, oG2, oG3, oG4, oG5⟩ := TG.out
            go_wp2_with fail
            refine (HPS.out _ (HP.out.below (by (repeat' (first | (with_reducible exact Below.refl _ _) | (with_reducible assumption) | (with_reducible refine Below.drew ?_) | (with_reducible refine belowDrewN ?_ _) | (with_reducible refine Below.alloc ?_ ?_ _) | (with_reducible refine Below.setCell ?_ ?_ _) | (with_reducible refine belowStep (by assumption) ?_ ?_) | (with_reducible exact Below.size (by assumption)) | go_size))))).mono ?_; rintro e w22 ⟨rfl, hb22⟩; have hz22 := hb22.size; (try simp only [World.heap_drewN] at hz22)
            go_wp2
            go_ret
            exact ⟨rfl, by (repeat' (first | (with_reducible exact Below.refl _ _) | (with_reducible assumption) | (with_reducible refine Below.drew ?_) | (with_reducible refine belowDrewN ?_ _) | (with_reducible refine Below.alloc ?_ ?_ _) | (with_reducible refine Below.setCell ?_ ?_ _) | (with_reducible refine belowStep (by assumption) ?_ ?_) | (with_reducible exact Below.size (by assumption)) | go_size))⟩
    | true =>
      obtain ⟨hag, hr1, hr2⟩ := engO_again hz
      have HAG := Lib.hid hag
      clear hag
      go_wp2_with fail
      refine (engelOf_any (engN zs) (engD zs) _ hr1 hr2).mono ?_; rintro e w12 ⟨v12, rfl, ho12, hb12⟩; have hz12 := hb12.size; (try simp only [World.size_alloc, World.size_setCell, World.size_drew, World.heap_drewN] at hz12)
      rw [HAG.out] at ho12 ⊢
      obtain ⟨A12, c12, rfl, hr12⟩ := (show OwnI w12 _ v12 zs from ho12).form
      have H12 := Lib.hid hr12
      clear oH1 oH2 oH3 oH4 oH5
      clear oI1 oI2 oI3 oI4 oI5
      have TG := Lib.hid (TG.out.below hb12)
      have HZ := Lib.hid (HZ.out.below hb12)
      have HR12 := Lib.hid (HR11.out.below hb12)
      clear ho12 hr12 HR11
      go_wp2_with fail
      refine ((pSame_same _ _ _ _ _ _ H12.out HZ.out hzl).mono fun _ _ h => h.retL).mono ?_; rintro e w15 ⟨rfl, hb15⟩
      have hz15 := hb15.size
      have TG := Lib.hid (TG.out.below hb15)
      have HR15 := Lib.hid (HR12.out.below hb15)
      have hbw15 : Below w.heap.size w w15 := by (repeat' (first | (with_reducible exact Below.refl _ _) | (with_reducible assumption) | (with_reducible refine Below.drew ?_) | (with_reducible refine belowDrewN ?_ _) | (with_reducible refine Below.alloc ?_ ?_ _) | (with_reducible refine Below.setCell ?_ ?_ _) | (with_reducible refine belowStep (by assumption) ?_ ?_) | (with_reducible exact Below.size (by assumption)) | go_size))
      clear H12 HZ HR12
      cases hE : engO a b with
      | none =>
        clear hE
        go_wp2
        go_ret
        exact ⟨rfl, by (repeat' (first | (with_reducible exact Below.refl _ _) | (with_reducible assumption) | (with_reducible refine Below.drew ?_) | (with_reducible refine belowDrewN ?_ _) | (with_reducible refine Below.alloc ?_ ?_ _) | (with_reducible refine Below.setCell ?_ ?_ _) | (with_reducible refine belowStep (by assumption) ?_ ?_) | (with_reducible exact Below.size (by assumption)) | go_size))⟩
      | some xs =>
        obtain ⟨ps, L⟩ := engO_back hE
        have E := Lib.hid hE
        have L0 := Lib.hid L
        have HR := HR15
        rw [E.out] at HR
        have HR := Lib.hid (show Reads w15 A5 xs from HR.out)
        simp only [Option.getD_some, Option.isSome_some]
        have hx24 := L.l24
        have hfew := L.few
        have hpl1 : ps.length ≤ xs.length := by have := L.len; omega
        have hpl2 : xs.length ≤ ps.length := by have := L.len; omega
        clear hE L hxl
        go_wp2_with fail
        refine (fromEngel_any _ A5 c5 xs HR.out (by omega) L0.out.x64).mono ?_; rintro e w20 ⟨rfl, hb20⟩; have hz20 := hb20.size; (try simp only [World.size_alloc, World.size_setCell, World.size_drew, World.heap_drewN] at hz20)
        rw [L0.out.back.1, L0.out.back.2.1, L0.out.back.2.2]
        have TG := Lib.hid (TG.out.below hb20)
        have TJ := Lib.hid (TwoAt.new w20 (a) (b) 27)
        have TG := Lib.hid (TG.out.below ((Below.refl _ _).alloc (Nat.le_refl _) (.cells #[.int .i64 (a), .int .i64 (b)] 27)))
        have HR := Lib.hid (HR.out.below (w' := w20) (by (repeat' (first | (with_reducible exact Below.refl _ _) | (with_reducible assumption) | (with_reducible refine Below.drew ?_) | (with_reducible refine belowDrewN ?_ _) | (with_reducible refine Below.alloc ?_ ?_ _) | (with_reducible refine Below.setCell ?_ ?_ _) | (with_reducible refine belowStep (by assumption) ?_ ?_) | (with_reducible exact Below.size (by assumption)) | go_size))))
        obtain ⟨oG1, oG2, oG3, oG4, oG5⟩ := TG.out
        go_wp2_with fail
        refine (engelTerms_any a b _ ha hb).mono ?_; rintro e w21 ⟨v21, rfl, ho21, hb21⟩; have hz21 := hb21.size; (try simp only [World.size_alloc] at hz21)
        rw [L0.out.terms] at ho21 ⊢
        obtain ⟨A21, c21, rfl, hr21⟩ := (show OwnI w21 _ v21 ps from ho21).form
        have HP := Lib.hid hr21
        have HR := Lib.hid (HR.out.below (w' := w21) (by (repeat' (first | (with_reducible exact Below.refl _ _) | (with_reducible assumption) | (with_reducible refine Below.drew ?_) | (with_reducible refine belowDrewN ?_ _) | (with_reducible refine Below.alloc ?_ ?_ _) | (with_reducible refine Below.setCell ?_ ?_ _) | (with_reducible refine belowStep (by assumption) ?_ ?_) | (with_reducible exact Below.size (by assumption)) | go_size))))
        clear oG1 oG2 oG3 oG4 oG5
        have TG := Lib.hid (TG.out.below hb21)
        have TJ := Lib.hid (TJ.out.below hb21)
        clear ho21 hr21
        obtain ⟨oG1, oG2, oG3, oG4, oG5⟩ := TG.out
        obtain ⟨oJ1, oJ2, oJ3, oJ4, oJ5⟩ := TJ.out
        have hne2 : w2.heap.size ≠ w20.heap.size := by omega
        simp only [Option.isSome_some]
        go_wp2
        go_loopw [23, 129] (fun vp vi wr => ∃ (k : Nat) (p lo : Int), k ≤ xs.length ∧ vi = .int .i64 k ∧ vp = .int .i64 p ∧ 1 ≤ p ∧ p ≤ 1000000000 ∧ prodL p (xs.drop k) = some (ps.drop k) ∧ up 0 lo (xs.drop k) = true ∧ 2 ≤ lo ∧ (∀ j y, k = j + 1 → xs[j]? = some y → lo = y) ∧ ∃ n, wr = w21.drewN n) (fun _ vi _ => xs.length - (intOf vi).toNat)
        case atStart => exact ⟨0, 1, 2, Nat.zero_le _, rfl, rfl, by omega, by omega, L0.out.prod, L0.out.up, by omega, fun j y h => by omega, 0, rfl⟩
        case round =>
          obtain ⟨k, p, lo, hk, rfl, rfl, p1, p2, hp, hu, l2, hj, nn, rfl⟩ := hrel
          by_cases hlt : k < xs.length
          · obtain ⟨b1, o1, x, rfl, hb1, hx, hcell⟩ := HR.out.at_ hlt
            rw [drop_at hx] at hp hu
            obtain ⟨hle, qs, hq, hp2⟩ := prod_at hp
            have hc : lo ≤ x ∧ x ≤ 1000000000 := Decidable.byContradiction fun h => by rw [up_no h] at hu; cases hu
            rw [up_yes hc.1 hc.2, Int.add_zero] at hu
            have hzz : ps[k]? = some (p * x) := by
              have := congrArg (fun l : List Int => l[0]?) hq
              simpa using this
            have hqs : qs = ps.drop (k + 1) := by
              rw [drop_at hzz] at hq
              injection hq with _ hq
              exact hq.symm
            subst hqs
            obtain ⟨b2, o2, zz, rfl, hb2', hzz', hcell2⟩ := HP.out.at_ (k := k) (by omega)
            obtain rfl : zz = p * x := by rw [hzz] at hzz'; injection hzz' with e; exact e.symm
            have hm1 := mul_pos1 p1 (by omega : 1 ≤ x)
            have Hu := Lib.hid hu
            have Hp2 := Lib.hid hp2
            have Hx := Lib.hid hx
            have hki : (k : Int) < (xs.length : Int) := by omega
            have hki2 : (k : Int) < (ps.length : Int) := by omega
            clear hu hp hp2 hq hzz hzz'
            rcases k with _ | j
            · clear hj hx
              rw [Nat.add_zero] at hcell hcell2
              rw [show ((0 : Nat) : Int) = 0 from rfl]
              go_wp2
              go_roundw
              case rel => exact ⟨1, p * x, x, by omega, by go_num, rfl, hm1, hle, Hp2.out, Hu.out, by omega, fun j y h e => by
                  obtain rfl : j = 0 := by omega
                  rw [Hx.out] at e
                  injection e, _, rfl⟩
              case measure => simp [intOf]; omega
            · obtain ⟨b3, o3, y, e3, hb3', hy, hcell3⟩ := HR.out.at_ (k := j) (by omega)
              injection e3 with e3
              injection e3 with e31 e32
              subst e31 e32
              obtain rfl := hj j y rfl hy
              clear hj hx hy
              go_wp2
              go_roundw
              case rel => exact ⟨j + 1 + 1, p * x, x, by omega, by go_num, rfl, hm1, hle, Hp2.out, Hu.out, by omega, fun i y h e => by
                  obtain rfl : i = j + 1 := by omega
                  rw [Hx.out] at e
                  injection e, _, rfl⟩
              case measure => simp [intOf]; omega
          · obtain rfl : k = xs.length := by omega
            clear hp hu hj
            have HPS := Lib.hid fun (w : World) (h : Reads w A21 ps) => pSums_yes w a b A21 c21 ps h (by omega) L0.out.p64 L0.out.exp L0.out.sum.1 L0.out.sum.2
            obtain ⟨oG1, oG2, oG3, oG4, oG5⟩ := TG.out
            go_wp2_with fail
            refine (HPS.out _ (HP.out.below (by (repeat' (first | (with_reducible exact Below.refl _ _) | (with_reducible assumption) | (with_reducible refine Below.drew ?_) | (with_reducible refine belowDrewN ?_ _) | (with_reducible refine Below.alloc ?_ ?_ _) | (with_reducible refine Below.setCell ?_ ?_ _) | (with_reducible refine belowStep (by assumption) ?_ ?_) | (with_reducible exact Below.size (by assumption)) | go_size))))).mono ?_; rintro e w22 ⟨rfl, hb22⟩; have hz22 := hb22.size; (try simp only [World.heap_drewN] at hz22)
            go_wp2
            go_ret
            exact ⟨rfl, by (repeat' (first | (with_reducible exact Below.refl _ _) | (with_reducible assumption) | (with_reducible refine Below.drew ?_) | (with_reducible refine belowDrewN ?_ _) | (with_reducible refine Below.alloc ?_ ?_ _) | (with_reducible refine Below.setCell ?_ ?_ _) | (with_reducible refine belowStep (by assumption) ?_ ?_) | (with_reducible exact Below.size (by assumption)) | go_size))⟩

set_option maxRecDepth 100000 in
theorem FnEngelLists_lifted (os : Os) (started : os.Started) (H : Type) (enc : TypeId × Value → H) :
    ReturnsInHanded {} Try.checked os 8 .any (Rows.fnEngelListsSpec.pre6 enc Try.prog Try.f8 Rows.fnEngelListsRow.domain false) (Rows.fnEngelListsSpec.post enc Try.prog Try.f8 false true false false) := by
  refine returnsInHanded_of_change (C := Try.checked) own started (by kernel_rfl) Try.func8
    (ChangeSpec.witness6 (enc := enc) (C := Try.checked) false ⟨#[], #[.slice none 0 0, .slice none 0 0], []⟩ 8 (by kernel_rfl) (by kernel_rfl) (by kernel_rfl) (by kernel_rfl)) ?_
  intro W base args ds gs before hval0 hW hcnd _
  have hval : ∀ (j : Nat) t v, Try.f8.params[j]? = some t → args[j]? = some v → Value.okWide Try.prog W .any base t v := hval0
  have hW' := hW
  have hlt : ∀ p ∈ before, p.block < W.heap.size := fun p hp => hW'.lt p hp
  obtain ⟨p, q, hA0, hV, rfl, hfz, hnd⟩ := hW
  have hA : DataW.TrodAll enc Try.prog W 0 (fun _ => true) true Try.f8.params.toList args.toList ds p := hA0
  rw [Try.params8] at hA hval
  obtain ⟨v0, vs0, d0, ds0, p0, q0, hargs, rfl, rfl, h0, r0⟩ := trodAll_cons hA
  obtain ⟨v1, vs1, d1, ds1, p1, q1, rfl, rfl, rfl, h1, r1⟩ := trodAll_cons r0
  obtain ⟨rfl, rfl, rfl⟩ := trodAll_nil r1
  obtain rfl : args = #[v0, v1] := by cases args; simp_all
  obtain ⟨rfl, rfl⟩ := trodVars_none hV
  obtain ⟨Aa, ca, na, rfl, ha⟩ := open_bytes_reads Try.underlying39 Try.underlying5 (by kernel_rfl) (hval 0 39 v0 rfl rfl) h0 (fun y hy => hlt y (by simp [hy]))
  obtain ⟨Ab, cb, nb, rfl, hb⟩ := open_bytes_reads Try.underlying39 Try.underlying5 (by kernel_rfl) (hval 1 39 v1 rfl rfl) h1 (fun y hy => hlt y (by simp [hy]))
  refine (FnEngelLists_walk W Aa ca na Ab cb nb ha hb).mono fun e W' ⟨he, hg⟩ => ?_
  subst he
  exact ⟨_, rfl, law_post laidOut (by rw [Try.params8]; intro t ht; simp only [List.mem_cons, List.not_mem_nil, or_false] at ht; rcases ht with rfl | rfl <;> exact ⟨by kernel_rfl, of_decide_eq_true (by kernel_rfl)⟩) (by kernel_rfl) Try.underlying4 rfl hW' rfl hg⟩

theorem FnEngelLists_closed : joinedFacts Try.prog 8 Try.f8 Rows.fnEngelListsSpec Rows.fnEngelListsRow = true := by
  unfold joinedFacts
  rw [mayEnter_eq, lifts_eq, make_eq]
  kernel_rfl

theorem FnEngelLists_holds : Rows.FnEngelListsSaid :=
  OpenClaim.holds_of_wide 8 Try.f8 rfl rfl rfl rfl rfl rfl rfl ⟨rfl, rfl, rfl, rfl, rfl⟩ rfl rfl rfl rfl rfl (by kernel_rfl) Try.func8 FnEngelLists_closed
    (of_decide_eq_true (by kernel_rfl)) (by unfold Func.isWrapper; first | (rw [if_pos (by decide +kernel)]; kernel_rfl) | (rw [if_neg (by decide +kernel)]; exact ⟨rfl, rfl⟩))
    (fun os started H enc _ => FnEngelLists_lifted os started H enc)

end Go.Proofs.Ytbjblkfibinenab
