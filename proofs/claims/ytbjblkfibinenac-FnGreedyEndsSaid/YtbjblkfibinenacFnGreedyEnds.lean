
/-
  For all bytes: a fraction is drawn; its greedy expansion is the model's and has it as its sum, it is told to be greedy and to grow, the numerators fall to 0, one for each term, and the rest has the rest of the terms. No condition.
-/
import Derived.Test.YtbjblkfibinenacLawK
import Derived.Test.YtbjblkfibinenacDrawP
import Derived.Test.YtbjblkfibinenacNumI
import Derived.Test.YtbjblkfibinenacShell
import Derived.Test.YtbjblkfibinenacGreL
namespace Go.Proofs.Ytbjblkfibinenac
open Go.ChangeShapes Go.WideShapes Go.ChangeAt Go.RowKit Go.Joins Go.Deep
theorem RetQ.retL {v : Value} {w : World} {e : Ending} {w' : World} (h : RetQ v w e w') : Ret v w e w' := by
  obtain ⟨rfl, k, rfl⟩ := h
  exact ⟨rfl, by (repeat' (first | (with_reducible exact Below.refl _ _) | (with_reducible assumption) | (with_reducible refine Below.drew ?_) | (with_reducible refine belowDrewN ?_ _) | (with_reducible refine Below.alloc ?_ ?_ _) | (with_reducible refine Below.setCell ?_ ?_ _) | (with_reducible refine belowStep (by assumption) ?_ ?_) | (with_reducible exact Below.size (by assumption)) | go_size))⟩
theorem pSame_n (w : World) (A B : Option Addr) (c d n m : Nat) (ys : List Int) (hn : ys.length = n) (hm : ys.length = m) (ha : Reads w A ys) (hb : Reads w B ys) (hl : n ≤ 1048576) :
    Calls Try.prog 29 #[.slice A n c, .slice B m d] w (RetQ (.bool true) w) := by
  subst hn
  rw [← hm]
  exact pSame_same w A B c d ys ha hb hl
set_option maxRecDepth 100000 in
set_option maxHeartbeats 32000000 in
theorem FnGreedyEnds_walk (w : World) (A : Option Addr) (c n : Nat) (B : Option Addr) (d m' : Nat) (hA : ReadsB w A n ∧ n ≤ 9223372036854775807) (hB : ReadsB w B m' ∧ m' ≤ 9223372036854775807) :
    Calls Try.prog 6 #[.slice A n c, .slice B m' d] w (Ret (.bool true) w) := by
  obtain ⟨hA, hn⟩ := hA
  obtain ⟨hB, hm'⟩ := hB
  have HA := Lib.hid hA
  clear hA hB
  cases hbig : bigB n m' with
  | true =>
    go_enter Try.func6, Try.ntmps6
    go_wp2_with fail
    refine (big_any _ _ _ _ _ _ _ hn hm').mono ?_; rintro e w1 ⟨rfl, k1, rfl⟩
    go_wp2
    go_ret
    exact ⟨rfl, by (repeat' (first | (with_reducible exact Below.refl _ _) | (with_reducible assumption) | (with_reducible refine Below.drew ?_) | (with_reducible refine belowDrewN ?_ _) | (with_reducible refine Below.alloc ?_ ?_ _) | (with_reducible refine Below.setCell ?_ ?_ _) | (with_reducible refine belowStep (by assumption) ?_ ?_) | (with_reducible exact Below.size (by assumption)) | go_size))⟩
  | false =>
    have hn2 : n ≤ 1048576 ∧ m' ≤ 1048576 := by
      simp only [bigB, Bool.or_eq_false_iff, decide_eq_false_iff_not] at hbig
      omega
    go_enter Try.func6, Try.ntmps6
    go_wp2_with fail
    refine (big_any _ _ _ _ _ _ _ hn hm').mono ?_; rintro e w1 ⟨rfl, k1, rfl⟩
    go_wp2_with fail
    refine (drawGreedy_any _ A n c (HA.out.below (by (repeat' (first | (with_reducible exact Below.refl _ _) | (with_reducible assumption) | (with_reducible refine Below.drew ?_) | (with_reducible refine belowDrewN ?_ _) | (with_reducible refine Below.alloc ?_ ?_ _) | (with_reducible refine Below.setCell ?_ ?_ _) | (with_reducible refine belowStep (by assumption) ?_ ?_) | (with_reducible exact Below.size (by assumption)) | go_size)))) hn2.1).mono ?_; rintro e w2 ⟨a, b, rfl, ha, hb, hb2⟩
    have hz2 := hb2.size
    (try simp only [World.heap_drewN] at hz2)
    clear hbig
    have TG := Lib.hid (TwoAt.new w2 (a) (b) 27)
    obtain ⟨oG1, oG2, oG3, oG4, oG5⟩ := TG.out
    go_wp2_with fail
    refine (greedyExp_any a b _ ha hb).mono ?_; rintro e w5 ⟨v5, rfl, ho5, hb5⟩; have hz5 := hb5.size; (try simp only [World.size_alloc] at hz5)
    clear oG1 oG2 oG3 oG4 oG5
    have TG := Lib.hid (TG.out.below hb5)
    obtain ⟨A5, c5, rfl, hr5⟩ := ho5.form
    have hcap5 := ho5.cap_
    have HR5 := Lib.hid hr5
    clear ho5 hr5
    obtain ⟨oG1, oG2, oG3, oG4, oG5⟩ := TG.out
    go_wp2_with fail
    refine (spec_greedyExp_any a b _).mono ?_; rintro e w6 ⟨A6, c6, rfl, hr6, hb6⟩; have hz6 := hb6.size; (try simp only [World.size_alloc, World.size_setCell, World.size_drew, World.heap_drewN] at hz6)
    clear oG1 oG2 oG3 oG4 oG5
    have TG := Lib.hid (TG.out.below hb6)
    have HR6 := Lib.hid hr6
    have HR5 := Lib.hid (HR5.out.below hb6)
    have hxl := gexO_len a b
    clear hr6
    obtain ⟨oG1, oG2, oG3, oG4, oG5⟩ := TG.out
    go_wp2_with fail
    refine ((pSame_same _ _ _ _ _ _ HR5.out HR6.out (by omega)).mono fun _ _ h => h.retL).mono ?_; rintro e w7 ⟨rfl, hb7⟩
    have hz7 := hb7.size
    clear oG1 oG2 oG3 oG4 oG5
    have TG := Lib.hid (TG.out.below hb7)
    have HR7 := Lib.hid (HR5.out.below hb7)
    have hbw7 : Below w.heap.size w w7 := by (repeat' (first | (with_reducible exact Below.refl _ _) | (with_reducible assumption) | (with_reducible refine Below.drew ?_) | (with_reducible refine belowDrewN ?_ _) | (with_reducible refine Below.alloc ?_ ?_ _) | (with_reducible refine Below.setCell ?_ ?_ _) | (with_reducible refine belowStep (by assumption) ?_ ?_) | (with_reducible exact Below.size (by assumption)) | go_size))
    clear HR6 HR5
    obtain ⟨oG1, oG2, oG3, oG4, oG5⟩ := TG.out
    cases hE : gexO a b with
    | none =>
      clear hE hcap5
      go_wp2
      go_ret
      exact ⟨rfl, by (repeat' (first | (with_reducible exact Below.refl _ _) | (with_reducible assumption) | (with_reducible refine Below.drew ?_) | (with_reducible refine belowDrewN ?_ _) | (with_reducible refine Below.alloc ?_ ?_ _) | (with_reducible refine Below.setCell ?_ ?_ _) | (with_reducible refine belowStep (by assumption) ?_ ?_) | (with_reducible exact Below.size (by assumption)) | go_size))⟩
    | some xs =>
      have L := Lib.hid (gexO_back hE)
      have HX := Lib.hid (gexO_ends hE)
      have HM := Lib.hid (gexO_more hE)
      have HE := Lib.hid hE
      have hcap : xs.length ≤ c5 := by rw [hE] at hcap5; exact hcap5
      rw [hE] at HR7
      have HR := Lib.hid (show Reads w7 A5 xs from HR7.out)
      simp only [Option.getD_some, Option.isSome_some]
      have hx24 := L.out.l24
      clear hE hxl hcap5
      clear oG1 oG2 oG3 oG4 oG5
      go_wp2_with fail
      refine (isGreedy_any _ A5 c5 xs HR.out (by omega) L.out.x64).mono ?_; rintro e w8 ⟨rfl, hb8⟩; have hz8 := hb8.size; (try simp only [World.size_alloc, World.size_setCell, World.size_drew, World.heap_drewN] at hz8)
      rw [show igB xs = true by rw [igB_some L.out.same]; simp, show (igO xs).isSome = true by rw [L.out.same]; rfl]
      have TG := Lib.hid (TG.out.below hb8)
      have HR := Lib.hid (HR.out.below hb8)
      have HPS := Lib.hid fun (w : World) (h : Reads w A5 xs) => pSums_yes w a b A5 c5 xs h (by omega) L.out.x64 L.out.exp L.out.sum.1 L.out.sum.2
      obtain ⟨oG1, oG2, oG3, oG4, oG5⟩ := TG.out
      go_wp2_with fail
      refine (HPS.out _ (HR.out.below (by (repeat' (first | (with_reducible exact Below.refl _ _) | (with_reducible assumption) | (with_reducible refine Below.drew ?_) | (with_reducible refine belowDrewN ?_ _) | (with_reducible refine Below.alloc ?_ ?_ _) | (with_reducible refine Below.setCell ?_ ?_ _) | (with_reducible refine belowStep (by assumption) ?_ ?_) | (with_reducible exact Below.size (by assumption)) | go_size))))).mono ?_; rintro e w9 ⟨rfl, hb9⟩; have hz9 := hb9.size; (try simp only [World.size_alloc, World.size_setCell, World.size_drew, World.heap_drewN] at hz9)
      clear oG1 oG2 oG3 oG4 oG5
      have TG := Lib.hid (TG.out.below hb9)
      have HR := Lib.hid (HR.out.below hb9)
      have hbw9 : Below w.heap.size w w9 := by (repeat' (first | (with_reducible exact Below.refl _ _) | (with_reducible assumption) | (with_reducible refine Below.drew ?_) | (with_reducible refine belowDrewN ?_ _) | (with_reducible refine Below.alloc ?_ ?_ _) | (with_reducible refine Below.setCell ?_ ?_ _) | (with_reducible refine belowStep (by assumption) ?_ ?_) | (with_reducible exact Below.size (by assumption)) | go_size))
      clear HPS
      obtain ⟨oG1, oG2, oG3, oG4, oG5⟩ := TG.out
      by_cases h0 : a = 0
      · have hq : ((xs.length : Int) == a) = true := by rw [HX.out (.inl h0)]; simp
        have h00 : (a == 0) = true := by simp [h0]
        clear h0 HX HM
        go_wp2
        go_ret
        exact ⟨ret_bool (by first | exact hq | rfl), by (repeat' (first | (with_reducible exact Below.refl _ _) | (with_reducible assumption) | (with_reducible refine Below.drew ?_) | (with_reducible refine belowDrewN ?_ _) | (with_reducible refine Below.alloc ?_ ?_ _) | (with_reducible refine Below.setCell ?_ ?_ _) | (with_reducible refine belowStep (by assumption) ?_ ?_) | (with_reducible exact Below.size (by assumption)) | go_size))⟩
      · have h00 : (a == 0) = false := by simp [h0]
        by_cases h1 : a = b
        · have hq : ((xs.length : Int) == a) = true := by rw [HX.out (.inr h1)]; simp
          have h11 : (a == b) = true := by simp [h1]
          clear h1 HX HM
          go_wp2
          go_ret
          exact ⟨ret_bool (by first | exact hq | rfl), by (repeat' (first | (with_reducible exact Below.refl _ _) | (with_reducible assumption) | (with_reducible refine Below.drew ?_) | (with_reducible refine belowDrewN ?_ _) | (with_reducible refine Below.alloc ?_ ?_ _) | (with_reducible refine Below.setCell ?_ ?_ _) | (with_reducible refine belowStep (by assumption) ?_ ?_) | (with_reducible exact Below.size (by assumption)) | go_size))⟩
        · have h11 : (a == b) = false := by simp [h1]
          obtain ⟨u, p, q, ys, ns, M⟩ := HM.out h0 h1
          have M0 := Lib.hid M
          obtain ⟨N, hN⟩ : ∃ N, N = a :: p :: ns := ⟨_, rfl⟩
          have HN0 : Hid (N[0]? = some a) := Lib.hid (by rw [hN]; rfl)
          have HN1 : Hid (N[1]? = some p) := Lib.hid (by rw [hN]; rfl)
          have HNo : Hid (nmO a b = some N) := Lib.hid (by rw [hN]; exact M.nums)
          have HNf : Hid (∀ (i : Nat) (x y : Int), N[i]? = some x → N[i + 1]? = some y → y < x) := Lib.hid (by rw [hN]; exact M.fall)
          have HNl : Hid (N[xs.length]? = some 0) := Lib.hid (by rw [hN]; exact M.last)
          have hnl1 : N.length ≤ xs.length + 1 := by rw [hN, M.nlen]; exact Nat.le_refl _
          have hnl2 : xs.length + 1 ≤ N.length := by rw [hN, M.nlen]; exact Nat.le_refl _
          have hnl3 : 2 ≤ N.length := by rw [hN]; simp
          have HXu : Hid (xs[0]? = some u) := Lib.hid (by rw [M.cut]; rfl)
          have HXy : Hid (xs.drop 1 = ys) := Lib.hid (by rw [M.cut]; rfl)
          have hxy1 : ys.length + 1 ≤ xs.length := by rw [M.cut]; simp
          have hxy2 : xs.length ≤ ys.length + 1 := by rw [M.cut]; simp
          have hfew := M.few
          have hpq := good_bounds M.pq
          clear HX HM h0 h1 hN M
          go_wp2_with fail
          refine (numerators_any a b _ ha hb).mono ?_; rintro e w10 ⟨v10, rfl, ho10, hb10⟩; have hz10 := hb10.size; (try simp only [World.size_alloc, World.size_setCell, World.size_drew, World.heap_drewN] at hz10)
          rw [HNo.out] at ho10 ⊢
          obtain ⟨A10, c10, rfl, hr10⟩ := (show OwnI w10 _ v10 N from ho10).form
          have HN := Lib.hid hr10
          clear oG1 oG2 oG3 oG4 oG5
          have TG := Lib.hid (TG.out.below hb10)
          have HR := Lib.hid (HR.out.below hb10)
          clear ho10 hr10
          go_wp2_with fail
          refine (grow_any _ A5 c5 xs HR.out (by omega) L.out.x64).mono ?_; rintro e w11 ⟨rfl, hb11⟩; have hz11 := hb11.size; (try simp only [World.size_alloc, World.size_setCell, World.size_drew, World.heap_drewN] at hz11)
          rw [M0.out.grows, L.out.exp]
          have TG := Lib.hid (TG.out.below hb11)
          have HR := Lib.hid (HR.out.below hb11)
          have HN := Lib.hid (HN.out.below hb11)
          obtain ⟨oG1, oG2, oG3, oG4, oG5⟩ := TG.out
          go_wp2_with fail
          refine (greedyStep_yes a b _ M0.out.st).mono ?_; rintro e w12 ⟨rfl, hb12⟩; have hz12 := hb12.size; (try simp only [World.size_alloc, World.size_setCell, World.size_drew, World.heap_drewN] at hz12)
          rw [M0.out.step.1, M0.out.step.2.1, M0.out.step.2.2.1, M0.out.step.2.2.2]
          clear oG1 oG2 oG3 oG4 oG5
          have TG := Lib.hid (TG.out.below hb12)
          have TR := Lib.hid (TwoAt.new w12 (p) (q) 27)
          have TG := Lib.hid (TG.out.below ((Below.refl _ _).alloc (Nat.le_refl _) (.cells #[.int .i64 (p), .int .i64 (q)] 27)))
          have HR := Lib.hid (HR.out.below (w' := w12.alloc (.cells #[.int .i64 (p), .int .i64 (q)] 27)) (by (repeat' (first | (with_reducible exact Below.refl _ _) | (with_reducible assumption) | (with_reducible refine Below.drew ?_) | (with_reducible refine belowDrewN ?_ _) | (with_reducible refine Below.alloc ?_ ?_ _) | (with_reducible refine Below.setCell ?_ ?_ _) | (with_reducible refine belowStep (by assumption) ?_ ?_) | (with_reducible exact Below.size (by assumption)) | go_size))))
          have HN := Lib.hid (HN.out.below (w' := w12.alloc (.cells #[.int .i64 (p), .int .i64 (q)] 27)) (by (repeat' (first | (with_reducible exact Below.refl _ _) | (with_reducible assumption) | (with_reducible refine Below.drew ?_) | (with_reducible refine belowDrewN ?_ _) | (with_reducible refine Below.alloc ?_ ?_ _) | (with_reducible refine Below.setCell ?_ ?_ _) | (with_reducible refine belowStep (by assumption) ?_ ?_) | (with_reducible exact Below.size (by assumption)) | go_size))))
          obtain ⟨oG1, oG2, oG3, oG4, oG5⟩ := TG.out
          obtain ⟨oR1, oR2, oR3, oR4, oR5⟩ := TR.out
          have hne : w2.heap.size ≠ w12.heap.size := by omega
          obtain ⟨bx, ox, u', eA5, hbx, hu', hcu⟩ := HR.out.at_ (k := 0) (by omega)
          obtain rfl : u = u' := by rw [HXu.out] at hu'; injection hu'
          obtain ⟨bn, on, a', p', eA10, hbn, ha', hp', hca, hcp⟩ := HN.out.at2 (k := 0) (j := 1) (by omega) (by omega)
          obtain rfl : a = a' := by rw [HN0.out] at ha'; injection ha'
          obtain rfl : p = p' := by rw [HN1.out] at hp'; injection hp'
          subst eA5 eA10
          rw [Nat.add_zero] at hcu hca
          have hi0 : (0 : Int) < (xs.length : Int) := by omega
          have hi1 : (0 : Int) < (N.length : Int) := by omega
          have hi2 : (1 : Int) < (N.length : Int) := by omega
          have hq1 : (((N.length : Nat) : Int) != ((xs.length : Nat) : Int) + 1) = false := by simp; omega
          have hq2 : IntKind.i64.wrap (((xs.length : Nat) : Int) + 1) = ((xs.length : Nat) : Int) + 1 := IntWalk.i64_in _ (by omega)
          have hq3 : ((N.length : Nat) : Int) = ((xs.length : Nat) : Int) + 1 := by omega
          have Hq3 := Lib.hid hq3
          clear hu' ha' hp' hq3
          go_wp2_with fail
          go_quiet (fail)
          go_wp2
          go_loopw [19] (fun vi wr => ∃ (k : Nat), k + 1 ≤ N.length ∧ vi = .int .i64 ((k : Int) + 1) ∧ ∃ n, wr = (w12.alloc (.cells #[.int .i64 (p), .int .i64 (q)] 27)).drewN n) (fun vi _ => N.length + 1 - (intOf vi).toNat)
          case atStart => exact ⟨0, by omega, rfl, _, rfl⟩
          case round =>
            obtain ⟨k, hk, rfl, nn, rfl⟩ := hrel
            by_cases hlt : k + 1 < N.length
            · obtain ⟨b1, o1, x, y, e1, hb1, hx, hy, hcell, hcell2⟩ := HN.out.at2 hlt (show k < N.length by omega)
              injection e1 with e1
              injection e1 with e11 e12
              subst e11 e12
              have hxy := HNf.out k y x hy hx
              have hki : (k : Int) + 1 < (N.length : Int) := by omega
              clear hx hy
              go_wp2
              go_quiet (fail)
              go_wp2
              go_roundw
              case rel => exact ⟨k + 1, by omega, by go_num, _, rfl⟩
              case measure => simp [intOf]; omega
            · have hki : ¬ ((k : Int) + 1 < (N.length : Int)) := by omega
              go_wp2_with fail
              refine (greedyExp_any p q _ (by omega) (by omega)).mono ?_; rintro e w13 ⟨v13, rfl, ho13, hb13⟩; have hz13 := hb13.size; (try simp only [World.size_alloc, World.heap_drewN] at hz13)
              rw [M0.out.rest] at ho13 ⊢
              obtain ⟨A13, c13, rfl, hr13⟩ := (show OwnI w13 _ v13 ys from ho13).form
              have HY := Lib.hid hr13
              have HR := Lib.hid (HR.out.below (w' := w13) (by (repeat' (first | (with_reducible exact Below.refl _ _) | (with_reducible assumption) | (with_reducible refine Below.drew ?_) | (with_reducible refine belowDrewN ?_ _) | (with_reducible refine Below.alloc ?_ ?_ _) | (with_reducible refine Below.setCell ?_ ?_ _) | (with_reducible refine belowStep (by assumption) ?_ ?_) | (with_reducible exact Below.size (by assumption)) | go_size))))
              have HN := Lib.hid (HN.out.below (w' := w13) (by (repeat' (first | (with_reducible exact Below.refl _ _) | (with_reducible assumption) | (with_reducible refine Below.drew ?_) | (with_reducible refine belowDrewN ?_ _) | (with_reducible refine Below.alloc ?_ ?_ _) | (with_reducible refine Below.setCell ?_ ?_ _) | (with_reducible refine belowStep (by assumption) ?_ ?_) | (with_reducible exact Below.size (by assumption)) | go_size))))
              have hbw13 : Below w.heap.size w w13 := by (repeat' (first | (with_reducible exact Below.refl _ _) | (with_reducible assumption) | (with_reducible refine Below.drew ?_) | (with_reducible refine belowDrewN ?_ _) | (with_reducible refine Below.alloc ?_ ?_ _) | (with_reducible refine Below.setCell ?_ ?_ _) | (with_reducible refine belowStep (by assumption) ?_ ?_) | (with_reducible exact Below.size (by assumption)) | go_size))
              obtain ⟨bn', on', z, e1, hbn', hz, hcz⟩ := HN.out.at_ (k := xs.length) (by omega)
              injection e1 with e1
              injection e1 with e11 e12
              subst e11 e12
              obtain rfl : z = 0 := by rw [HNl.out] at hz; injection hz with hz; exact hz.symm
              have hidx : ((N.length : Nat) : Int) - 1 = ((xs.length : Nat) : Int) := by have := Hq3.out; omega
              have hil : ((xs.length : Nat) : Int) < ((N.length : Nat) : Int) := by omega
              clear hz ho13 hr13
              have hidw : IntKind.i64.wrap (((N.length : Nat) : Int) - 1) = ((xs.length : Nat) : Int) := by rw [hidx]; exact IntWalk.i64_in _ (by omega)
              have h1l : (1 : Int) ≤ ((xs.length : Nat) : Int) := by omega
              have hyl1 : ys.length = xs.length - 1 := by omega
              have Hyl1 := Lib.hid hyl1
              have hcp1 : 1 ≤ c5 := by omega
              have HPS := Lib.hid fun (w : World) (B : Option Addr) (d : Nat) (h : Reads w A13 ys) (h2 : Reads w B ys) => pSame_n w A13 B c13 d ys.length (xs.length - 1) ys rfl Hyl1.out h h2 (by omega)
              clear hyl1
              by_cases hc1 : c5 = 1
              · have HY0 := Lib.hid (show ys = [] from List.eq_nil_of_length_eq_zero (by omega))
                subst hc1
                have HPZ := Lib.hid fun (w : World) (B : Option Addr) (h : Reads w A13 ys) => pSame_n w A13 B c13 0 ys.length 0 ys rfl (by rw [HY0.out]; rfl) h (by rw [HY0.out]; exact Reads.nil) (by omega)
                go_wp2_with fail
                refine (HPZ.out _ _ HY.out).mono ?_; rintro e w14 ⟨rfl, k14, rfl⟩
                go_wp2
                go_ret
                exact ⟨rfl, by (repeat' (first | (with_reducible exact Below.refl _ _) | (with_reducible assumption) | (with_reducible refine Below.drew ?_) | (with_reducible refine belowDrewN ?_ _) | (with_reducible refine Below.alloc ?_ ?_ _) | (with_reducible refine Below.setCell ?_ ?_ _) | (with_reducible refine belowStep (by assumption) ?_ ?_) | (with_reducible exact Below.size (by assumption)) | go_size))⟩
              · have HT := Lib.hid (show Reads w13 (some ⟨bx, ox + 1, none⟩) ys by rw [← HXy.out]; exact HR.out.cutS)
                have hc2 : ¬ 1 = c5 := fun e => hc1 e.symm
                go_wp2_with fail
                refine (HPS.out _ _ _ HY.out HT.out).mono ?_; rintro e w14 ⟨rfl, k14, rfl⟩
                go_wp2
                go_ret
                exact ⟨rfl, by (repeat' (first | (with_reducible exact Below.refl _ _) | (with_reducible assumption) | (with_reducible refine Below.drew ?_) | (with_reducible refine belowDrewN ?_ _) | (with_reducible refine Below.alloc ?_ ?_ _) | (with_reducible refine Below.setCell ?_ ?_ _) | (with_reducible refine belowStep (by assumption) ?_ ?_) | (with_reducible exact Below.size (by assumption)) | go_size))⟩

set_option maxRecDepth 100000 in
theorem FnGreedyEnds_lifted (os : Os) (started : os.Started) (H : Type) (enc : TypeId × Value → H) :
    ReturnsInHanded {} Try.checked os 6 .any (Rows.fnGreedyEndsSpec.pre6 enc Try.prog Try.f6 Rows.fnGreedyEndsRow.domain false) (Rows.fnGreedyEndsSpec.post enc Try.prog Try.f6 false true false false) := by
  refine returnsInHanded_of_change (C := Try.checked) own started (by kernel_rfl) Try.func6
    (ChangeSpec.witness6 (enc := enc) (C := Try.checked) false ⟨#[], #[.slice none 0 0, .slice none 0 0], []⟩ 8 (by kernel_rfl) (by kernel_rfl) (by kernel_rfl) (by kernel_rfl)) ?_
  intro W base args ds gs before hval0 hW hcnd _
  have hval : ∀ (j : Nat) t v, Try.f6.params[j]? = some t → args[j]? = some v → Value.okWide Try.prog W .any base t v := hval0
  have hW' := hW
  have hlt : ∀ p ∈ before, p.block < W.heap.size := fun p hp => hW'.lt p hp
  obtain ⟨p, q, hA0, hV, rfl, hfz, hnd⟩ := hW
  have hA : DataW.TrodAll enc Try.prog W 0 (fun _ => true) true Try.f6.params.toList args.toList ds p := hA0
  rw [Try.params6] at hA hval
  obtain ⟨v0, vs0, d0, ds0, p0, q0, hargs, rfl, rfl, h0, r0⟩ := trodAll_cons hA
  obtain ⟨v1, vs1, d1, ds1, p1, q1, rfl, rfl, rfl, h1, r1⟩ := trodAll_cons r0
  obtain ⟨rfl, rfl, rfl⟩ := trodAll_nil r1
  obtain rfl : args = #[v0, v1] := by cases args; simp_all
  obtain ⟨rfl, rfl⟩ := trodVars_none hV
  obtain ⟨Aa, ca, na, rfl, ha⟩ := open_bytes_reads Try.underlying36 Try.underlying5 (by kernel_rfl) (hval 0 36 v0 rfl rfl) h0 (fun y hy => hlt y (by simp [hy]))
  obtain ⟨Ab, cb, nb, rfl, hb⟩ := open_bytes_reads Try.underlying36 Try.underlying5 (by kernel_rfl) (hval 1 36 v1 rfl rfl) h1 (fun y hy => hlt y (by simp [hy]))
  refine (FnGreedyEnds_walk W Aa ca na Ab cb nb ha hb).mono fun e W' ⟨he, hg⟩ => ?_
  subst he
  exact ⟨_, rfl, law_post laidOut (by rw [Try.params6]; intro t ht; simp only [List.mem_cons, List.not_mem_nil, or_false] at ht; rcases ht with rfl | rfl <;> exact ⟨by kernel_rfl, of_decide_eq_true (by kernel_rfl)⟩) (by kernel_rfl) Try.underlying4 rfl hW' rfl hg⟩

theorem FnGreedyEnds_closed : joinedFacts Try.prog 6 Try.f6 Rows.fnGreedyEndsSpec Rows.fnGreedyEndsRow = true := by
  unfold joinedFacts
  rw [mayEnter_eq, lifts_eq, make_eq]
  kernel_rfl

theorem FnGreedyEnds_holds : Rows.FnGreedyEndsSaid :=
  OpenClaim.holds_of_wide 6 Try.f6 rfl rfl rfl rfl rfl rfl rfl ⟨rfl, rfl, rfl, rfl, rfl⟩ rfl rfl rfl rfl rfl (by kernel_rfl) Try.func6 FnGreedyEnds_closed
    (of_decide_eq_true (by kernel_rfl)) (by unfold Func.isWrapper; first | (rw [if_pos (by decide +kernel)]; kernel_rfl) | (rw [if_neg (by decide +kernel)]; exact ⟨rfl, rfl⟩))
    (fun os started H enc _ => FnGreedyEnds_lifted os started H enc)

end Go.Proofs.Ytbjblkfibinenac
