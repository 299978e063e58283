
/-
  For all bytes: a fraction and a number of terms are drawn; the odd greedy terms are the model's, odd, and have the fraction as their sum; more terms allowed change nothing, fewer are not enough, and their number is odd just if the numerator is. No condition.
-/
import Derived.Test.YtbjblkfibinenacLawK
import Derived.Test.YtbjblkfibinenacDrawP
import Derived.Test.YtbjblkfibinenacShell
import Derived.Test.YtbjblkfibinenacOddL
namespace Go.Proofs.Ytbjblkfibinenac
open Go.ChangeShapes Go.WideShapes Go.ChangeAt Go.RowKit Go.Joins Go.Deep
theorem RetQ.retL {v : Value} {w : World} {e : Ending} {w' : World} (h : RetQ v w e w') : Ret v w e w' := by
  obtain ⟨rfl, k, rfl⟩ := h
  exact ⟨rfl, by (repeat' (first | (with_reducible exact Below.refl _ _) | (with_reducible assumption) | (with_reducible refine Below.drew ?_) | (with_reducible refine belowDrewN ?_ _) | (with_reducible refine Below.alloc ?_ ?_ _) | (with_reducible refine Below.setCell ?_ ?_ _) | (with_reducible refine belowStep (by assumption) ?_ ?_) | (with_reducible exact Below.size (by assumption)) | go_size))⟩
set_option maxRecDepth 100000 in
set_option maxHeartbeats 32000000 in
theorem FnOddGreedyTerms_walk (w : World) (A : Option Addr) (c n : Nat) (B : Option Addr) (d m' : Nat) (hA : ReadsB w A n ∧ n ≤ 9223372036854775807) (hB : ReadsB w B m' ∧ m' ≤ 9223372036854775807) :
    Calls Try.prog 9 #[.slice A n c, .slice B m' d] w (Ret (.bool true) w) := by
  obtain ⟨hA, hn⟩ := hA
  obtain ⟨hB, hm'⟩ := hB
  have HA := Lib.hid hA
  clear hA hB
  cases hbig : bigB n m' with
  | true =>
    go_enter Try.func9, Try.ntmps9
    go_wp2_with fail
    refine (big_any _ _ _ _ _ _ _ hn hm').mono ?_; rintro e w1 ⟨rfl, k1, rfl⟩
    go_wp2
    go_ret
    exact ⟨rfl, by (repeat' (first | (with_reducible exact Below.refl _ _) | (with_reducible assumption) | (with_reducible refine Below.drew ?_) | (with_reducible refine belowDrewN ?_ _) | (with_reducible refine Below.alloc ?_ ?_ _) | (with_reducible refine Below.setCell ?_ ?_ _) | (with_reducible refine belowStep (by assumption) ?_ ?_) | (with_reducible exact Below.size (by assumption)) | go_size))⟩
  | false =>
    have hn2 : n ≤ 1048576 ∧ m' ≤ 1048576 := by
      simp only [bigB, Bool.or_eq_false_iff, decide_eq_false_iff_not] at hbig
      omega
    go_enter Try.func9, Try.ntmps9
    go_wp2_with fail
    refine (big_any _ _ _ _ _ _ _ hn hm').mono ?_; rintro e w1 ⟨rfl, k1, rfl⟩
    go_wp2_with fail
    refine (drawOdd_any _ A n c (HA.out.below (by (repeat' (first | (with_reducible exact Below.refl _ _) | (with_reducible assumption) | (with_reducible refine Below.drew ?_) | (with_reducible refine belowDrewN ?_ _) | (with_reducible refine Below.alloc ?_ ?_ _) | (with_reducible refine Below.setCell ?_ ?_ _) | (with_reducible refine belowStep (by assumption) ?_ ?_) | (with_reducible exact Below.size (by assumption)) | go_size)))) hn2.1).mono ?_; rintro e w2 ⟨a, b, low, rfl, ha, hb, hl, hb2⟩
    have hz2 := hb2.size
    (try simp only [World.heap_drewN] at hz2)
    clear hbig
    have TG := Lib.hid (TwoAt.new w2 (a) (b) 27)
    obtain ⟨oG1, oG2, oG3, oG4, oG5⟩ := TG.out
    go_wp2_with fail
    refine (odd_any a b low _ ha hb hl).mono ?_; rintro e w5 ⟨v5, rfl, ho5, hb5⟩; have hz5 := hb5.size; (try simp only [World.size_alloc] at hz5)
    clear oG1 oG2 oG3 oG4 oG5
    have TG := Lib.hid (TG.out.below hb5)
    obtain ⟨A5, c5, rfl, hr5⟩ := ho5.form
    have HR5 := Lib.hid hr5
    clear ho5 hr5
    obtain ⟨oG1, oG2, oG3, oG4, oG5⟩ := TG.out
    go_wp2_with fail
    refine (spec_odd_any a b low _).mono ?_; rintro e w6 ⟨A6, c6, rfl, hr6, hb6⟩; have hz6 := hb6.size; (try simp only [World.size_alloc, World.size_setCell, World.size_drew, World.heap_drewN] at hz6)
    clear oG1 oG2 oG3 oG4 oG5
    have TG := Lib.hid (TG.out.below hb6)
    have HR6 := Lib.hid hr6
    have HR5 := Lib.hid (HR5.out.below hb6)
    have hxl := oddO_len a b low
    clear hr6
    obtain ⟨oG1, oG2, oG3, oG4, oG5⟩ := TG.out
    go_wp2_with fail
    refine ((pSame_same _ _ _ _ _ _ HR5.out HR6.out (by omega)).mono fun _ _ h => h.retL).mono ?_; rintro e w7 ⟨rfl, hb7⟩
    have hz7 := hb7.size
    clear oG1 oG2 oG3 oG4 oG5
    have TG := Lib.hid (TG.out.below hb7)
    have HR7 := Lib.hid (HR5.out.below hb7)
    have hbw7 : Below w.heap.size w w7 := by (repeat' (first | (with_reducible exact Below.refl _ _) | (with_reducible assumption) | (with_reducible refine Below.drew ?_) | (with_reducible refine belowDrewN ?_ _) | (with_reducible refine Below.alloc ?_ ?_ _) | (with_reducible refine Below.setCell ?_ ?_ _) | (with_reducible refine belowStep (by assumption) ?_ ?_) | (with_reducible exact Below.size (by assumption)) | go_size))
    clear HR6 HR5
    obtain ⟨oG1, oG2, oG3, oG4, oG5⟩ := TG.out
    cases hE : oddO a b low with
    | none =>
      clear hE
      go_wp2
      go_ret
      exact ⟨rfl, by (repeat' (first | (with_reducible exact Below.refl _ _) | (with_reducible assumption) | (with_reducible refine Below.drew ?_) | (with_reducible refine belowDrewN ?_ _) | (with_reducible refine Below.alloc ?_ ?_ _) | (with_reducible refine Below.setCell ?_ ?_ _) | (with_reducible refine belowStep (by assumption) ?_ ?_) | (with_reducible exact Below.size (by assumption)) | go_size))⟩
    | some xs =>
      have L := Lib.hid (oddO_back hE)
      rw [hE] at HR7
      have HR := Lib.hid (show Reads w7 A5 xs from HR7.out)
      simp only [Option.getD_some, Option.isSome_some]
      have hx24 := L.out.l24
      have hmost := L.out.most
      have hn0 := L.out.n0
      have hpar : (((xs.length : Nat) : Int).tmod 2 == a.tmod 2) = true := by
        rw [Int.tmod_eq_emod_of_nonneg (by omega), Int.tmod_eq_emod_of_nonneg hn0, L.out.par]; simp
      have hpar2 : (((xs.length : Nat) : Int) % 2 == a % 2) = true := by rw [L.out.par]; simp
      clear hE hxl
      clear oG1 oG2 oG3 oG4 oG5
      have HPS := Lib.hid fun (w : World) (h : Reads w A5 xs) => pSums_yes w a b A5 c5 xs h (by omega) L.out.x64 L.out.exp L.out.sum.1 L.out.sum.2
      go_wp2
      go_loopw [50] (fun vi wr => ∃ k : Nat, k ≤ xs.length ∧ vi = .int .i64 (k : Int) ∧ ∃ n, wr = w7.drewN n) (fun vi _ => xs.length - (intOf vi).toNat)
      case atStart => exact ⟨0, Nat.zero_le _, rfl, 0, rfl⟩
      case round =>
        obtain ⟨k, hk, rfl, nn, rfl⟩ := hrel
        by_cases hlt : k < xs.length
        · obtain ⟨b1, o1, x, eA, hb1, hx, hcell⟩ := HR.out.at_ hlt
          have ho := L.out.odd x (List.mem_of_getElem? hx)
          have he : (x.tmod 2 == 0) = false := by rw [Int.tmod_eq_emod_of_nonneg (by omega), ho.2]; rfl
          have hki : (k : Int) < (xs.length : Int) := by omega
          subst eA
          clear hx
          go_wp2
          go_roundw
          case rel => exact ⟨k + 1, by omega, by go_num, _, rfl⟩
          case measure => simp [intOf]; omega
        · obtain rfl : k = xs.length := by omega
          obtain ⟨oG1, oG2, oG3, oG4, oG5⟩ := TG.out
          go_wp2_with fail
          refine (HPS.out _ (HR.out.below (by (repeat' (first | (with_reducible exact Below.refl _ _) | (with_reducible assumption) | (with_reducible refine Below.drew ?_) | (with_reducible refine belowDrewN ?_ _) | (with_reducible refine Below.alloc ?_ ?_ _) | (with_reducible refine Below.setCell ?_ ?_ _) | (with_reducible refine belowStep (by assumption) ?_ ?_) | (with_reducible exact Below.size (by assumption)) | go_size))))).mono ?_; rintro e w9 ⟨rfl, hb9⟩; have hz9 := hb9.size; (try simp only [World.heap_drewN] at hz9)
          clear oG1 oG2 oG3 oG4 oG5
          have hb79 : Below w7.heap.size w7 w9 := by (repeat' (first | (with_reducible exact Below.refl _ _) | (with_reducible assumption) | (with_reducible refine Below.drew ?_) | (with_reducible refine belowDrewN ?_ _) | (with_reducible refine Below.alloc ?_ ?_ _) | (with_reducible refine Below.setCell ?_ ?_ _) | (with_reducible refine belowStep (by assumption) ?_ ?_) | (with_reducible exact Below.size (by assumption)) | go_size))
          have hbw9 : Below w.heap.size w w9 := hbw7.trans (hb79.mono (by have := hbw7.size; omega))
          have TG := Lib.hid (TG.out.below hb79)
          have HR := Lib.hid (HR.out.below hb79)
          obtain ⟨oG1, oG2, oG3, oG4, oG5⟩ := TG.out
          go_wp2_with fail
          refine (odd_any a b (xs.length : Int) _ ha hb ⟨by omega, by omega⟩).mono ?_; rintro e w10 ⟨v10, rfl, ho10, hb10⟩; have hz10 := hb10.size; (try simp only [World.size_alloc, World.size_setCell, World.size_drew, World.heap_drewN] at hz10)
          rw [L.out.again] at ho10 ⊢
          obtain ⟨A10, c10, rfl, hr10⟩ := (show OwnI w10 _ v10 xs from ho10).form
          have H10 := Lib.hid hr10
          clear oG1 oG2 oG3 oG4 oG5
          have TG := Lib.hid (TG.out.below hb10)
          have HR := Lib.hid (HR.out.below hb10)
          simp only [Option.isSome_some]
          clear ho10 hr10
          obtain ⟨oG1, oG2, oG3, oG4, oG5⟩ := TG.out
          by_cases h0 : xs.length = 0
          · have hl1 : decide ((0 : Int) < (xs.length : Int)) = false := decide_eq_false (by omega)
            have hl2 : ¬ (0 : Int) < (xs.length : Int) := by omega
            have hl3 : ¬ 0 < xs.length := by omega
            clear h0
            go_wp2_with fail
            refine ((pSame_same _ _ _ _ _ _ H10.out HR.out (by omega)).mono fun _ _ h => h.retL).mono ?_; rintro e w15 ⟨rfl, hb15⟩
            clear oG1 oG2 oG3 oG4 oG5
            have TG := Lib.hid (TG.out.below hb15)
            obtain ⟨oG1, oG2, oG3, oG4, oG5⟩ := TG.out
            have hbw15 : Below w.heap.size w w15 := (hbw9.trans (hb10.mono (by have := hbw9.size; omega))).trans (hb15.mono (by have := hbw9.size; omega))
            go_wp2
            go_ret
            exact ⟨ret_bool (by first | exact hpar | exact hpar2 | rfl), hbw15⟩
          · have hl1 : (0 : Int) < (xs.length : Int) := by omega
            have HFW := Lib.hid (L.out.fewer (by omega))
            clear h0
            go_wp2_with fail
            refine (odd_any a b ((xs.length : Int) - 1) _ ha hb ⟨by omega, by omega⟩).mono ?_; rintro e w11 ⟨v11, rfl, ho11, hb11⟩; have hz11 := hb11.size; (try simp only [World.size_alloc, World.size_setCell, World.size_drew, World.heap_drewN] at hz11)
            rw [HFW.out]
            clear oG1 oG2 oG3 oG4 oG5
            have TG := Lib.hid (TG.out.below hb11)
            have HR := Lib.hid (HR.out.below hb11)
            have H10 := Lib.hid (H10.out.below hb11)
            obtain ⟨oG1, oG2, oG3, oG4, oG5⟩ := TG.out
            go_wp2_with fail
            refine ((pSame_same _ _ _ _ _ _ H10.out HR.out (by omega)).mono fun _ _ h => h.retL).mono ?_; rintro e w15 ⟨rfl, hb15⟩
            clear oG1 oG2 oG3 oG4 oG5
            have TG := Lib.hid (TG.out.below hb15)
            obtain ⟨oG1, oG2, oG3, oG4, oG5⟩ := TG.out
            have hbw15 : Below w.heap.size w w15 := ((hbw9.trans (hb10.mono (by have := hbw9.size; omega))).trans (hb11.mono (by have := hbw9.size; omega))).trans (hb15.mono (by have := hbw9.size; omega))
            go_wp2
            go_ret
            exact ⟨ret_bool (by first | exact hpar | exact hpar2 | rfl), hbw15⟩

set_option maxRecDepth 100000 in
theorem FnOddGreedyTerms_lifted (os : Os) (started : os.Started) (H : Type) (enc : TypeId × Value → H) :
    ReturnsInHanded {} Try.checked os 9 .any (Rows.fnOddGreedyTermsSpec.pre6 enc Try.prog Try.f9 Rows.fnOddGreedyTermsRow.domain false) (Rows.fnOddGreedyTermsSpec.post enc Try.prog Try.f9 false true false false) := by
  refine returnsInHanded_of_change (C := Try.checked) own started (by kernel_rfl) Try.func9
    (ChangeSpec.witness6 (enc := enc) (C := Try.checked) false ⟨#[], #[.slice none 0 0, .slice none 0 0], []⟩ 8 (by kernel_rfl) (by kernel_rfl) (by kernel_rfl) (by kernel_rfl)) ?_
  intro W base args ds gs before hval0 hW hcnd _
  have hval : ∀ (j : Nat) t v, Try.f9.params[j]? = some t → args[j]? = some v → Value.okWide Try.prog W .any base t v := hval0
  have hW' := hW
  have hlt : ∀ p ∈ before, p.block < W.heap.size := fun p hp => hW'.lt p hp
  obtain ⟨p, q, hA0, hV, rfl, hfz, hnd⟩ := hW
  have hA : DataW.TrodAll enc Try.prog W 0 (fun _ => true) true Try.f9.params.toList args.toList ds p := hA0
  rw [Try.params9] at hA hval
  obtain ⟨v0, vs0, d0, ds0, p0, q0, hargs, rfl, rfl, h0, r0⟩ := trodAll_cons hA
  obtain ⟨v1, vs1, d1, ds1, p1, q1, rfl, rfl, rfl, h1, r1⟩ := trodAll_cons r0
  obtain ⟨rfl, rfl, rfl⟩ := trodAll_nil r1
  obtain rfl : args = #[v0, v1] := by cases args; simp_all
  obtain ⟨rfl, rfl⟩ := trodVars_none hV
  obtain ⟨Aa, ca, na, rfl, ha⟩ := open_bytes_reads Try.underlying36 Try.underlying5 (by kernel_rfl) (hval 0 36 v0 rfl rfl) h0 (fun y hy => hlt y (by simp [hy]))
  obtain ⟨Ab, cb, nb, rfl, hb⟩ := open_bytes_reads Try.underlying36 Try.underlying5 (by kernel_rfl) (hval 1 36 v1 rfl rfl) h1 (fun y hy => hlt y (by simp [hy]))
  refine (FnOddGreedyTerms_walk W Aa ca na Ab cb nb ha hb).mono fun e W' ⟨he, hg⟩ => ?_
  subst he
  exact ⟨_, rfl, law_post laidOut (by rw [Try.params9]; intro t ht; simp only [List.mem_cons, List.not_mem_nil, or_false] at ht; rcases ht with rfl | rfl <;> exact ⟨by kernel_rfl, of_decide_eq_true (by kernel_rfl)⟩) (by kernel_rfl) Try.underlying4 rfl hW' rfl hg⟩

theorem FnOddGreedyTerms_closed : joinedFacts Try.prog 9 Try.f9 Rows.fnOddGreedyTermsSpec Rows.fnOddGreedyTermsRow = true := by
  unfold joinedFacts
  rw [mayEnter_eq, lifts_eq, make_eq]
  kernel_rfl

theorem FnOddGreedyTerms_holds : Rows.FnOddGreedyTermsSaid :=
  OpenClaim.holds_of_wide 9 Try.f9 rfl rfl rfl rfl rfl rfl rfl ⟨rfl, rfl, rfl, rfl, rfl⟩ rfl rfl rfl rfl rfl (by kernel_rfl) Try.func9 FnOddGreedyTerms_closed
    (of_decide_eq_true (by kernel_rfl)) (by unfold Func.isWrapper; first | (rw [if_pos (by decide +kernel)]; kernel_rfl) | (rw [if_neg (by decide +kernel)]; exact ⟨rfl, rfl⟩))
    (fun os started H enc _ => FnOddGreedyTerms_lifted os started H enc)

end Go.Proofs.Ytbjblkfibinenac
