
/-
  For all bytes: two fractions are drawn; the expansions by pairs and by splits are the model's and have the fractions as their sums; pairs never make more numbers, and splits never fewer. No condition.
-/
import Derived.Test.YtolgjokghecceaaGreatPsA
import Derived.Test.YtolgjokghecceaaGreatShell
import Derived.Test.YtolgjokghecceaaGreatSame
namespace Go.Proofs.YtolgjokghecceaaGreat
open Go.ChangeShapes Go.WideShapes Go.ChangeAt Go.RowKit Go.Joins Go.Deep
set_option maxRecDepth 100000 in
set_option maxHeartbeats 32000000 in
theorem FnPairsAndSplits_walk (w : World) (A : Option Addr) (c n : Nat) (B : Option Addr) (d m' : Nat) (hA : ReadsB w A n ∧ n ≤ 9223372036854775807) (hB : ReadsB w B m' ∧ m' ≤ 9223372036854775807) :
    Calls Tryz.prog 3 #[.slice A n c, .slice B m' d] w (Ret (.bool true) w) := by
  obtain ⟨hA, hn⟩ := hA
  obtain ⟨hB, hm'⟩ := hB
  have HA := Lib.hid hA
  have HB := Lib.hid hB
  clear hA hB
  cases hbig : bigB n m' with
  | true =>
    go_enter Tryz.func3, Tryz.ntmps3
    go_wp2_with fail
    refine (big_any _ _ _ _ _ _ _ hn hm').mono ?_; rintro e w1 ⟨rfl, k1, rfl⟩
    go_wp2
    go_ret
    exact ⟨rfl, by (repeat' (first | (with_reducible exact Below.refl _ _) | (with_reducible assumption) | (with_reducible refine Below.drew ?_) | (with_reducible refine belowDrewN ?_ _) | (with_reducible refine Below.alloc ?_ ?_ _) | (with_reducible refine Below.setCell ?_ ?_ _) | (with_reducible refine belowStep (by assumption) ?_ ?_) | (with_reducible exact Below.size (by assumption)) | go_size))⟩
  | false =>
    have hn2 : n ≤ 1048576 ∧ m' ≤ 1048576 := by
      simp only [bigB, Bool.or_eq_false_iff, decide_eq_false_iff_not] at hbig
      omega
    go_enter Tryz.func3, Tryz.ntmps3
    go_wp2_with fail
    refine (big_any _ _ _ _ _ _ _ hn hm').mono ?_; rintro e w1 ⟨rfl, k1, rfl⟩
    go_wp2_with fail
    refine (drawPair_any _ A n c (HA.out.below (by (repeat' (first | (with_reducible exact Below.refl _ _) | (with_reducible assumption) | (with_reducible refine Below.drew ?_) | (with_reducible refine belowDrewN ?_ _) | (with_reducible refine Below.alloc ?_ ?_ _) | (with_reducible refine Below.setCell ?_ ?_ _) | (with_reducible refine belowStep (by assumption) ?_ ?_) | (with_reducible exact Below.size (by assumption)) | go_size)))) hn2.1).mono ?_; rintro e w2 ⟨a, b, rfl, ha, hb, hb2⟩
    have hz2 := hb2.size
    (try simp only [World.heap_drewN] at hz2)
    clear hbig
    have TG := Lib.hid (TwoAt.new w2 (a) (b) 25)
    obtain ⟨oG1, oG2, oG3, oG4, oG5⟩ := TG.out
    go_wp2_with fail
    refine (pairExp_any a b _ ha hb).mono ?_; rintro e w3 ⟨v3, rfl, ho3, hb3⟩; have hz3 := hb3.size; (try simp only [World.size_alloc, World.size_setCell, World.size_drew, World.heap_drewN] at hz3)
    clear oG1 oG2 oG3 oG4 oG5
    have TG := Lib.hid (TG.out.below hb3)
    obtain ⟨A3, c3, rfl, hr3⟩ := ho3.form
    have HR3 := Lib.hid hr3
    clear ho3 hr3
    obtain ⟨oG1, oG2, oG3, oG4, oG5⟩ := TG.out
    go_wp2_with fail
    refine (spec_pair_any a b _).mono ?_; rintro e w4 ⟨A4, c4, rfl, hr4, hb4⟩; have hz4 := hb4.size; (try simp only [World.size_alloc, World.size_setCell, World.size_drew, World.heap_drewN] at hz4)
    clear oG1 oG2 oG3 oG4 oG5
    have TG := Lib.hid (TG.out.below hb4)
    have HR4 := Lib.hid hr4
    have HR3 := Lib.hid (HR3.out.below hb4)
    have hxl := twE_len repP a b
    have HP := Lib.hid fun (xs : List Int) (h : twE repP a b = some xs) => (let ⟨b1, b2, _⟩ := twE_back repP_good repP_q h; (⟨b1, b2 repP_few⟩ : TwB a b xs ∧ (xs.length : Int) ≤ a))
    have HPn : Hid (twE repP a b = none ∨ ∃ xs, twE repP a b = some xs) := Lib.hid (by cases twE repP a b with | none => exact .inl rfl | some xs => exact .inr ⟨xs, rfl⟩)
    clear hr4
    generalize hpo : twE repP a b = po at *
    clear hpo
    obtain ⟨oG1, oG2, oG3, oG4, oG5⟩ := TG.out
    go_wp2_with fail
    refine ((pSame_same _ _ _ _ _ _ HR3.out HR4.out (by omega)).mono fun _ _ h => h.ret).mono ?_; rintro e w5 ⟨rfl, hb5⟩
    have hz5 := hb5.size
    clear oG1 oG2 oG3 oG4 oG5
    have TG := Lib.hid (TG.out.below hb5)
    have HR5 := Lib.hid (HR3.out.below hb5)
    have hbw5 : Below w.heap.size w w5 := by (repeat' (first | (with_reducible exact Below.refl _ _) | (with_reducible assumption) | (with_reducible refine Below.drew ?_) | (with_reducible refine belowDrewN ?_ _) | (with_reducible refine Below.alloc ?_ ?_ _) | (with_reducible refine Below.setCell ?_ ?_ _) | (with_reducible refine belowStep (by assumption) ?_ ?_) | (with_reducible exact Below.size (by assumption)) | go_size))
    clear HR3 HR4
    obtain ⟨oG1, oG2, oG3, oG4, oG5⟩ := TG.out
    go_wp2_with fail
    refine (drawSplit_any _ B m' d (HB.out.below (by (repeat' (first | (with_reducible exact Below.refl _ _) | (with_reducible assumption) | (with_reducible refine Below.drew ?_) | (with_reducible refine belowDrewN ?_ _) | (with_reducible refine Below.alloc ?_ ?_ _) | (with_reducible refine Below.setCell ?_ ?_ _) | (with_reducible refine belowStep (by assumption) ?_ ?_) | (with_reducible exact Below.size (by assumption)) | go_size)))) hn2.2).mono ?_; rintro e w6 ⟨p, q, rfl, hp, hq, hb6⟩
    have hz6 := hb6.size
    clear oG1 oG2 oG3 oG4 oG5
    have TG := Lib.hid (TG.out.below hb6)
    have TH := Lib.hid (TwoAt.new w6 (p) (q) 25)
    have TG := Lib.hid (TG.out.below ((Below.refl _ _).alloc (Nat.le_refl _) (.cells #[.int .i64 (p), .int .i64 (q)] 25)))
    have HR6 := Lib.hid (HR5.out.below (show Below w5.heap.size w5 (w6.alloc (.cells #[.int .i64 (p), .int .i64 (q)] 25)) by (repeat' (first | (with_reducible exact Below.refl _ _) | (with_reducible assumption) | (with_reducible refine Below.drew ?_) | (with_reducible refine belowDrewN ?_ _) | (with_reducible refine Below.alloc ?_ ?_ _) | (with_reducible refine Below.setCell ?_ ?_ _) | (with_reducible refine belowStep (by assumption) ?_ ?_) | (with_reducible exact Below.size (by assumption)) | go_size))))
    clear HR5
    obtain ⟨oH1, oH2, oH3, oH4, oH5⟩ := TH.out
    go_wp2_with fail
    refine (splitExp_any p q _ hp hq).mono ?_; rintro e w7 ⟨v7, rfl, ho7, hb7⟩; have hz7 := hb7.size; (try simp only [World.size_alloc, World.size_setCell, World.size_drew, World.heap_drewN] at hz7)
    clear oH1 oH2 oH3 oH4 oH5
    have TH := Lib.hid (TH.out.below hb7)
    have TG := Lib.hid (TG.out.below hb7)
    obtain ⟨A7, c7, rfl, hr7⟩ := ho7.form
    have HS7 := Lib.hid hr7
    have HR7 := Lib.hid (HR6.out.below hb7)
    clear ho7 hr7 HR6
    obtain ⟨oH1, oH2, oH3, oH4, oH5⟩ := TH.out
    go_wp2_with fail
    refine (spec_split_any p q _).mono ?_; rintro e w8 ⟨A8, c8, rfl, hr8, hb8⟩; have hz8 := hb8.size; (try simp only [World.size_alloc, World.size_setCell, World.size_drew, World.heap_drewN] at hz8)
    clear oH1 oH2 oH3 oH4 oH5
    have TH := Lib.hid (TH.out.below hb8)
    have TG := Lib.hid (TG.out.below hb8)
    have HS8 := Lib.hid hr8
    have HS7 := Lib.hid (HS7.out.below hb8)
    have HR8 := Lib.hid (HR7.out.below hb8)
    have hyl := twE_len repS p q
    have HQ := Lib.hid fun (xs : List Int) (h : twE repS p q = some xs) => (let ⟨b1, _, b3⟩ := twE_back repS_good repS_q h; (⟨b1, b3 repS_more⟩ : TwB p q xs ∧ p ≤ (xs.length : Int)))
    clear hr8 HR7
    generalize hso : twE repS p q = so at *
    clear hso
    obtain ⟨oH1, oH2, oH3, oH4, oH5⟩ := TH.out
    go_wp2_with fail
    refine ((pSame_same _ _ _ _ _ _ HS7.out HS8.out (by omega)).mono fun _ _ h => h.ret).mono ?_; rintro e w9 ⟨rfl, hb9⟩
    have hz9 := hb9.size
    clear oH1 oH2 oH3 oH4 oH5
    have TH := Lib.hid (TH.out.below hb9)
    have TG := Lib.hid (TG.out.below hb9)
    have HS9 := Lib.hid (HS7.out.below hb9)
    have HR9 := Lib.hid (HR8.out.below hb9)
    have hbw9 : Below w.heap.size w w9 := by (repeat' (first | (with_reducible exact Below.refl _ _) | (with_reducible assumption) | (with_reducible refine Below.drew ?_) | (with_reducible refine belowDrewN ?_ _) | (with_reducible refine Below.alloc ?_ ?_ _) | (with_reducible refine Below.setCell ?_ ?_ _) | (with_reducible refine belowStep (by assumption) ?_ ?_) | (with_reducible exact Below.size (by assumption)) | go_size))
    clear HS7 HS8 HR8
    cases so with
    | none =>
      rcases HPn.out with rfl | ⟨xs, rfl⟩
      · go_wp2
        go_ret
        exact ⟨rfl, hbw9⟩
      · obtain ⟨TP, hpa⟩ := HP.out xs rfl
        have HPX := Lib.hid fun (w : World) (h : Reads w A3 xs) => pSums_yes w a b A3 c3 xs h (by have := TP.l24; omega) TP.x64 TP.exp TP.sum.1 TP.sum.2
        have hda : decide ((xs.length : Int) ≤ a) = true := decide_eq_true hpa
        have HRx : Hid (Reads w9 A3 xs) := HR9
        clear HP TP
        obtain ⟨oG1, oG2, oG3, oG4, oG5⟩ := TG.out
        go_wp2_with fail
        refine (HPX.out _ HRx.out).mono ?_; rintro e w11 ⟨rfl, hb11⟩; have hz11 := hb11.size; (try simp only [World.size_alloc, World.size_setCell, World.size_drew, World.heap_drewN] at hz11)
        clear oG1 oG2 oG3 oG4 oG5
        have TG := Lib.hid (TG.out.below hb11)
        obtain ⟨oG1, oG2, oG3, oG4, oG5⟩ := TG.out
        go_wp2
        go_ret
        exact ⟨rfl, by (repeat' (first | (with_reducible exact Below.refl _ _) | (with_reducible assumption) | (with_reducible refine Below.drew ?_) | (with_reducible refine belowDrewN ?_ _) | (with_reducible refine Below.alloc ?_ ?_ _) | (with_reducible refine Below.setCell ?_ ?_ _) | (with_reducible refine belowStep (by assumption) ?_ ?_) | (with_reducible exact Below.size (by assumption)) | go_size))⟩
    | some ys =>
      obtain ⟨TB, hpl⟩ := HQ.out ys rfl
      have HPS := Lib.hid fun (w : World) (h : Reads w A7 ys) => pSums_yes w p q A7 c7 ys h (by have := TB.l24; omega) TB.x64 TB.exp TB.sum.1 TB.sum.2
      have hdl : decide ((ys.length : Int) < p) = false := decide_eq_false (by omega)
      have HS9' : Hid (Reads w9 A7 ys) := HS9
      clear HQ TB HS9
      obtain ⟨oH1, oH2, oH3, oH4, oH5⟩ := TH.out
      go_wp2_with fail
      refine (HPS.out _ HS9'.out).mono ?_; rintro e w10 ⟨rfl, hb10⟩; have hz10 := hb10.size; (try simp only [World.size_alloc, World.size_setCell, World.size_drew, World.heap_drewN] at hz10)
      clear oH1 oH2 oH3 oH4 oH5
      have TH := Lib.hid (TH.out.below hb10)
      have TG := Lib.hid (TG.out.below hb10)
      have HR10 := Lib.hid (HR9.out.below hb10)
      have hbw10 : Below w.heap.size w w10 := by (repeat' (first | (with_reducible exact Below.refl _ _) | (with_reducible assumption) | (with_reducible refine Below.drew ?_) | (with_reducible refine belowDrewN ?_ _) | (with_reducible refine Below.alloc ?_ ?_ _) | (with_reducible refine Below.setCell ?_ ?_ _) | (with_reducible refine belowStep (by assumption) ?_ ?_) | (with_reducible exact Below.size (by assumption)) | go_size))
      obtain ⟨oH1, oH2, oH3, oH4, oH5⟩ := TH.out
      rcases HPn.out with rfl | ⟨xs, rfl⟩
      · go_wp2
        go_ret
        exact ⟨rfl, hbw10⟩
      · obtain ⟨TP, hpa⟩ := HP.out xs rfl
        have HPX := Lib.hid fun (w : World) (h : Reads w A3 xs) => pSums_yes w a b A3 c3 xs h (by have := TP.l24; omega) TP.x64 TP.exp TP.sum.1 TP.sum.2
        have hda : decide ((xs.length : Int) ≤ a) = true := decide_eq_true hpa
        have HRx : Hid (Reads w10 A3 xs) := HR10
        clear HP TP
        obtain ⟨oG1, oG2, oG3, oG4, oG5⟩ := TG.out
        go_wp2_with fail
        refine (HPX.out _ HRx.out).mono ?_; rintro e w11 ⟨rfl, hb11⟩; have hz11 := hb11.size; (try simp only [World.size_alloc, World.size_setCell, World.size_drew, World.heap_drewN] at hz11)
        clear oG1 oG2 oG3 oG4 oG5
        have TG := Lib.hid (TG.out.below hb11)
        obtain ⟨oG1, oG2, oG3, oG4, oG5⟩ := TG.out
        go_wp2
        go_ret
        exact ⟨rfl, by (repeat' (first | (with_reducible exact Below.refl _ _) | (with_reducible assumption) | (with_reducible refine Below.drew ?_) | (with_reducible refine belowDrewN ?_ _) | (with_reducible refine Below.alloc ?_ ?_ _) | (with_reducible refine Below.setCell ?_ ?_ _) | (with_reducible refine belowStep (by assumption) ?_ ?_) | (with_reducible exact Below.size (by assumption)) | go_size))⟩

set_option maxRecDepth 100000 in
theorem FnPairsAndSplits_lifted (os : Os) (started : os.Started) (H : Type) (enc : TypeId × Value → H) :
    ReturnsInHanded {} Tryz.checked os 3 .any (Rows.fnPairsAndSplitsSpec.pre6 enc Tryz.prog Tryz.f3 Rows.fnPairsAndSplitsRow.domain false) (Rows.fnPairsAndSplitsSpec.post enc Tryz.prog Tryz.f3 false true false false) := by
  refine returnsInHanded_of_change (C := Tryz.checked) own started (by kernel_rfl) Tryz.func3
    (ChangeSpec.witness6 (enc := enc) (C := Tryz.checked) false ⟨#[], #[.slice none 0 0, .slice none 0 0], []⟩ 8 (by kernel_rfl) (by kernel_rfl) (by kernel_rfl) (by kernel_rfl)) ?_
  intro W base args ds gs before hval0 hW hcnd _
  have hval : ∀ (j : Nat) t v, Tryz.f3.params[j]? = some t → args[j]? = some v → Value.okWide Tryz.prog W .any base t v := hval0
  have hW' := hW
  have hlt : ∀ p ∈ before, p.block < W.heap.size := fun p hp => hW'.lt p hp
  obtain ⟨p, q, hA0, hV, rfl, hfz, hnd⟩ := hW
  have hA : DataW.TrodAll enc Tryz.prog W 0 (fun _ => true) true Tryz.f3.params.toList args.toList ds p := hA0
  rw [Tryz.params3] at hA hval
  obtain ⟨v0, vs0, d0, ds0, p0, q0, hargs, rfl, rfl, h0, r0⟩ := trodAll_cons hA
  obtain ⟨v1, vs1, d1, ds1, p1, q1, rfl, rfl, rfl, h1, r1⟩ := trodAll_cons r0
  obtain ⟨rfl, rfl, rfl⟩ := trodAll_nil r1
  obtain rfl : args = #[v0, v1] := by cases args; simp_all
  obtain ⟨rfl, rfl⟩ := trodVars_none hV
  obtain ⟨Aa, ca, na, rfl, ha⟩ := open_bytes_reads Tryz.underlying22 Tryz.underlying5 (by kernel_rfl) (hval 0 22 v0 rfl rfl) h0 (fun y hy => hlt y (by simp [hy]))
  obtain ⟨Ab, cb, nb, rfl, hb⟩ := open_bytes_reads Tryz.underlying22 Tryz.underlying5 (by kernel_rfl) (hval 1 22 v1 rfl rfl) h1 (fun y hy => hlt y (by simp [hy]))
  refine (FnPairsAndSplits_walk W Aa ca na Ab cb nb ha hb).mono fun e W' ⟨he, hg⟩ => ?_
  subst he
  exact ⟨_, rfl, law_post laidOut (by rw [Tryz.params3]; intro t ht; simp only [List.mem_cons, List.not_mem_nil, or_false] at ht; rcases ht with rfl | rfl <;> exact ⟨by kernel_rfl, of_decide_eq_true (by kernel_rfl)⟩) (by kernel_rfl) Tryz.underlying4 rfl hW' rfl hg⟩

theorem FnPairsAndSplits_closed : joinedFacts Tryz.prog 3 Tryz.f3 Rows.fnPairsAndSplitsSpec Rows.fnPairsAndSplitsRow = true := by
  unfold joinedFacts
  rw [mayEnter_eq, lifts_eq, make_eq]
  kernel_rfl

theorem FnPairsAndSplits_holds : Rows.FnPairsAndSplitsSaid :=
  OpenClaim.holds_of_wide 3 Tryz.f3 rfl rfl rfl rfl rfl rfl rfl ⟨rfl, rfl, rfl, rfl, rfl⟩ rfl rfl rfl rfl rfl (by kernel_rfl) Tryz.func3 FnPairsAndSplits_closed
    (of_decide_eq_true (by kernel_rfl)) (by unfold Func.isWrapper; first | (rw [if_pos (by decide +kernel)]; kernel_rfl) | (rw [if_neg (by decide +kernel)]; exact ⟨rfl, rfl⟩))
    (fun os started H enc _ => FnPairsAndSplits_lifted os started H enc)

end Go.Proofs.YtolgjokghecceaaGreat
