
/-
  For every string, the program reads the fraction that the model reads, or none as it does. Conditions: the library's tables and sentinels hold what its initialisers lay.
-/
import Derived.Test.YtfcklhppemidhaaDoorShellD
import Derived.Test.YtfcklhppemidhaaDoorTie
import Derived.Test.YtfcklhppemidhaaDoorCards
import Derived.SevenTiedAt
import Derived.Test.YtfcklhppemidhaaDoorShell
import Derived.Test.YtfcklhppemidhaaDoorParseM
namespace Go.Proofs.YtfcklhppemidhaaDoor
open Go.ChangeShapes Go.WideShapes Go.ChangeAt Go.RowKit Go.Joins Go.Deep
theorem FnExactParseFraction_walk (w : World) (s : ByteArray) (hm : s.size ≤ maxLen) (hE : EnvA w) : Calls Tryd.prog 6 #[.string s] w (Ret (.bool true) w) := by
  have HE := Lib.hid hE
  clear hE
  unfold maxLen at hm
  by_cases hs : s.size ≤ 1048576
  · have hle : (s.size : Int) ≤ 1048576 := by omega
    have hsp := fun w => spec_parseF_any s w hs
    cases hp : progF s.data.toList with
    | some p =>
      obtain ⟨n, d⟩ := p
      have HS := Lib.hid (fun w => (hsp w).1 n d hp)
      have HI := Lib.hid (fun w hE => parseF_yes s n d w hs hp hE)
      clear hsp hp
      go_enter Tryd.func6, Tryd.ntmps6
      go_wp2_with fail
      refine (HS.out _).mono ?_; rintro e w1 ⟨rfl, hb1⟩; have hz1 := hb1.size; (try simp only [World.size_alloc, World.size_setCell, World.size_drew, World.heap_drewN] at hz1)
      obtain ⟨hc1, hf1⟩ := bcellB hb1; have hz1 := hb1.size; (try simp only [World.size_alloc, World.size_setCell, World.size_drew, World.heap_drewN] at hc1 hf1 hz1); (try have hy1_r_0 : wr.heap.size < w1.heap.size := by omega); (try have hn1_r_0 : wr.heap.size ≠ w1.heap.size := by omega); (try have hm1_r_0 : w1.heap.size ≠ wr.heap.size := by omega); (try have hy1_r_1 : wr.heap.size + 1 < w1.heap.size := by omega); (try have hn1_r_1 : wr.heap.size + 1 ≠ w1.heap.size := by omega); (try have hm1_r_1 : w1.heap.size ≠ wr.heap.size + 1 := by omega); (try have hy1_r_2 : wr.heap.size + 1 + 1 < w1.heap.size := by omega); (try have hp1_r_1 : wr.heap.size < w1.heap.size + 1 := by omega); (try have hp1_r_2 : wr.heap.size < w1.heap.size + 1 + 1 := by omega); (try have hy1_0_0 : w.heap.size < w1.heap.size := by omega); (try have hn1_0_0 : w.heap.size ≠ w1.heap.size := by omega); (try have hm1_0_0 : w1.heap.size ≠ w.heap.size := by omega); (try have hy1_0_1 : w.heap.size + 1 < w1.heap.size := by omega); (try have hn1_0_1 : w.heap.size + 1 ≠ w1.heap.size := by omega); (try have hm1_0_1 : w1.heap.size ≠ w.heap.size + 1 := by omega); (try have hy1_0_2 : w.heap.size + 1 + 1 < w1.heap.size := by omega); (try have hp1_0_1 : w.heap.size < w1.heap.size + 1 := by omega); (try have hp1_0_2 : w.heap.size < w1.heap.size + 1 + 1 := by omega); (try have hg1_g1 : g1 < w1.heap.size := by omega); (try have hi1_g1 : g1 ≠ w1.heap.size := by omega); (try have hj1_g1 : w1.heap.size ≠ g1 := by omega); (try have hk1_g1 : g1 < w1.heap.size + 1 := by omega); (try have hg1_g2 : g2 < w1.heap.size := by omega); (try have hi1_g2 : g2 ≠ w1.heap.size := by omega); (try have hj1_g2 : w1.heap.size ≠ g2 := by omega); (try have hk1_g2 : g2 < w1.heap.size + 1 := by omega)
      go_wp2_with fail
      refine (HI.out _ (HE.out.below (by (repeat' (first | (with_reducible exact Below.refl _ _) | (with_reducible assumption) | (with_reducible refine Below.drew ?_) | (with_reducible refine belowDrewN ?_ _) | (with_reducible refine Below.alloc ?_ ?_ _) | (with_reducible refine Below.setCell ?_ ?_ _) | (with_reducible refine belowStep (by assumption) ?_ ?_) | (with_reducible exact Below.size (by assumption)) | go_size))))).mono ?_; rintro e w2 ⟨rfl, hb2⟩; have hz2 := hb2.size; (try simp only [World.size_alloc, World.size_setCell, World.size_drew, World.heap_drewN] at hz2)
      obtain ⟨hc2, hf2⟩ := bcellB hb2; have hz2 := hb2.size; (try simp only [World.size_alloc, World.size_setCell, World.size_drew, World.heap_drewN] at hc2 hf2 hz2); (try have hy2_r_0 : wr.heap.size < w2.heap.size := by omega); (try have hn2_r_0 : wr.heap.size ≠ w2.heap.size := by omega); (try have hm2_r_0 : w2.heap.size ≠ wr.heap.size := by omega); (try have hy2_r_1 : wr.heap.size + 1 < w2.heap.size := by omega); (try have hn2_r_1 : wr.heap.size + 1 ≠ w2.heap.size := by omega); (try have hm2_r_1 : w2.heap.size ≠ wr.heap.size + 1 := by omega); (try have hy2_r_2 : wr.heap.size + 1 + 1 < w2.heap.size := by omega); (try have hp2_r_1 : wr.heap.size < w2.heap.size + 1 := by omega); (try have hp2_r_2 : wr.heap.size < w2.heap.size + 1 + 1 := by omega); (try have hy2_0_0 : w.heap.size < w2.heap.size := by omega); (try have hn2_0_0 : w.heap.size ≠ w2.heap.size := by omega); (try have hm2_0_0 : w2.heap.size ≠ w.heap.size := by omega); (try have hy2_0_1 : w.heap.size + 1 < w2.heap.size := by omega); (try have hn2_0_1 : w.heap.size + 1 ≠ w2.heap.size := by omega); (try have hm2_0_1 : w2.heap.size ≠ w.heap.size + 1 := by omega); (try have hy2_0_2 : w.heap.size + 1 + 1 < w2.heap.size := by omega); (try have hp2_0_1 : w.heap.size < w2.heap.size + 1 := by omega); (try have hp2_0_2 : w.heap.size < w2.heap.size + 1 + 1 := by omega); (try have hy2_1_0 : w1.heap.size < w2.heap.size := by omega); (try have hn2_1_0 : w1.heap.size ≠ w2.heap.size := by omega); (try have hm2_1_0 : w2.heap.size ≠ w1.heap.size := by omega); (try have hy2_1_1 : w1.heap.size + 1 < w2.heap.size := by omega); (try have hn2_1_1 : w1.heap.size + 1 ≠ w2.heap.size := by omega); (try have hm2_1_1 : w2.heap.size ≠ w1.heap.size + 1 := by omega); (try have hy2_1_2 : w1.heap.size + 1 + 1 < w2.heap.size := by omega); (try have hp2_1_1 : w1.heap.size < w2.heap.size + 1 := by omega); (try have hp2_1_2 : w1.heap.size < w2.heap.size + 1 + 1 := by omega); (try have hg2_g1 : g1 < w2.heap.size := by omega); (try have hi2_g1 : g1 ≠ w2.heap.size := by omega); (try have hj2_g1 : w2.heap.size ≠ g1 := by omega); (try have hk2_g1 : g1 < w2.heap.size + 1 := by omega); (try have hg2_g2 : g2 < w2.heap.size := by omega); (try have hi2_g2 : g2 ≠ w2.heap.size := by omega); (try have hj2_g2 : w2.heap.size ≠ g2 := by omega); (try have hk2_g2 : g2 < w2.heap.size + 1 := by omega)
      go_wp2_with fail
      refine (eqFraction_same _ _ _).mono ?_; rintro e w3 ⟨rfl, hb3⟩; have hz3 := hb3.size; (try simp only [World.size_alloc, World.size_setCell, World.size_drew, World.heap_drewN] at hz3)
      go_wp2
      go_ret
      exact ⟨rfl, by (repeat' (first | (with_reducible exact Below.refl _ _) | (with_reducible assumption) | (with_reducible refine Below.drew ?_) | (with_reducible refine belowDrewN ?_ _) | (with_reducible refine Below.alloc ?_ ?_ _) | (with_reducible refine Below.setCell ?_ ?_ _) | (with_reducible refine belowStep (by assumption) ?_ ?_) | (with_reducible exact Below.size (by assumption)) | go_size))⟩
    | none =>
      have HS := Lib.hid (fun w => (hsp w).2 hp)
      have HI := Lib.hid (fun w hE => parseF_no s w hs hp hE)
      clear hsp hp
      go_enter Tryd.func6, Tryd.ntmps6
      go_wp2_with fail
      refine (HS.out _).mono ?_; rintro e w1 ⟨rfl, hb1⟩; have hz1 := hb1.size; (try simp only [World.size_alloc, World.size_setCell, World.size_drew, World.heap_drewN] at hz1)
      obtain ⟨hc1, hf1⟩ := bcellB hb1; have hz1 := hb1.size; (try simp only [World.size_alloc, World.size_setCell, World.size_drew, World.heap_drewN] at hc1 hf1 hz1); (try have hy1_r_0 : wr.heap.size < w1.heap.size := by omega); (try have hn1_r_0 : wr.heap.size ≠ w1.heap.size := by omega); (try have hm1_r_0 : w1.heap.size ≠ wr.heap.size := by omega); (try have hy1_r_1 : wr.heap.size + 1 < w1.heap.size := by omega); (try have hn1_r_1 : wr.heap.size + 1 ≠ w1.heap.size := by omega); (try have hm1_r_1 : w1.heap.size ≠ wr.heap.size + 1 := by omega); (try have hy1_r_2 : wr.heap.size + 1 + 1 < w1.heap.size := by omega); (try have hp1_r_1 : wr.heap.size < w1.heap.size + 1 := by omega); (try have hp1_r_2 : wr.heap.size < w1.heap.size + 1 + 1 := by omega); (try have hy1_0_0 : w.heap.size < w1.heap.size := by omega); (try have hn1_0_0 : w.heap.size ≠ w1.heap.size := by omega); (try have hm1_0_0 : w1.heap.size ≠ w.heap.size := by omega); (try have hy1_0_1 : w.heap.size + 1 < w1.heap.size := by omega); (try have hn1_0_1 : w.heap.size + 1 ≠ w1.heap.size := by omega); (try have hm1_0_1 : w1.heap.size ≠ w.heap.size + 1 := by omega); (try have hy1_0_2 : w.heap.size + 1 + 1 < w1.heap.size := by omega); (try have hp1_0_1 : w.heap.size < w1.heap.size + 1 := by omega); (try have hp1_0_2 : w.heap.size < w1.heap.size + 1 + 1 := by omega); (try have hg1_g1 : g1 < w1.heap.size := by omega); (try have hi1_g1 : g1 ≠ w1.heap.size := by omega); (try have hj1_g1 : w1.heap.size ≠ g1 := by omega); (try have hk1_g1 : g1 < w1.heap.size + 1 := by omega); (try have hg1_g2 : g2 < w1.heap.size := by omega); (try have hi1_g2 : g2 ≠ w1.heap.size := by omega); (try have hj1_g2 : w1.heap.size ≠ g2 := by omega); (try have hk1_g2 : g2 < w1.heap.size + 1 := by omega)
      go_wp2_with fail
      refine (HI.out _ (HE.out.below (by (repeat' (first | (with_reducible exact Below.refl _ _) | (with_reducible assumption) | (with_reducible refine Below.drew ?_) | (with_reducible refine belowDrewN ?_ _) | (with_reducible refine Below.alloc ?_ ?_ _) | (with_reducible refine Below.setCell ?_ ?_ _) | (with_reducible refine belowStep (by assumption) ?_ ?_) | (with_reducible exact Below.size (by assumption)) | go_size))))).mono ?_; rintro e w2 ⟨rfl, hb2⟩; have hz2 := hb2.size; (try simp only [World.size_alloc, World.size_setCell, World.size_drew, World.heap_drewN] at hz2)
      obtain ⟨hc2, hf2⟩ := bcellB hb2; have hz2 := hb2.size; (try simp only [World.size_alloc, World.size_setCell, World.size_drew, World.heap_drewN] at hc2 hf2 hz2); (try have hy2_r_0 : wr.heap.size < w2.heap.size := by omega); (try have hn2_r_0 : wr.heap.size ≠ w2.heap.size := by omega); (try have hm2_r_0 : w2.heap.size ≠ wr.heap.size := by omega); (try have hy2_r_1 : wr.heap.size + 1 < w2.heap.size := by omega); (try have hn2_r_1 : wr.heap.size + 1 ≠ w2.heap.size := by omega); (try have hm2_r_1 : w2.heap.size ≠ wr.heap.size + 1 := by omega); (try have hy2_r_2 : wr.heap.size + 1 + 1 < w2.heap.size := by omega); (try have hp2_r_1 : wr.heap.size < w2.heap.size + 1 := by omega); (try have hp2_r_2 : wr.heap.size < w2.heap.size + 1 + 1 := by omega); (try have hy2_0_0 : w.heap.size < w2.heap.size := by omega); (try have hn2_0_0 : w.heap.size ≠ w2.heap.size := by omega); (try have hm2_0_0 : w2.heap.size ≠ w.heap.size := by omega); (try have hy2_0_1 : w.heap.size + 1 < w2.heap.size := by omega); (try have hn2_0_1 : w.heap.size + 1 ≠ w2.heap.size := by omega); (try have hm2_0_1 : w2.heap.size ≠ w.heap.size + 1 := by omega); (try have hy2_0_2 : w.heap.size + 1 + 1 < w2.heap.size := by omega); (try have hp2_0_1 : w.heap.size < w2.heap.size + 1 := by omega); (try have hp2_0_2 : w.heap.size < w2.heap.size + 1 + 1 := by omega); (try have hy2_1_0 : w1.heap.size < w2.heap.size := by omega); (try have hn2_1_0 : w1.heap.size ≠ w2.heap.size := by omega); (try have hm2_1_0 : w2.heap.size ≠ w1.heap.size := by omega); (try have hy2_1_1 : w1.heap.size + 1 < w2.heap.size := by omega); (try have hn2_1_1 : w1.heap.size + 1 ≠ w2.heap.size := by omega); (try have hm2_1_1 : w2.heap.size ≠ w1.heap.size + 1 := by omega); (try have hy2_1_2 : w1.heap.size + 1 + 1 < w2.heap.size := by omega); (try have hp2_1_1 : w1.heap.size < w2.heap.size + 1 := by omega); (try have hp2_1_2 : w1.heap.size < w2.heap.size + 1 + 1 := by omega); (try have hg2_g1 : g1 < w2.heap.size := by omega); (try have hi2_g1 : g1 ≠ w2.heap.size := by omega); (try have hj2_g1 : w2.heap.size ≠ g1 := by omega); (try have hk2_g1 : g1 < w2.heap.size + 1 := by omega); (try have hg2_g2 : g2 < w2.heap.size := by omega); (try have hi2_g2 : g2 ≠ w2.heap.size := by omega); (try have hj2_g2 : w2.heap.size ≠ g2 := by omega); (try have hk2_g2 : g2 < w2.heap.size + 1 := by omega)
      go_wp2_with fail
      refine (eqFraction_same _ _ _).mono ?_; rintro e w3 ⟨rfl, hb3⟩; have hz3 := hb3.size; (try simp only [World.size_alloc, World.size_setCell, World.size_drew, World.heap_drewN] at hz3)
      go_wp2
      go_ret
      exact ⟨rfl, by (repeat' (first | (with_reducible exact Below.refl _ _) | (with_reducible assumption) | (with_reducible refine Below.drew ?_) | (with_reducible refine belowDrewN ?_ _) | (with_reducible refine Below.alloc ?_ ?_ _) | (with_reducible refine Below.setCell ?_ ?_ _) | (with_reducible refine belowStep (by assumption) ?_ ?_) | (with_reducible exact Below.size (by assumption)) | go_size))⟩
  · have hgt : 1048576 < (s.size : Int) := by omega
    clear hs
    go_enter Tryd.func6, Tryd.ntmps6
    go_wp2
    go_ret
    exact ⟨rfl, by (repeat' (first | (with_reducible exact Below.refl _ _) | (with_reducible assumption) | (with_reducible refine Below.drew ?_) | (with_reducible refine belowDrewN ?_ _) | (with_reducible refine Below.alloc ?_ ?_ _) | (with_reducible refine Below.setCell ?_ ?_ _) | (with_reducible refine belowStep (by assumption) ?_ ?_) | (with_reducible exact Below.size (by assumption)) | go_size))⟩

theorem FnExactParseFraction_door (os : Os) (args : Array Value) : laidMetH Tryd.prog Rows.fnExactParseFractionRow.laid ((World.doorLaid Tryd.prog 400 os).forCall (fun _ _ => 0) ⟨#[], args, []⟩).memory :=
  laidMetH_of_parts3 (fuel := 8) (laidMet_of_run' 8 (by kernel_rfl) (by kernel_rfl)) (by kernel_rfl) (by kernel_rfl)
set_option maxRecDepth 100000 in
theorem FnExactParseFraction_lifted (os : Os) (started : os.Started) (H : Type) (enc : TypeId × Value → H) :
    ReturnsInHanded {} Tryd.checked os 6 .any (fun w args => (Rows.fnExactParseFractionSpec.pre enc Tryd.prog Tryd.f6 Rows.fnExactParseFractionRow.domain false w args ∧ laidMetH Tryd.prog Rows.fnExactParseFractionRow.laid w) ∧ sizedMet enc Tryd.prog Tryd.f6 (OpenSpec.ofChange Rows.fnExactParseFractionSpec) false w args)
      (Rows.fnExactParseFractionSpec.post enc Tryd.prog Tryd.f6 false true false false) := by
  refine handed_and_shaped (C := Tryd.checked) (X := fun w _ => laidMetH Tryd.prog Rows.fnExactParseFractionRow.laid w) (fun _ _ _ hh h => h.of_heap hh) own started (by kernel_rfl) Tryd.func6
    (ChangeSpec.witness_shaped (enc := enc) (C := Tryd.checked) (os := os) (X := fun w _ => laidMetH Tryd.prog Rows.fnExactParseFractionRow.laid w) false (World.doorLaid Tryd.prog 400 os) #[.string ⟨#[]⟩] 8 rfl (World.shaped_of_RefB (by kernel_rfl) (by kernel_rfl)) (by kernel_rfl) (by kernel_rfl) (by kernel_rfl) (FnExactParseFraction_door os _)) ?_
  intro W base args ds gs before hval0 hW hcnd _ hL hsh _
  have hval : ∀ (j : Nat) t v, Tryd.f6.params[j]? = some t → args[j]? = some v → Value.okWide Tryd.prog W .any base t v := hval0
  have hW' := hW
  have hlt : ∀ p ∈ before, p.block < W.heap.size := fun p hp => hW'.lt p hp
  obtain ⟨p, q, hA0, hV, rfl, hfz, hnd⟩ := hW
  have hA : DataW.TrodAll enc Tryd.prog W 0 (fun _ => true) true Tryd.f6.params.toList args.toList ds p := hA0
  rw [Tryd.params6] at hA hval
  obtain ⟨v0, vs0, d0, ds0, p0, q0, hargs, rfl, rfl, h0, r0⟩ := trodAll_cons hA
  obtain ⟨rfl, rfl, rfl⟩ := trodAll_nil r0
  obtain rfl : args = #[v0] := by cases args; simp_all
  obtain ⟨rfl, rfl⟩ := trodVars_none hV
  obtain ⟨s, rfl, rfl, rfl, w0⟩ := Go.ChangeMaps.open_string Tryd.underlying9 (hval 0 9 v0 rfl rfl) h0
  rw [MakeChecks.laidMetH_plain _ _ _ (by kernel_rfl)] at hL
  have hM : laidMet Tryd.prog Rows.fnExactParseFractionRow.laid W := hL
  have hE := EnvA.of_laid hsh (hM.tail.tail) (hM.tail.tail.tail) (hM.tail.tail.tail.tail)
  refine (FnExactParseFraction_walk W s w0 hE).mono fun e W' ⟨he, hg⟩ => ?_
  subst he
  exact ⟨_, rfl, law_post laidOut (by rw [Tryd.params6]; intro t ht; simp only [List.mem_cons, List.not_mem_nil, or_false] at ht; rcases ht with rfl <;> exact ⟨by kernel_rfl, of_decide_eq_true (by kernel_rfl)⟩) (by kernel_rfl) Tryd.underlying4 rfl hW' rfl hg⟩

theorem FnExactParseFraction_closed : joinedFacts Tryd.prog 6 Tryd.f6 Rows.fnExactParseFractionSpec Rows.fnExactParseFractionRow = true := by
  unfold joinedFacts
  rw [mayEnter_eq, lifts_eq, make_eq]
  kernel_rfl

theorem FnExactParseFraction_holds : Rows.FnExactParseFractionSaid :=
  OpenClaim.holds_of_wide 6 Tryd.f6 rfl rfl rfl rfl rfl rfl rfl ⟨rfl, rfl, rfl, rfl, rfl⟩ rfl rfl rfl rfl rfl (by kernel_rfl) Tryd.func6 FnExactParseFraction_closed
    (of_decide_eq_true (by kernel_rfl)) (by unfold Func.isWrapper; first | (rw [if_pos (by decide +kernel)]; kernel_rfl) | (rw [if_neg (by decide +kernel)]; exact ⟨rfl, rfl⟩))
    (fun os started H enc _ => FnExactParseFraction_lifted os started H enc)

/-- the tied card -/
theorem FnExactParseFraction_card : Rows.FnExactParseFractionCardSaid :=
  Claim7.holds_tied_plain_at .later [] [.data, .data, .data, .sentinel, .sentinel] true (true, "3c35f23367bd7b1a2912b67ab19a34c71b3bc79e422fe1ef1114309c403ee493") true
    FnExactParseFraction_holds (fun _ h => by cases h) (by kernel_rfl) (fun _ h => by cases h) fnExactParseFraction_row_tie rfl ⟨rfl, rfl⟩ (by kernel_rfl) rfl
    (fun f fn hf hfn => by
      obtain rfl : f = 6 := Option.some.inj ((show Tryd.prog.funcNamed "loop.example/g01107/laws.FnExactParseFraction" = some 6 by kernel_rfl).symm.trans hf) |>.symm
      obtain rfl : fn = Tryd.f6 := (Option.some.inj (Tryd.func6.symm.trans hfn)).symm
      exact ⟨by kernel_rfl, fun j t ht => by
        rw [Tryd.params6] at ht
        have hm : t ∈ [9] := by simpa using Array.mem_of_getElem? ht
        have hall : ([9].all fun u => !Tryd.prog.wantsStandIn u) = true := by kernel_rfl
        exact (show Tryd.prog.wantsStandIn t = false by simpa using List.all_eq_true.1 hall t hm)⟩)
    (by kernel_rfl)

end Go.Proofs.YtfcklhppemidhaaDoor
