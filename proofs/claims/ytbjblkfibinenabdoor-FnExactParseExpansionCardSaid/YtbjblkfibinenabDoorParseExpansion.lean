
/-
  For every string, the program reads the expansion that the model reads, or none as it does; what it hands out is new memory. Conditions: the library's tables and sentinels hold what its initialisers lay.
-/
import Derived.Test.YtbjblkfibinenabDoorShellD
import Derived.Test.YtbjblkfibinenabDoorTie
import Derived.Test.YtbjblkfibinenabDoorCards
import Derived.SevenTiedAt
import Derived.Test.YtbjblkfibinenabDoorShell
import Derived.Test.YtbjblkfibinenabDoorParseG
namespace Go.Proofs.YtbjblkfibinenabDoor
open Go.ChangeShapes Go.WideShapes Go.ChangeAt Go.RowKit Go.Joins Go.Deep
set_option maxRecDepth 100000 in
set_option maxHeartbeats 8000000 in
theorem FnExactParseExpansion_walk (w : World) (s : ByteArray) (hm : s.size ≤ maxLen) (hE : EnvA w) : Calls Tryd.prog 5 #[.string s] w (Ret (.bool true) w) := by
  have HE := Lib.hid hE
  clear hE
  unfold maxLen at hm
  by_cases hs : s.size ≤ 1048576
  · have hle : (s.size : Int) ≤ 1048576 := by omega
    have hlo := outE_len s.data.toList
    have HS := Lib.hid (fun w => spec_parseE_any s w hs)
    have HI := Lib.hid (fun w hE => parseE_any s w hs hE)
    generalize outE s.data.toList = xs at *
    generalize expB (modE s.data.toList) = b at *
    have lxs : xs.length ≤ 1048576 := by omega
    go_enter Tryd.func5, Tryd.ntmps5
    go_wp2_with fail
    refine (HS.out _).mono ?_; rintro e w1 ⟨A1, c1, rfl, hr1, hb1⟩; have hz1 := hb1.size; (try simp only [World.size_alloc, World.size_setCell, World.size_drew, World.heap_drewN] at hz1)
    have Hr1 := Lib.hid hr1
    clear hr1
    go_wp2_with fail
    refine (HI.out _ (HE.out.below (by (repeat' (first | (with_reducible exact Below.refl _ _) | (with_reducible assumption) | (with_reducible refine Below.drew ?_) | (with_reducible refine belowDrewN ?_ _) | (with_reducible refine Below.alloc ?_ ?_ _) | (with_reducible refine Below.setCell ?_ ?_ _) | (with_reducible refine belowStep (by assumption) ?_ ?_) | (with_reducible exact Below.size (by assumption)) | go_size))))).mono ?_; rintro e w2 ⟨v2, rfl, ho2, hb2⟩; have hz2 := hb2.size; (try simp only [World.size_alloc, World.size_setCell, World.size_drew, World.heap_drewN] at hz2)
    obtain ⟨A2, c2, rfl, hr2⟩ := ho2.form
    have Ho2 := Lib.hid ho2
    have Hr2 := Lib.hid hr2
    clear ho2 hr2
    go_wp2_with fail
    refine (eqIntS_same _ _ _ _ _ _ Hr2.out (Hr1.out.below (by (repeat' (first | (with_reducible exact Below.refl _ _) | (with_reducible assumption) | (with_reducible refine Below.drew ?_) | (with_reducible refine belowDrewN ?_ _) | (with_reducible refine Below.alloc ?_ ?_ _) | (with_reducible refine Below.setCell ?_ ?_ _) | (with_reducible refine belowStep (by assumption) ?_ ?_) | (with_reducible exact Below.size (by assumption)) | go_size)))) lxs).mono ?_; rintro e w3 ⟨rfl, k3, rfl⟩
    go_wp2_with fail
    refine (markIntS_any _ _ _ _ _ (Ho2.out.drewN _) (by omega) (by omega) (by omega)).mono ?_; rintro e w4 ⟨rfl, ho4, hg4⟩
    have hb4 := belowMark (B := w1.heap.size) hg4 (show w1.heap.size ≤ w2.heap.size by omega) (fun k hk => (ho4.block k hk).1)
    have hz4 : w2.heap.size ≤ w4.heap.size := hg4.size
    have Ho4 := Lib.hid ho4
    clear ho4 hg4
    have lxs2 : (1 : Int) + xs.length ≥ 0 := by omega
    go_wp2_with fail
    refine (heldIntS_any _ _ _ _ _ Ho4.out.reads.1 (by omega) (by omega) (by omega)).mono ?_; rintro e w5 ⟨rfl, k5, rfl⟩
    go_wp2_with fail
    refine (HI.out _ (HE.out.below (by (repeat' (first | (with_reducible exact Below.refl _ _) | (with_reducible assumption) | (with_reducible refine Below.drew ?_) | (with_reducible refine belowDrewN ?_ _) | (with_reducible refine Below.alloc ?_ ?_ _) | (with_reducible refine Below.setCell ?_ ?_ _) | (with_reducible refine belowStep (by assumption) ?_ ?_) | (with_reducible exact Below.size (by assumption)) | go_size))))).mono ?_; rintro e w6 ⟨v6, rfl, ho6, hb6⟩; have hz6 := hb6.size; (try simp only [World.heap_drewN] at hz6)
    obtain ⟨A6, c6, rfl, hr6⟩ := ho6.form
    have Hr6 := Lib.hid hr6
    clear ho6 hr6
    go_wp2_with fail
    refine (eqIntS_same _ _ _ _ _ _ Hr6.out (Hr1.out.below (by (repeat' (first | (with_reducible exact Below.refl _ _) | (with_reducible assumption) | (with_reducible refine Below.drew ?_) | (with_reducible refine belowDrewN ?_ _) | (with_reducible refine Below.alloc ?_ ?_ _) | (with_reducible refine Below.setCell ?_ ?_ _) | (with_reducible refine belowStep (by assumption) ?_ ?_) | (with_reducible exact Below.size (by assumption)) | go_size)))) lxs).mono ?_; rintro e w7 ⟨rfl, k7, rfl⟩
    go_wp2_with fail
    refine (heldIntS_any _ _ _ _ _ (Ho4.out.reads.1.below (by (repeat' (first | (with_reducible exact Below.refl _ _) | (with_reducible assumption) | (with_reducible refine Below.drew ?_) | (with_reducible refine belowDrewN ?_ _) | (with_reducible refine Below.alloc ?_ ?_ _) | (with_reducible refine Below.setCell ?_ ?_ _) | (with_reducible refine belowStep (by assumption) ?_ ?_) | (with_reducible exact Below.size (by assumption)) | go_size)))) (by omega) (by omega) (by omega)).mono ?_; rintro e w8 ⟨rfl, k8, rfl⟩
    go_wp2
    go_ret
    exact ⟨rfl, by (repeat' (first | (with_reducible exact Below.refl _ _) | (with_reducible assumption) | (with_reducible refine Below.drew ?_) | (with_reducible refine belowDrewN ?_ _) | (with_reducible refine Below.alloc ?_ ?_ _) | (with_reducible refine Below.setCell ?_ ?_ _) | (with_reducible refine belowStep (by assumption) ?_ ?_) | (with_reducible exact Below.size (by assumption)) | go_size))⟩
  · have hgt : 1048576 < (s.size : Int) := by omega
    clear hs
    go_enter Tryd.func5, Tryd.ntmps5
    go_wp2
    go_ret
    exact ⟨rfl, by (repeat' (first | (with_reducible exact Below.refl _ _) | (with_reducible assumption) | (with_reducible refine Below.drew ?_) | (with_reducible refine belowDrewN ?_ _) | (with_reducible refine Below.alloc ?_ ?_ _) | (with_reducible refine Below.setCell ?_ ?_ _) | (with_reducible refine belowStep (by assumption) ?_ ?_) | (with_reducible exact Below.size (by assumption)) | go_size))⟩

theorem FnExactParseExpansion_door (os : Os) (args : Array Value) : laidMetH Tryd.prog Rows.fnExactParseExpansionRow.laid ((World.laidAll Tryd.prog os Rows.fnExactParseExpansionRow.laid).forCall (fun _ _ => 0) ⟨#[], args, []⟩).memory :=
  by rw [MakeChecks.laidMetH_plain _ _ _ (by kernel_rfl)]; exact laidMet_laidAll _ (by kernel_rfl) (by kernel_rfl)
set_option maxRecDepth 100000 in
theorem FnExactParseExpansion_lifted (os : Os) (started : os.Started) (H : Type) (enc : TypeId × Value → H) :
    ReturnsInHanded {} Tryd.checked os 5 .any (fun w args => (Rows.fnExactParseExpansionSpec.pre enc Tryd.prog Tryd.f5 Rows.fnExactParseExpansionRow.domain false w args ∧ laidMetH Tryd.prog Rows.fnExactParseExpansionRow.laid w) ∧ sizedMet enc Tryd.prog Tryd.f5 (OpenSpec.ofChange Rows.fnExactParseExpansionSpec) false w args)
      (Rows.fnExactParseExpansionSpec.post enc Tryd.prog Tryd.f5 false true false false) := by
  refine handed_and_shaped (C := Tryd.checked) (X := fun w _ => laidMetH Tryd.prog Rows.fnExactParseExpansionRow.laid w) (fun _ _ _ hh h => h.of_heap hh) own started (by kernel_rfl) Tryd.func5
    (ChangeSpec.witness_shaped (enc := enc) (C := Tryd.checked) (os := os) (X := fun w _ => laidMetH Tryd.prog Rows.fnExactParseExpansionRow.laid w) false (World.laidAll Tryd.prog os Rows.fnExactParseExpansionRow.laid) #[.string ⟨#[]⟩] 8 (World.laidAll_os _ _ _) (World.shaped_of_ZipB (by kernel_rfl) (by kernel_rfl)) (by kernel_rfl) (by kernel_rfl) (by kernel_rfl) (FnExactParseExpansion_door os _)) ?_
  intro W base args ds gs before hval0 hW hcnd _ hL hsh _
  have hval : ∀ (j : Nat) t v, Tryd.f5.params[j]? = some t → args[j]? = some v → Value.okWide Tryd.prog W .any base t v := hval0
  have hW' := hW
  have hlt : ∀ p ∈ before, p.block < W.heap.size := fun p hp => hW'.lt p hp
  obtain ⟨p, q, hA0, hV, rfl, hfz, hnd⟩ := hW
  have hA : DataW.TrodAll enc Tryd.prog W 0 (fun _ => true) true Tryd.f5.params.toList args.toList ds p := hA0
  rw [Tryd.params5] at hA hval
  obtain ⟨v0, vs0, d0, ds0, p0, q0, hargs, rfl, rfl, h0, r0⟩ := trodAll_cons hA
  obtain ⟨rfl, rfl, rfl⟩ := trodAll_nil r0
  obtain rfl : args = #[v0] := by cases args; simp_all
  obtain ⟨rfl, rfl⟩ := trodVars_none hV
  obtain ⟨s, rfl, rfl, rfl, w0⟩ := Go.ChangeMaps.open_string Tryd.underlying9 (hval 0 9 v0 rfl rfl) h0
  rw [MakeChecks.laidMetH_plain _ _ _ (by kernel_rfl)] at hL
  have hM : laidMet Tryd.prog Rows.fnExactParseExpansionRow.laid W := hL
  have hE := EnvA.of_laid hsh (hM.tail.tail) (hM.tail.tail.tail.tail) (hM.tail.tail.tail.tail.tail)
  refine (FnExactParseExpansion_walk W s w0 hE).mono fun e W' ⟨he, hg⟩ => ?_
  subst he
  exact ⟨_, rfl, law_post laidOut (by rw [Tryd.params5]; intro t ht; simp only [List.mem_cons, List.not_mem_nil, or_false] at ht; rcases ht with rfl <;> exact ⟨by kernel_rfl, of_decide_eq_true (by kernel_rfl)⟩) (by kernel_rfl) Tryd.underlying4 rfl hW' rfl hg⟩

theorem FnExactParseExpansion_closed : joinedFacts Tryd.prog 5 Tryd.f5 Rows.fnExactParseExpansionSpec Rows.fnExactParseExpansionRow = true := by
  unfold joinedFacts
  rw [mayEnter_eq, lifts_eq, make_eq]
  kernel_rfl

theorem FnExactParseExpansion_holds : Rows.FnExactParseExpansionSaid :=
  OpenClaim.holds_of_wide 5 Tryd.f5 rfl rfl rfl rfl rfl rfl rfl ⟨rfl, rfl, rfl, rfl, rfl⟩ rfl rfl rfl rfl rfl (by kernel_rfl) Tryd.func5 FnExactParseExpansion_closed
    (of_decide_eq_true (by kernel_rfl)) (by unfold Func.isWrapper; first | (rw [if_pos (by decide +kernel)]; kernel_rfl) | (rw [if_neg (by decide +kernel)]; exact ⟨rfl, rfl⟩))
    (fun os started H enc _ => FnExactParseExpansion_lifted os started H enc)

/-- the tied card -/
theorem FnExactParseExpansion_card : Rows.FnExactParseExpansionCardSaid :=
  Claim7.holds_tied_plain_at .later [] [.data, .data, .data, .data, .sentinel, .sentinel, .pinned] true (true, "856a60893ec3144dd3a5641c29f08e47174cb0a673e70b31795700d2c8f28881") true
    FnExactParseExpansion_holds (fun _ h => by cases h) (by kernel_rfl) (fun _ h => by cases h) fnExactParseExpansion_row_tie rfl ⟨rfl, rfl⟩ (by kernel_rfl) rfl
    (fun f fn hf hfn => by
      obtain rfl : f = 5 := Option.some.inj ((show Tryd.prog.funcNamed "loop.example/g01107/laws.FnExactParseExpansion" = some 5 by kernel_rfl).symm.trans hf) |>.symm
      obtain rfl : fn = Tryd.f5 := (Option.some.inj (Tryd.func5.symm.trans hfn)).symm
      exact ⟨by kernel_rfl, fun j t ht => by
        rw [Tryd.params5] at ht
        have hm : t ∈ [9] := by simpa using Array.mem_of_getElem? ht
        have hall : ([9].all fun u => !Tryd.prog.wantsStandIn u) = true := by kernel_rfl
        exact (show Tryd.prog.wantsStandIn t = false by simpa using List.all_eq_true.1 hall t hm)⟩)
    (by kernel_rfl)

end Go.Proofs.YtbjblkfibinenabDoor
