
/-
  Contracts of the reading of expansions, the program's and the model's.
-/
import Derived.Test.YtbjblkfibinenabDoorParseM
namespace Go.Proofs.YtbjblkfibinenabDoor
open Go.RowKit
def outE (l : List UInt8) : List Int := if expB (modE l) = true then modE l else []
theorem outE_yes {l : List UInt8} (h : expB (modE l) = true) : outE l = modE l := by rw [outE, if_pos h]
theorem outE_no {l : List UInt8} (h : expB (modE l) = false) : outE l = [] := by rw [outE, h]; rfl
theorem outE_len (l : List UInt8) : (outE l).length ≤ 24 := by
  unfold outE
  split
  · rename_i h; exact expB_len h
  · simp
theorem modE_nil : modE [] = [] := by rw [modE, if_pos rfl]
theorem expB_nil : expB [] = true := rfl
/-- the words that lie in a block -/
def ReadsW (w : World) (g : Nat) (ls : List (List UInt8)) : Prop := g < w.heap.size ∧ ∀ k l, ls[k]? = some l → w.cell? ⟨g, k, none⟩ = some (.string ⟨l.toArray⟩)
theorem ReadsW.below {w w' : World} {g : Nat} {ls : List (List UInt8)} (h : ReadsW w g ls) (hb : Below w.heap.size w w') : ReadsW w' g ls :=
  ⟨Nat.lt_of_lt_of_le h.1 hb.size, fun k l hl => (hb.cell (p := ⟨g, k, none⟩) h.1).trans (h.2 k l hl)⟩
theorem ReadsW.grown {w w' : World} {g : Nat} {row : Option Nat} {ls : List (List UInt8)} (h : ReadsW w g ls) (hg : w.grownBy w' row) (hne : row ≠ some g) : ReadsW w' g ls :=
  ⟨Nat.lt_of_lt_of_le h.1 hg.size, fun k l hl => hg.cell (h.2 k l hl) (fun e => hne e.symm)⟩
theorem words_len (l : List UInt8) : ∀ w ∈ wordsE l, w.length ≤ l.length := by
  have : ∀ (k : Nat) (l : List UInt8), ∀ w ∈ Lib.splitK [43] 0 k l, w.length ≤ l.length := by
    intro k
    induction k with
    | zero => intro l w h; simp [Lib.splitK] at h; simp [h]
    | succ k ih =>
      intro l w h
      rw [Lib.splitK] at h
      split at h
      · simp at h; simp [h]
      · rcases List.mem_cons.1 h with h | h
        · rw [h, List.length_take]; omega
        · have := ih _ w h
          rw [List.length_drop] at this
          omega
  exact this _ l
theorem words_count (l : List UInt8) : (wordsE l).length ≤ 25 := by
  have : ∀ (k : Nat) (l : List UInt8), (Lib.splitK [43] 0 k l).length ≤ k + 1 := by
    intro k
    induction k with
    | zero => intro l; simp [Lib.splitK]
    | succ k ih =>
      intro l
      rw [Lib.splitK]
      split
      · simp
      · rw [List.length_cons]; exact Nat.succ_le_succ (ih _)
  have := this (min 25 (l.length + 1) - 1) l
  unfold wordsE
  omega
/-- the words, laid -/
theorem splitN_any (s : ByteArray) (w : World) (hs : s.size ≤ 1048576) (hE : EnvA w) : Calls Tryd.prog 48 #[.string s, .string ⟨#[43]⟩, .int .i64 25] w (fun e w' => ∃ c, e = .returned (.slice (some ⟨w.heap.size, 0, none⟩) (wordsE s.data.toList).length c) ∧ ReadsW w' w.heap.size (wordsE s.data.toList) ∧ Below w.heap.size w w') := by
  obtain ⟨_, ⟨m, hm⟩, _⟩ := hE
  have hlen : (Lib.splitB ⟨#[43]⟩ 0 (min 25 (s.size + 1) - 1) s).length = (wordsE s.data.toList).length := by
    have := congrArg List.length (Lib.splitB_data ⟨#[43]⟩ 0 (min 25 (s.size + 1) - 1) s)
    rw [List.length_map] at this
    rw [this, wordsE, bl_len]
  refine (Tryd.strings_SplitN s ⟨#[43]⟩ 25 m w (by omega) hm (by decide) (by omega) (by omega)).mono fun e w' ⟨he, hw⟩ => ⟨_, by rw [← hlen]; exact he, ?_, by rw [hw]; exact (Below.refl _ _).alloc (Nat.le_refl _) _⟩
  rw [hw]
  refine ⟨by simp, fun k l hl => ?_⟩
  have h1 : (Lib.splitB ⟨#[43]⟩ 0 (min 25 (s.size + 1) - 1) s)[k]? = some ⟨l.toArray⟩ := by
    have h2 : ((Lib.splitB ⟨#[43]⟩ 0 (min 25 (s.size + 1) - 1) s).map (·.data.toList))[k]? = some l := by
      rw [Lib.splitB_data]
      rw [wordsE, bl_len] at hl
      exact hl
    rw [List.getElem?_map] at h2
    cases h3 : (Lib.splitB ⟨#[43]⟩ 0 (min 25 (s.size + 1) - 1) s)[k]? with
    | none => rw [h3] at h2; cases h2
    | some x =>
      rw [h3] at h2
      simp only [Option.map_some, Option.some.injEq] at h2
      rw [← h2]
  have hk := (List.getElem?_eq_some_iff.1 h1).1
  have h4 : (Lib.cellsOf (Lib.splitB ⟨#[43]⟩ 0 (min 25 (s.size + 1) - 1) s) (min 25 (s.size + 1)))[k]? = some (.string ⟨l.toArray⟩) := by
    unfold Lib.cellsOf
    rw [List.getElem?_toArray, List.getElem?_append_left (by simpa using hk), List.getElem?_map, h1]
    rfl
  simp [h4]
theorem map_take {ws : List (List UInt8)} {ys : List Int} {k : Nat} {w : List UInt8} {v : Int} (h : (ws.take k).map parseN = ys.map some) (hw : ws[k]? = some w) (hv : parseN w = some v) : (ws.take (k + 1)).map parseN = (ys ++ [v]).map some := by
  have hk : k < ws.length := (List.getElem?_eq_some_iff.1 hw).1
  rw [List.take_succ_eq_append_getElem hk, (List.getElem?_eq_some_iff.1 hw).2, List.map_append, h, List.map_append]
  simp [hv]
set_option maxRecDepth 100000 in
set_option maxHeartbeats 8000000 in
theorem parseE_any (s : ByteArray) (w : World) (hs : s.size ≤ 1048576) (hE : EnvA w) : Calls Tryd.prog 16 #[.string s] w (RetLB (outE s.data.toList) (expB (modE s.data.toList)) w) := by
  have HE := Lib.hid hE
  have hl := bl_len s
  clear hE
  by_cases h0 : s.data.toList = []
  · have HO : Hid (outE s.data.toList = []) := by show outE _ = _; rw [h0]; rfl
    have HB : Hid (expB (modE s.data.toList) = true) := by show expB _ = _; rw [h0]; rfl
    have hq1 : s.toList = [] := by rw [ByteArray.toList_eq]; exact h0
    have hq2 : (s.toList == []) = true := by rw [hq1]; rfl
    have hq3 : s.toList.isEmpty = true := by rw [hq1]; rfl
    clear h0 hl hq1
    go_enter Tryd.func16, Tryd.ntmps16
    go_wp2
    go_ret2
    rw [HO.out, HB.out]
    exact ⟨_, rfl, OwnI.zero _ _ (Nat.le_refl _), by (repeat' (first | (with_reducible exact Below.refl _ _) | (with_reducible assumption) | (with_reducible refine Below.drew ?_) | (with_reducible refine belowDrewN ?_ _) | (with_reducible refine Below.alloc ?_ ?_ _) | (with_reducible refine Below.setCell ?_ ?_ _) | (with_reducible refine belowStep (by assumption) ?_ ?_) | (with_reducible exact Below.size (by assumption)) | go_size))⟩
  · have hq1 : ¬ s.toList = [] := by rw [ByteArray.toList_eq]; exact h0
    have hq2 : (s.toList == []) = false := by simpa using hq1
    have hq3 : s.toList.isEmpty = false := by simpa using hq1
    have H0 := Lib.hid h0
    have Hwl := Lib.hid (words_len s.data.toList)
    have hwc := words_count s.data.toList
    clear h0 hq1
    go_enter Tryd.func16, Tryd.ntmps16
    go_wp2_with fail
    refine (splitN_any s _ hs (HE.out.below (by (repeat' (first | (with_reducible exact Below.refl _ _) | (with_reducible assumption) | (with_reducible refine Below.drew ?_) | (with_reducible refine belowDrewN ?_ _) | (with_reducible refine Below.alloc ?_ ?_ _) | (with_reducible refine Below.setCell ?_ ?_ _) | (with_reducible refine belowStep (by assumption) ?_ ?_) | (with_reducible exact Below.size (by assumption)) | go_size))))).mono ?_; rintro e w1 ⟨c1, rfl, hrw1, hb1⟩; have hz1 := hb1.size; (try simp only [World.size_alloc] at hz1)
    have Hrw1 := Lib.hid hrw1
    have hb1' : Below w.heap.size w w1 := by (repeat' (first | (with_reducible exact Below.refl _ _) | (with_reducible assumption) | (with_reducible refine Below.drew ?_) | (with_reducible refine belowDrewN ?_ _) | (with_reducible refine Below.alloc ?_ ?_ _) | (with_reducible refine Below.setCell ?_ ?_ _) | (with_reducible refine belowStep (by assumption) ?_ ?_) | (with_reducible exact Below.size (by assumption)) | go_size))
    have ho1 : Hid (OwnI w1 w.heap.size (.slice (some ⟨w.heap.size, 0, none⟩) 0 0) []) := Lib.hid ((OwnI.zero w w.heap.size (Nat.le_refl _)).below hb1)
    clear hrw1 hb1
    go_wp2
    go_loopw [4, 16] (fun v4 v16 wr => ∃ (k : Nat) (ys : List Int), k ≤ (wordsE s.data.toList).length ∧ v16 = .int .i64 k ∧ ys.length = k ∧ OwnI wr w.heap.size v4 ys ∧ v4.ownBlock ≠ some (w.heap.size + 1) ∧ ((wordsE s.data.toList).take k).map parseN = ys.map some ∧ In64 ys ∧ ReadsW wr (w.heap.size + 1) (wordsE s.data.toList) ∧ Below w.heap.size w wr) (fun _ v16 _ => (wordsE s.data.toList).length - (intOf v16).toNat)
    case atStart => exact ⟨0, [], Nat.zero_le _, rfl, rfl, ho1.out, by simp [Value.ownBlock], rfl, (fun i x h => by simp at h), by simpa using Hrw1.out, hb1'⟩
    case round =>
      obtain ⟨k, ys, hk, rfl, hyl, ho, hnb, hmp, h64, hrw, hbr⟩ := hrel
      have hzr := hbr.size
      have Hmp := Lib.hid hmp
      have H64 := Lib.hid h64
      have Hrw := Lib.hid hrw
      have Ho := Lib.hid ho
      have Hnb := Lib.hid hnb
      have Hyl := Lib.hid hyl
      have hy25 : ys.length ≤ 25 := by omega
      clear hmp h64 hrw ho hnb hyl
      by_cases hlt : k < (wordsE s.data.toList).length
      · obtain ⟨x, hx⟩ : ∃ x, (wordsE s.data.toList)[k]? = some x := ⟨_, List.getElem?_eq_getElem hlt⟩
        have hcell := Hrw.out.2 k x hx
        have hxl := Hwl.out x (List.mem_of_getElem? hx)
        have hxl2 : x.length ≤ 1048576 := by omega
        cases hp : parseN x with
        | none =>
          have HN := Lib.hid (progE_word H0.out (List.mem_of_getElem? hx) hp)
          have Hp := Lib.hid hp
          clear hx hp
          go_wp2_with fail
          refine (parse_no' x _ hxl2 Hp.out (HE.out.below (by (repeat' (first | (with_reducible exact Below.refl _ _) | (with_reducible assumption) | (with_reducible refine Below.drew ?_) | (with_reducible refine belowDrewN ?_ _) | (with_reducible refine Below.alloc ?_ ?_ _) | (with_reducible refine Below.setCell ?_ ?_ _) | (with_reducible refine belowStep (by assumption) ?_ ?_) | (with_reducible exact Below.size (by assumption)) | go_size))))).mono ?_; rintro e w2 ⟨rfl, hb2⟩; have hz2 := hb2.size; (try simp only [World.size_alloc, World.size_setCell, World.size_drew, World.heap_drewN] at hz2)
          go_wp2
          go_ret2
          rw [outE_no HN.out, HN.out]
          exact ⟨_, rfl, OwnI.empty _ _, by (repeat' (first | (with_reducible exact Below.refl _ _) | (with_reducible assumption) | (with_reducible refine Below.drew ?_) | (with_reducible refine belowDrewN ?_ _) | (with_reducible refine Below.alloc ?_ ?_ _) | (with_reducible refine Below.setCell ?_ ?_ _) | (with_reducible refine belowStep (by assumption) ?_ ?_) | (with_reducible exact Below.size (by assumption)) | go_size))⟩
        | some v =>
          have Hn := Lib.hid (map_take Hmp.out hx hp)
          have hv := (parseN_in hp).2
          have H64' : Hid (In64 (ys ++ [v])) := Lib.hid (In64.of_mem fun z hz => by
            rcases List.mem_append.1 hz with hz | hz
            · obtain ⟨i, hi⟩ := List.getElem?_of_mem hz
              exact H64.out i z hi
            · simp only [List.mem_singleton] at hz
              subst hz; exact hv)
          have Hp := Lib.hid hp
          clear hx hp
          go_wp2_with fail
          refine (parse_yes' x v _ hxl2 Hp.out (HE.out.below (by (repeat' (first | (with_reducible exact Below.refl _ _) | (with_reducible assumption) | (with_reducible refine Below.drew ?_) | (with_reducible refine belowDrewN ?_ _) | (with_reducible refine Below.alloc ?_ ?_ _) | (with_reducible refine Below.setCell ?_ ?_ _) | (with_reducible refine belowStep (by assumption) ?_ ?_) | (with_reducible exact Below.size (by assumption)) | go_size))))).mono ?_; rintro e w2 ⟨rfl, hb2⟩; have hz2 := hb2.size; (try simp only [World.size_alloc, World.size_setCell, World.size_drew, World.heap_drewN] at hz2)
          have Ho2 := Lib.hid ((Ho.out.below hb2).below ((Below.refl _ _).alloc (Nat.le_refl _) (.cells #[.int .i64 v] 3)))
          have Hrw2 := Lib.hid ((Hrw.out.below hb2).below ((Below.refl _ _).alloc (Nat.le_refl _) (.cells #[.int .i64 v] 3)))
          have hgl := Hrw.out.1
          go_wp2_with (at_builtin; refine wpList_app _ (o := ⟨some 30, _, _, _, _, _⟩) (ys := [v]) rfl _ _ rfl rfl Ho2.out 1 1 (by simp) rfl (Reads.one _ v) (by simp; omega) (by simp; omega) ?_; intro v4 w4 ho4 hb4 hg4 ht4)
          have Hrw4 := Lib.hid (Hrw2.out.grown hg4 Hnb.out)
          have Hnb4 : Hid (v4.ownBlock ≠ some (w.heap.size + 1)) := by
            show v4.ownBlock ≠ _
            rcases ht4 with ht4 | ht4
            · rw [ht4]; exact Hnb.out
            · rw [ht4]; intro e; injection e with e; simp at e; omega
          have Ho4 := Lib.hid ho4
          clear hg4 ht4 ho4
          go_roundw
          case rel => exact ⟨k + 1, ys ++ [v], by omega, by go_num, by have := Hyl.out; simp; omega, Ho4.out, Hnb4.out, Hn.out, H64'.out, Hrw4.out, by (repeat' (first | (with_reducible exact Below.refl _ _) | (with_reducible assumption) | (with_reducible refine Below.drew ?_) | (with_reducible refine belowDrewN ?_ _) | (with_reducible refine Below.alloc ?_ ?_ _) | (with_reducible refine Below.setCell ?_ ?_ _) | (with_reducible refine belowStep (by assumption) ?_ ?_) | (with_reducible exact Below.size (by assumption)) | go_size))⟩
          case measure => simp [intOf]; omega
      · obtain rfl : k = (wordsE s.data.toList).length := by omega
        have hall : (wordsE s.data.toList).map parseN = ys.map some := by
          have := Hmp.out
          rwa [List.take_length] at this
        obtain ⟨A4, c4, rfl, hr4⟩ := Ho.out.form
        have Hr4 := Lib.hid hr4
        cases he : expB ys with
        | true =>
          have HM := Lib.hid (progE_yes H0.out hall he)
          have He := Lib.hid he
          clear hall he hr4
          go_wp2_with fail
          refine (ifExp_yes _ _ _ _ Hr4.out (by omega) H64.out He.out).mono ?_; rintro e w3 ⟨rfl, hb3⟩; have hz3 := hb3.size; (try simp only [World.size_alloc, World.size_setCell, World.size_drew, World.heap_drewN] at hz3)
          go_wp2
          go_ret2
          have HM2 : expB (modE s.data.toList) = true := by rw [HM.out]; exact He.out
          rw [outE_yes HM2, HM2, HM.out]
          exact ⟨_, rfl, Ho.out.below hb3, by (repeat' (first | (with_reducible exact Below.refl _ _) | (with_reducible assumption) | (with_reducible refine Below.drew ?_) | (with_reducible refine belowDrewN ?_ _) | (with_reducible refine Below.alloc ?_ ?_ _) | (with_reducible refine Below.setCell ?_ ?_ _) | (with_reducible refine belowStep (by assumption) ?_ ?_) | (with_reducible exact Below.size (by assumption)) | go_size))⟩
        | false =>
          have HM := Lib.hid (progE_no H0.out hall he)
          have He := Lib.hid he
          clear hall he hr4
          go_wp2_with fail
          refine (ifExp_no _ _ _ _ Hr4.out (by omega) H64.out He.out).mono ?_; rintro e w3 ⟨rfl, hb3⟩; have hz3 := hb3.size; (try simp only [World.size_alloc, World.size_setCell, World.size_drew, World.heap_drewN] at hz3)
          go_wp2
          go_ret2
          rw [outE_no HM.out, HM.out]
          exact ⟨_, rfl, OwnI.empty _ _, by (repeat' (first | (with_reducible exact Below.refl _ _) | (with_reducible assumption) | (with_reducible refine Below.drew ?_) | (with_reducible refine belowDrewN ?_ _) | (with_reducible refine Below.alloc ?_ ?_ _) | (with_reducible refine Below.setCell ?_ ?_ _) | (with_reducible refine belowStep (by assumption) ?_ ?_) | (with_reducible exact Below.size (by assumption)) | go_size))⟩
end Go.Proofs.YtbjblkfibinenabDoor
