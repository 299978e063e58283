
/-
  Contract of the model's reading of expansions.
-/
import Derived.Test.YtbjblkfibinenabDoorParseE
namespace Go.Proofs.YtbjblkfibinenabDoor
open Go.RowKit
theorem unExp_long (w : World) (A : Option Addr) (c : Nat) (xs : List Int) (h : 24 < xs.length) (h2 : xs.length ≤ 9223372036854775807) : Calls Tryd.prog 41 #[.slice A xs.length c] w (Ret (.bool false) w) := by
  go_enter Tryd.func41, Tryd.ntmps41
  go_wp2
  go_ret
  exact ⟨rfl, by (repeat' (first | (with_reducible exact Below.refl _ _) | (with_reducible assumption) | (with_reducible refine Below.drew ?_) | (with_reducible refine belowDrewN ?_ _) | (with_reducible refine Below.alloc ?_ ?_ _) | (with_reducible refine Below.setCell ?_ ?_ _) | (with_reducible refine belowStep (by assumption) ?_ ?_) | (with_reducible exact Below.size (by assumption)) | go_size))⟩
theorem unList_long (w : World) (A : Option Addr) (c : Nat) (xs : List Int) (h : 24 < xs.length) (h2 : xs.length ≤ 9223372036854775807) : Calls Tryd.prog 47 #[.slice A xs.length c] w (Ret (.tuple #[.slice none 0 0, .bool false]) w) := by
  go_enter Tryd.func47, Tryd.ntmps47
  go_wp2_with fail
  refine (unExp_long _ _ _ _ h h2).mono ?_; rintro e w1 ⟨rfl, hb1⟩; have hz1 := hb1.size; (try simp only [World.size_alloc, World.size_setCell, World.size_drew, World.heap_drewN] at hz1)
  go_wp2
  go_ret2
  exact ⟨rfl, by (repeat' (first | (with_reducible exact Below.refl _ _) | (with_reducible assumption) | (with_reducible refine Below.drew ?_) | (with_reducible refine belowDrewN ?_ _) | (with_reducible refine Below.alloc ?_ ?_ _) | (with_reducible refine Below.setCell ?_ ?_ _) | (with_reducible refine belowStep (by assumption) ?_ ?_) | (with_reducible exact Below.size (by assumption)) | go_size))⟩
theorem map_rd {ws : List (List UInt8)} {k : Nat} {x : List UInt8} (hx : ws[k]? = some x) : (ws.take (k + 1)).map rdI = (ws.take k).map rdI ++ [rdI x] := by
  have hk : k < ws.length := (List.getElem?_eq_some_iff.1 hx).1
  rw [List.take_succ_eq_append_getElem hk, (List.getElem?_eq_some_iff.1 hx).2, List.map_append]
  rfl
set_option maxRecDepth 100000 in
set_option maxHeartbeats 8000000 in
theorem spec_parseE_any (s : ByteArray) (w : World) (hs : s.size ≤ 1048576) : Calls Tryd.prog 15 #[.string s] w (RetRB (outE s.data.toList) (expB (modE s.data.toList)) w) := by
  have hl := bl_len s
  by_cases h0 : s.data.toList = []
  · have HO : Hid (outE s.data.toList = []) := by show outE _ = _; rw [h0]; rfl
    have HB : Hid (expB (modE s.data.toList) = true) := by show expB _ = _; rw [h0]; rfl
    have hq1 : s.toList = [] := by rw [ByteArray.toList_eq]; exact h0
    have hq2 : (s.toList == []) = true := by rw [hq1]; rfl
    have hq3 : s.toList.isEmpty = true := by rw [hq1]; rfl
    have hq4 : (s.toList != []) = false := by rw [hq1]; rfl
    clear h0 hl hq1
    go_enter Tryd.func15, Tryd.ntmps15
    go_wp2_with fail
    refine (unList_yes _ none 0 [] Reads.nil (by simp) expB_nil).mono ?_; rintro e w1 ⟨rfl, hb1⟩; have hz1 := hb1.size; (try simp only [World.size_alloc, World.size_setCell, World.size_drew, World.heap_drewN] at hz1)
    go_wp2
    go_ret2
    rw [HO.out, HB.out]
    exact ⟨_, _, rfl, Reads.nil, by (repeat' (first | (with_reducible exact Below.refl _ _) | (with_reducible assumption) | (with_reducible refine Below.drew ?_) | (with_reducible refine belowDrewN ?_ _) | (with_reducible refine Below.alloc ?_ ?_ _) | (with_reducible refine Below.setCell ?_ ?_ _) | (with_reducible refine belowStep (by assumption) ?_ ?_) | (with_reducible exact Below.size (by assumption)) | go_size))⟩
  · have hq1 : ¬ s.toList = [] := by rw [ByteArray.toList_eq]; exact h0
    have hq2 : (s.toList == []) = false := by simpa using hq1
    have hq3 : s.toList.isEmpty = false := by simpa using hq1
    have hq4 : (s.toList != []) = true := by simpa using hq1
    have HM : Hid (modE s.data.toList = (splitL 43 s.data.toList).map rdI) := by show modE _ = _; rw [modE, if_neg h0]
    have Hne := Lib.hid (split_ne 43 s.data.toList)
    have hsl := split_len 43 s.data.toList
    have Hpl : Hid (∀ p ∈ splitL 43 s.data.toList, p.length ≤ 1048576) := Lib.hid fun p hp => by have := piece_len hp; omega
    clear h0 hq1
    go_enter Tryd.func15, Tryd.ntmps15
    go_wp2_with fail
    refine (l1Split_any s 43 43 _ rfl hs).mono ?_; rintro e w1 ⟨v1, rfl, ho1, hb1⟩; have hz1 := hb1.size; (try simp only [World.size_alloc, World.size_setCell, World.size_drew, World.heap_drewN] at hz1)
    obtain ⟨g1, c1, rfl, hcap1, hg1, hce1⟩ := ho1.form Hne.out
    have Hce1 := Lib.hid hce1
    clear ho1 hce1
    go_wp2
    go_loopw [4, 12] (fun v4 v12 wr => ∃ (k : Nat), k ≤ (splitL 43 s.data.toList).length ∧ v12 = .int .i64 k ∧ OwnI wr w1.heap.size v4 (((splitL 43 s.data.toList).take k).map rdI) ∧ Below w1.heap.size w1 wr) (fun _ v12 _ => (splitL 43 s.data.toList).length - (intOf v12).toNat)
    case atStart => exact ⟨0, Nat.zero_le _, rfl, OwnI.empty _ _, Below.refl _ _⟩
    case round =>
      obtain ⟨k, hk, rfl, ho, hbr⟩ := hrel
      have hzr := hbr.size
      have Ho := Lib.hid ho
      clear ho
      by_cases hlt : k < (splitL 43 s.data.toList).length
      · obtain ⟨x, hx⟩ : ∃ x, (splitL 43 s.data.toList)[k]? = some x := ⟨_, List.getElem?_eq_getElem hlt⟩
        have hcell := (hbr.cell (p := ⟨g1, k, none⟩) hg1).trans (Hce1.out k x hx)
        have hxl := Hpl.out x (List.mem_of_getElem? hx)
        have Hn := Lib.hid (map_rd hx)
        clear hx
        go_wp2_with fail
        refine (unRead_l x _ hxl).mono ?_; rintro e w2 ⟨rfl, rfl⟩
        go_wp2_with (at_builtin; refine wpList_app _ (o := ⟨some 20, _, _, _, _, _⟩) (ys := [rdI x]) rfl _ _ rfl rfl (OwnI.below Ho.out ((Below.refl _ _).alloc (Nat.le_refl _) _)) 1 1 (by simp) rfl (Reads.one _ (rdI x)) (by simp; omega) (by simp; omega) ?_; intro v4 w4 ho4 hb4 hg4 ht4; clear hg4 ht4)
        go_roundw
        case rel => exact ⟨k + 1, by omega, by go_num, by rw [Hn.out]; exact ho4, by (repeat' (first | (with_reducible exact Below.refl _ _) | (with_reducible assumption) | (with_reducible refine Below.drew ?_) | (with_reducible refine belowDrewN ?_ _) | (with_reducible refine Below.alloc ?_ ?_ _) | (with_reducible refine Below.setCell ?_ ?_ _) | (with_reducible refine belowStep (by assumption) ?_ ?_) | (with_reducible exact Below.size (by assumption)) | go_size))⟩
        case measure => simp [intOf]; omega
      · obtain rfl : k = (splitL 43 s.data.toList).length := by omega
        have ho' := Ho.out
        rw [List.take_length, ← HM.out] at ho'
        have hml : (modE s.data.toList).length ≤ 1048577 := by rw [HM.out, List.length_map]; omega
        obtain ⟨A4, c4, rfl, hr4⟩ := ho'.form
        have Hr4 := Lib.hid hr4
        clear ho' hr4
        cases he : expB (modE s.data.toList) with
        | true =>
          have He := Lib.hid he
          have HO := Lib.hid (outE_yes he)
          have h24 := expB_len he
          clear he
          generalize modE s.data.toList = ms at *
          go_wp2_with fail
          refine (unList_yes _ _ _ _ Hr4.out (by omega) He.out).mono ?_; rintro e w3 ⟨rfl, hb3⟩; have hz3 := hb3.size; (try simp only [World.size_alloc, World.size_setCell, World.size_drew, World.heap_drewN] at hz3)
          go_wp2
          go_ret2
          rw [HO.out, He.out]
          exact ⟨_, _, rfl, Hr4.out.below hb3, by (repeat' (first | (with_reducible exact Below.refl _ _) | (with_reducible assumption) | (with_reducible refine Below.drew ?_) | (with_reducible refine belowDrewN ?_ _) | (with_reducible refine Below.alloc ?_ ?_ _) | (with_reducible refine Below.setCell ?_ ?_ _) | (with_reducible refine belowStep (by assumption) ?_ ?_) | (with_reducible exact Below.size (by assumption)) | go_size))⟩
        | false =>
          have He := Lib.hid he
          have HO := Lib.hid (outE_no he)
          clear he
          generalize modE s.data.toList = ms at *
          by_cases h24 : ms.length ≤ 1048576
          · go_wp2_with fail
            refine (unList_no _ _ _ _ Hr4.out h24 He.out).mono ?_; rintro e w3 ⟨rfl, hb3⟩; have hz3 := hb3.size; (try simp only [World.size_alloc, World.size_setCell, World.size_drew, World.heap_drewN] at hz3)
            go_wp2
            go_ret2
            rw [HO.out, He.out]
            exact ⟨_, _, rfl, Reads.nil, by (repeat' (first | (with_reducible exact Below.refl _ _) | (with_reducible assumption) | (with_reducible refine Below.drew ?_) | (with_reducible refine belowDrewN ?_ _) | (with_reducible refine Below.alloc ?_ ?_ _) | (with_reducible refine Below.setCell ?_ ?_ _) | (with_reducible refine belowStep (by assumption) ?_ ?_) | (with_reducible exact Below.size (by assumption)) | go_size))⟩
          · go_wp2_with fail
            refine (unList_long _ _ _ ms (by omega) (by omega)).mono ?_; rintro e w3 ⟨rfl, hb3⟩; have hz3 := hb3.size; (try simp only [World.size_alloc, World.size_setCell, World.size_drew, World.heap_drewN] at hz3)
            go_wp2
            go_ret2
            rw [HO.out, He.out]
            exact ⟨_, _, rfl, Reads.nil, by (repeat' (first | (with_reducible exact Below.refl _ _) | (with_reducible assumption) | (with_reducible refine Below.drew ?_) | (with_reducible refine belowDrewN ?_ _) | (with_reducible refine Below.alloc ?_ ?_ _) | (with_reducible refine Below.setCell ?_ ?_ _) | (with_reducible refine belowStep (by assumption) ?_ ?_) | (with_reducible exact Below.size (by assumption)) | go_size))⟩
end Go.Proofs.YtbjblkfibinenabDoor
