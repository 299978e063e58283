
/-
  Contracts of what draws strings and pairs of numbers for the laws on texts.
-/
import Derived.Test.YtbjblkfibinenabDoorSplitsD
import Derived.Test.YtbjblkfibinenabDoorParseG
namespace Go.Proofs.YtbjblkfibinenabDoor
open Go.RowKit
def DrawBo (w0 w : World) (g n : Nat) (e : Ending) (w' : World) : Prop := ∃ b : Bool, e = .returned (.bool b) ∧ Cur w0 w' g n ∧ w.grownBy w' (some g)
theorem one_any (w0 w : World) (g n : Nat) (hn : n ≤ 1000000) (m : Int) (hm : m ≤ 1000000000) (h : Cur w0 w g n) : Calls Tryd.prog 59 #[.pointer (some ⟨g, 0, none⟩), .int .i64 m] w (DrawBo w0 w g (n + 2)) := by
  have HC := Lib.hid h
  clear h
  go_enter Tryd.func59, Tryd.ntmps59
  go_wp2_with fail
  refine (pick_any w0 _ _ n hn _ hm HC.out).mono ?_; rintro e w1 ⟨x, rfl, x0, x1, hc1, hg1⟩
  have HC1 := Lib.hid hc1
  have Hg1 := Lib.hid hg1
  clear hc1 hg1
  go_wp2
  go_ret
  exact ⟨_, rfl, HC1.out, Hg1.out⟩
/-- a string of at most m bytes is drawn -/
def DrawSt (w0 w : World) (g n m : Nat) (e : Ending) (w' : World) : Prop := ∃ s : ByteArray, e = .returned (.string s) ∧ s.size ≤ m ∧ Cur w0 w' g n ∧ w.grownBy w' (some g)
theorem of_any (w0 w : World) (g n b c m k : Nat) (ls : List (List UInt8)) (hk : ls.length = k) (hn : n ≤ 1000000) (h0 : 0 < k) (hl : k ≤ 1000) (hr : ReadsW w b ls) (hb : b ≠ g) (hm : ∀ l ∈ ls, l.length ≤ m) (h : Cur w0 w g n) :
    Calls Tryd.prog 58 #[.pointer (some ⟨g, 0, none⟩), .slice (some ⟨b, 0, none⟩) k c] w (DrawSt w0 w g (n + 2) m) := by
  have HC := Lib.hid h
  have Hr := Lib.hid hr
  have Hm := Lib.hid hm
  have Hk := Lib.hid hk
  clear h hr hm hk
  go_enter Tryd.func58, Tryd.ntmps58
  go_wp2_with fail
  refine (pick_any w0 _ _ n hn _ (by omega) HC.out).mono ?_; rintro e w1 ⟨x, rfl, x0, x1, hc1, hg1⟩
  obtain ⟨j, rfl⟩ := Int.eq_ofNat_of_zero_le x0
  have hj : j < ls.length := by have := Hk.out; omega
  have hcell := (Hr.out.grown hg1 (fun e => hb (by injection e with e; exact e.symm))).2 j _ (List.getElem?_eq_getElem hj)
  have hlm := Hm.out _ (List.getElem_mem hj)
  have hjl : (j : Int) < (k : Int) := by omega
  generalize ls[j] = l at hcell hlm
  have HC1 := Lib.hid hc1
  have Hg1 := Lib.hid hg1
  clear hc1 hg1
  go_wp2
  go_ret
  exact ⟨_, rfl, by rw [mk_size]; exact hlm, HC1.out, Hg1.out⟩
theorem convB (W : World) (b cap : Nat) (c : UInt8) (hc : W.cell? ⟨b, 0, none⟩ = some (.int .u8 (c.toNat : Int))) :
    (convert 38 9 (.slice (some ⟨b, 0, none⟩) 1 cap)).run Tryd.prog W = .ok (.string ⟨#[c]⟩) W :=
  run_convert_bytes_back W 38 9 5 ⟨b, 0, none⟩ cap [c] Tryd.underlying38 Tryd.underlying5 Tryd.underlying9 (fun j hj => by
    obtain rfl : j = 0 := by simpa using hj
    rw [Go.WideShapes.add_plain, hc]
    rfl)
set_option maxRecDepth 100000 in
set_option maxHeartbeats 8000000 in
theorem spoilt_any (w0 w : World) (g n : Nat) (t wi : ByteArray) (hn : n ≤ 100000) (ht : t.size ≤ 1000) (hw0 : 0 < wi.size) (hw1 : wi.size ≤ 100) (h : Cur w0 w g n) :
    Calls Tryd.prog 60 #[.pointer (some ⟨g, 0, none⟩), .string t, .string wi] w (DrawSt w0 w g (n + 20) (t.size + 2)) := by
  have HC := Lib.hid h
  obtain ⟨b1, b2, b3⟩ := h.base
  clear h
  go_enter Tryd.func60, Tryd.ntmps60
  go_wp2_with fail
  refine (pick_any w0 _ _ n (by omega) _ (by omega) HC.out).mono ?_; rintro e w1 ⟨x, rfl, x0, x1, hc1, hg1⟩
  obtain ⟨j, rfl⟩ := Int.eq_ofNat_of_zero_le x0
  have HC1 := Lib.hid hc1
  have Hg1 := Lib.hid hg1
  have hz1 := hg1.size
  clear hc1 hg1
  go_wp2
  go_loopw [1, 7] (fun v1 v7 wr => ∃ (i : Nat) (s : ByteArray), i ≤ 2 ∧ v7 = .int .i64 i ∧ v1 = .string s ∧ s.size + i ≤ t.size + 2 ∧ Cur w0 wr g (n + 18 - 6 * i) ∧ w.grownBy wr (some g)) (fun _ v7 _ => (intOf v7).toNat)
  case atStart => exact ⟨1 + j, t, by omega, by go_num, rfl, by omega, HC1.out.more (by omega), Hg1.out⟩
  case round =>
    obtain ⟨i, s, hi, rfl, rfl, hsz, hcr, hgr⟩ := hrel
    have HCr := Lib.hid hcr
    have Hgr := Lib.hid hgr
    have hzr := hgr.size
    clear hcr hgr
    by_cases hi0 : 0 < (i : Int)
    · by_cases hs0 : 0 < (s.size : Int)
      · go_wp2_with fail
        refine (pick_any w0 _ _ (n + 18 - 6 * i) (by omega) _ (by omega) HCr.out).mono ?_; rintro e w2 ⟨y, rfl, y0, y1, hc2, hg2⟩
        obtain ⟨k, rfl⟩ := Int.eq_ofNat_of_zero_le y0
        have HC2 := Lib.hid hc2
        have Hg2 := Lib.hid (Hgr.out.trans hg2)
        have hz2 := hg2.size
        clear hc2 hg2
        go_wp2_with fail
        refine (pick_any w0 _ _ (n + 18 - 6 * i + 2) (by omega) _ (by omega) HC2.out).mono ?_; rintro e w3 ⟨z, rfl, z0, z1, hc3, hg3⟩
        obtain ⟨q, rfl⟩ := Int.eq_ofNat_of_zero_le z0
        have hq : q < wi.size := by omega
        have hq2 : (q : Int) < (wi.size : Int) := by omega
        have HC3 := Lib.hid (hc3.below ((Below.refl _ _).alloc (Nat.le_refl _) (.cells #[.int .u8 ((wi[q]).toNat : Int)] 5)))
        have Hg3 := Lib.hid (grownAlloc (Hg2.out.trans hg3) (by have := hg3.size; omega) (.cells #[.int .u8 ((wi[q]).toNat : Int)] 5))
        have hz3 := hg3.size
        have hcv := convB (w3.alloc (.cells #[.int .u8 ((wi[q]).toNat : Int)] 5)) w3.heap.size 1 wi[q] (by simp)
        clear hc3 hg3
        go_wp2_with fail
        refine (pick_any w0 _ _ (n + 18 - 6 * i + 4) (by omega) _ (by omega) HC3.out).mono ?_; rintro e w4 ⟨u, rfl, u0, u1, hc4, hg4⟩
        have HC4 := Lib.hid hc4
        have Hg4 := Lib.hid (Hg3.out.trans hg4)
        have hz4 := hg4.size
        clear hc4 hg4 hcv
        have hk1 : (k : Int) ≤ (s.size : Int) := by omega
        have hk2 : (k : Int) + 1 ≤ (s.size : Int) := by omega
        have e1 : (s.extract 0 k).size = k := by rw [ByteArray.size_extract]; omega
        have e2 : (s.extract k s.size).size = s.size - k := by rw [ByteArray.size_extract]; omega
        have e3 : (s.extract (k + 1) s.size).size = s.size - (k + 1) := by rw [ByteArray.size_extract]; omega
        have E1 := Lib.hid e1
        have E2 := Lib.hid e2
        have E3 := Lib.hid e3
        have l1 : (s.extract 0 k).size ≤ 2000 := by omega
        have l2 : (s.extract k s.size).size ≤ 2000 := by omega
        have l3 : (s.extract (k + 1) s.size).size ≤ 2000 := by omega
        have hkn : ((k : Int) + 1).toNat = k + 1 := by omega
        have hwr : IntKind.i64.wrap ((k : Int) + 1) = (k : Int) + 1 := IntWalk.i64_in _ (by omega)
        clear e1 e2 e3
        by_cases u00 : u = 0
        · subst u00
          go_wp2
          go_quiet (fail)
          go_wp2
          go_roundw
          case rel => exact ⟨i - 1, _, by omega, congrArg (Value.int .i64) (by omega), rfl, by have := E1.out; have := E2.out; simp only [ByteArray.size_append']; show _ + 1 + _ + _ ≤ _; omega, (HC4.out.below (belowDrewN (Below.refl _ _) _)).more (by omega), grownDrewN Hg4.out _⟩
          case measure => simp [intOf]; omega
        · by_cases u01 : u = 1
          · subst u01
            go_wp2
            go_quiet (fail)
            go_wp2
            go_roundw
            case rel => exact ⟨i - 1, _, by omega, congrArg (Value.int .i64) (by omega), rfl, by have := E1.out; have := E3.out; simp only [ByteArray.size_append']; show _ + 1 + _ + _ ≤ _; omega, (HC4.out.below (belowDrewN (Below.refl _ _) _)).more (by omega), grownDrewN Hg4.out _⟩
            case measure => simp [intOf]; omega
          · have f0 : (u == 0) = false := by simp [u00]
            have f1 : (u == 1) = false := by simp [u01]
            clear u00 u01
            go_wp2
            go_quiet (fail)
            go_wp2
            go_roundw
            case rel => exact ⟨i - 1, _, by omega, congrArg (Value.int .i64) (by omega), rfl, by have := E1.out; have := E3.out; simp only [ByteArray.size_append']; omega, (HC4.out.below (belowDrewN (Below.refl _ _) _)).more (by omega), grownDrewN Hg4.out _⟩
            case measure => simp [intOf]; omega
      · go_wp2
        go_ret
        exact ⟨_, rfl, by omega, HCr.out.more (by omega), Hgr.out⟩
    · go_wp2
      go_ret
      exact ⟨_, rfl, by omega, HCr.out.more (by omega), Hgr.out⟩
end Go.Proofs.YtbjblkfibinenabDoor
