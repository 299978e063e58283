
/-
  Contracts of what draws fractions up to 1, yes or no, and lists of numbers: whatever the bytes are, numbers that fit are handed out, and only the cursor has changed.
-/
import Derived.Test.YtbjblkfibinenabDraw
import Derived.Deep.OwnRows
namespace Go.Proofs.Ytbjblkfibinenab
open Go.RowKit
theorem beginP (w : World) (A : Option Addr) (n c : Nat) (T : TypeId) (hr : ReadsB w A n) (hn : n ≤ 1048576) : Cur w (w.alloc (.cells #[.slice A n c, .int .i64 0, .int .u64 0] T)) w.heap.size 0 :=
  ⟨Nat.le_refl _, by simp, (Below.refl _ _).alloc (Nat.le_refl _) _, A, n, c, 0, 0, (by simp), hn, hr, (by simp), by omega, by omega, (by simp), by simp [go_sem], by simp [go_sem]⟩
theorem oneP_any (w0 w : World) (g n : Nat) (hn : n ≤ 1000000) (m : Int) (hm : m ≤ 1000000000) (h : Cur w0 w g n) : Calls Try.prog 63 #[.pointer (some ⟨g, 0, none⟩), .int .i64 m] w (fun e w' => ∃ b : Bool, e = .returned (.bool b) ∧ Cur w0 w' g (n + 2) ∧ w.grownBy w' (some g)) := by
  have HC := Lib.hid h
  clear h
  go_enter Try.func63, Try.ntmps63
  go_wp2_with fail
  refine (pick_any w0 _ _ n hn _ hm HC.out).mono ?_; rintro e w1 ⟨x, rfl, x0, x1, hc1, hg1⟩
  have HC1 := Lib.hid hc1
  have Hg1 := Lib.hid hg1
  clear hc1 hg1
  go_wp2
  go_ret
  exact ⟨_, rfl, HC1.out, Hg1.out⟩
set_option maxHeartbeats 4000000 in
theorem proper_any (w0 w : World) (g n : Nat) (hn : n ≤ 10000) (h : Cur w0 w g n) : Calls Try.prog 47 #[.pointer (some ⟨g, 0, none⟩)] w (DrawF w0 w g (n + 30)) := by
  have HC := Lib.hid (h.below ((Below.refl _ _).alloc (Nat.le_refl _) (.cells #[.int .i64 0, .int .i64 0] 27)))
  obtain ⟨b1, b2, b3⟩ := h.base
  clear h
  have T0 := Lib.hid (TwoAt.new w 0 0 27)
  go_enter Try.func47, Try.ntmps47
  go_wp2_with fail
  refine (oneP_any w0 _ g n (by omega) _ (by omega) HC.out).mono ?_; rintro e w1 ⟨o, rfl, hc1, hg1⟩
  have HC1 := Lib.hid hc1
  have T1 := Lib.hid (T0.out.grown hg1 (by omega))
  have Hg1 := Lib.hid ((grownAlloc (World.grownBy.refl w (some g)) (Nat.le_refl _) _).trans hg1)
  have hz1 := hg1.size
  simp only [World.size_alloc] at hz1
  clear hc1 hg1
  cases o with
  | true =>
    go_wp2_with fail
    refine (fraction_any w0 _ g (n + 2) (by omega) HC1.out).mono ?_; rintro e w2 ⟨a, b, rfl, ha, hb, hc2, hg2⟩
    have HC2 := Lib.hid hc2
    have Hg2 := Lib.hid (Hg1.out.trans hg2)
    have hz2 := hg2.size
    obtain ⟨t1, t2, t3, t4, t5⟩ := T1.out.grown hg2 (by omega)
    clear hc2 hg2
    go_wp2
    refine bodyPost_ret (by simp [results, Try.results47, go_sem, *]; try rfl) rfl ?_
    exact ⟨a, b, rfl, ha, hb, ((HC2.out.more (by omega)).set (by omega) (by omega) _ _).set (by omega) (by omega) _ _, grownSetNew (grownSetNew Hg2.out (Nat.le_refl _) _ _) (Nat.le_refl _) _ _⟩
  | false =>
    go_wp2_with fail
    refine (pick_any w0 _ _ (n + 2) (by omega) _ (by omega) HC1.out).mono ?_; rintro e w2 ⟨p, rfl, p0, p1, hc2, hg2⟩
    have HC2 := Lib.hid hc2
    have T2 := Lib.hid (T1.out.grown hg2 (by omega))
    have Hg2 := Lib.hid (Hg1.out.trans hg2)
    have hz2 := hg2.size
    clear hc2 hg2
    go_wp2_with fail
    refine (pick_any w0 _ _ (n + 4) (by omega) _ (by omega) HC2.out).mono ?_; rintro e w3 ⟨q, rfl, q0, q1, hc3, hg3⟩
    have HC3 := Lib.hid hc3
    have T3 := Lib.hid (T2.out.grown hg3 (by omega))
    have Hg3 := Lib.hid (Hg2.out.trans hg3)
    have hz3 := hg3.size
    clear hc3 hg3
    go_wp2_with fail
    refine (unMake_any _ _ _ (by omega) (by omega) (by omega) (by omega)).mono ?_; rintro e w4 ⟨rfl, hb4⟩
    have hsm := red_small (x := 1 + q) (y := 2 + p) (by omega) (by omega) (by omega) (by omega)
    generalize (1 + q) / gcdI (1 + q) (2 + p) = a at *
    generalize (2 + p) / gcdI (1 + q) (2 + p) = b at *
    have Hsm := Lib.hid hsm
    have HC4 := Lib.hid (HC3.out.below hb4)
    have Hg4 := Lib.hid (grownBelow Hg3.out (by omega) hb4)
    obtain ⟨t1, t2, t3, t4, t5⟩ := T3.out.below hb4
    have hz4 := hb4.size
    clear hsm hb4
    go_wp2
    refine bodyPost_ret (by simp [results, Try.results47, go_sem, *]; try rfl) rfl ?_
    exact ⟨a, b, rfl, Hsm.out.1, Hsm.out.2, ((HC4.out.more (by omega)).set (by omega) (by omega) _ _).set (by omega) (by omega) _ _, grownSetNew (grownSetNew Hg4.out (Nat.le_refl _) _ _) (Nat.le_refl _) _ _⟩
set_option maxRecDepth 100000 in
set_option maxHeartbeats 2000000 in
theorem drawEngelOf_any (w : World) (A : Option Addr) (n c : Nat) (hr : ReadsB w A n) (hn : n ≤ 1048576) : Calls Try.prog 27 #[.slice A n c] w (fun e w' => ∃ a b : Int, e = .returned (.agg #[.int .i64 a, .int .i64 b]) ∧ (-9223372036854775808 ≤ a ∧ a ≤ 9223372036854775807) ∧ (-9223372036854775808 ≤ b ∧ b ≤ 9223372036854775807) ∧ Below w.heap.size w w') := by
  have T0 := Lib.hid (TwoAt.new w 0 0 27)
  have hc0 := beginP (w.alloc (.cells #[.int .i64 0, .int .i64 0] 27)) A n c 54 (hr.below ((Below.refl _ _).alloc (Nat.le_refl _) _)) hn
  rw [World.size_alloc] at hc0
  have HC0 := Lib.hid hc0
  clear hr hc0
  go_enter Try.func27, Try.ntmps27
  go_wp2_with fail
  refine (proper_any (w.alloc (.cells #[.int .i64 0, .int .i64 0] 27)) _ (w.heap.size + 1) 0 (by omega) HC0.out).mono ?_; rintro e w2 ⟨a, b, rfl, ha, hb, hc2, hg2⟩
  have hbs := hc2.base.2.2
  have hz2 := hg2.size
  simp only [World.size_alloc] at hz2
  obtain ⟨t1, t2, t3, t4, t5⟩ := T0.out.below hbs
  have hbw : Below w.heap.size w w2 := by (repeat' (first | (with_reducible exact Below.refl _ _) | (with_reducible assumption) | (with_reducible refine Below.drew ?_) | (with_reducible refine belowDrewN ?_ _) | (with_reducible refine Below.alloc ?_ ?_ _) | (with_reducible refine Below.setCell ?_ ?_ _) | (with_reducible refine belowStep (by assumption) ?_ ?_) | (with_reducible exact Below.size (by assumption)) | go_size))
  clear hc2 hg2 hbs
  go_wp2
  refine bodyPost_ret (by simp [results, Try.results27, go_sem, *]; try rfl) rfl ?_
  exact ⟨a, b, rfl, ha, hb, (hbw.setCell (Nat.le_refl _) _).setCell (Nat.le_refl _) _⟩
theorem OwnI.atRow {w : World} {base g k : Nat} (hb : base ≤ g) (hk : k ≤ 1000) (h : w.heap[g]? = some (.cells (madeCells #[.int .i64 0] k) 3)) : OwnI w base (.slice (some ⟨g, 0, none⟩) k k) (List.replicate k 0) := by
  unfold OwnI
  rw [List.length_replicate]
  refine ⟨by simp, .inr ⟨g, k, _, rfl, hb, h, Nat.le_refl _, by unfold maxLen; omega, by simp [madeCells], ?_⟩⟩
  rw [toList_madeCells_one, Nat.mul_one, List.map_replicate]
  exact List.take_of_length_le (by simp)
/-- a list of the call's own has been drawn -/
def DrawnL (w : World) (e : Ending) (w' : World) : Prop := ∃ v zs, e = .returned v ∧ OwnI w' w.heap.size v zs ∧ zs.length ≤ 40 ∧ (∀ z ∈ zs, -9223372036854775808 ≤ z ∧ z ≤ 9223372036854775807) ∧ Below w.heap.size w w'
theorem twos_set (i m : Nat) (h : i < m) : (List.replicate i (2 : Int) ++ List.replicate (m - i) 0).set i 2 = List.replicate (i + 1) 2 ++ List.replicate (m - (i + 1)) 0 := by
  obtain ⟨k, hk⟩ : ∃ k, m - i = k + 1 := ⟨m - i - 1, by omega⟩
  rw [hk, show m - (i + 1) = k by omega, List.set_append_right _ _ (by simp), List.length_replicate, Nat.sub_self, List.replicate_succ (n := k), List.set_cons_zero, List.replicate_succ' (n := i), List.append_assoc]
  rfl
theorem twos_at (i m : Nat) (h : i < m) : (List.replicate i (2 : Int) ++ List.replicate (m - i) 0)[i]? = some 0 := by
  rw [List.getElem?_append_right (by simp), List.length_replicate, Nat.sub_self, List.getElem?_replicate, if_pos (by omega)]
set_option maxHeartbeats 8000000 in
theorem numbers_any (w0 w : World) (g n : Nat) (hn : n ≤ 100000) (h : Cur w0 w g n) : Calls Try.prog 48 #[.pointer (some ⟨g, 0, none⟩)] w (DrawL w0 w g (n + 100)) := by
  have HC := Lib.hid h
  obtain ⟨b1, b2, b3⟩ := h.base
  clear h
  go_enter Try.func48, Try.ntmps48
  go_wp2_with fail
  refine (pick_any w0 _ _ n (by omega) _ (by omega) HC.out).mono ?_; rintro e w1 ⟨x, rfl, x0, x1, hc1, hg1⟩
  obtain ⟨j, rfl⟩ := Int.eq_ofNat_of_zero_le x0
  have HC1 := Lib.hid hc1
  have Hg1 := Lib.hid hg1
  have hz1 := hg1.size
  clear hc1 hg1
  go_wp2
  go_loopw [3, 4, 5] (fun v3 v4 v5 wr => ∃ (i : Nat) (last : Int) (zs : List Int) (A : Option Addr) (c : Nat), i ≤ 5 ∧ v5 = .int .i64 i ∧ v4 = .int .i64 last ∧ 1 ≤ last ∧ last + 3 * i ≤ 16 ∧ v3 = .slice A zs.length c ∧ OwnI wr w.heap.size (.slice A zs.length c) zs ∧ zs.length + i ≤ 5 ∧ (∀ z ∈ zs, -9223372036854775808 ≤ z ∧ z ≤ 9223372036854775807) ∧ Cur w0 wr g (n + 30 - 4 * i) ∧ w.grownBy wr (some g)) (fun _ _ v5 _ => (intOf v5).toNat)
  case atStart => exact ⟨j, 1, [], none, 0, by omega, rfl, rfl, by omega, by omega, rfl, OwnI.empty _ _, by simp; omega, (fun z hz => by cases hz), HC1.out.more (by omega), Hg1.out⟩
  case round =>
    obtain ⟨i, last, zs, A, c, hi, rfl, rfl, l1, l2, rfl, ho, hzl, hz64, hcr, hgr⟩ := hrel
    have Ho := Lib.hid ho
    have Hz64 := Lib.hid hz64
    have HCr := Lib.hid hcr
    have Hgr := Lib.hid hgr
    have hzr := hgr.size
    clear ho hz64 hcr hgr
    by_cases h0 : 0 < (i : Int)
    · go_wp2_with fail
      refine (pick_any w0 _ _ (n + 30 - 4 * i) (by omega) _ (by omega) HCr.out).mono ?_; rintro e w2 ⟨y, rfl, y0, y1, hc2, hg2⟩
      have HC2 := Lib.hid hc2
      have Ho2 := Lib.hid (Ho.out.grown hg2 (by omega))
      have Hg2 := Lib.hid (Hgr.out.trans hg2)
      have hz2 := hg2.size
      clear hc2 hg2
      go_wp2_with (at_builtin; refine wpList_app _ (o := ⟨some 20, _, _, _, _, _⟩) (ys := [last + y]) rfl _ _ rfl rfl (OwnI.below Ho2.out ((Below.refl _ _).alloc (Nat.le_refl _) _)) (1) (1) (by first | (simp; done) | (simp; omega)) rfl (Reads.one _ (last + y)) (by (try simp only [List.length_nil, List.length_cons]); omega) (by first | exact Nat.le_refl _ | ((try simp only [World.size_alloc]); omega)) ?_; intro v4 w4 ho4 hb4 hg4 ht4; clear hg4 ht4; have hz4 := hb4.size; (try simp only [World.size_alloc] at hz4))
      obtain ⟨A4, c4, rfl, _⟩ := ho4.form
      go_roundw
      case rel => exact ⟨i - 1, last + y, zs ++ [last + y], A4, c4, by omega, congrArg (Value.int .i64) (by omega), rfl, by omega, by omega, by simp, by simpa using ho4, by simp; omega, fun u hu => by
          rcases List.mem_append.1 hu with hu | hu
          · exact Hz64.out u hu
          · simp only [List.mem_singleton] at hu; omega, ((HC2.out.below ((Below.refl _ _).alloc (Nat.le_refl _) _)).belowB hb4 b2).more (by omega), grownBelowB (grownAlloc Hg2.out (by omega) _) (Nat.le_refl _) hb4⟩
      case measure => simp [intOf]; omega
    · obtain rfl : i = 0 := by omega
      go_wp2_with fail
      refine (pick_any w0 _ _ (n + 30) (by omega) _ (by omega) (HCr.out.more (by omega))).mono ?_; rintro e w2 ⟨y, rfl, y0, y1, hc2, hg2⟩
      have HC2 := Lib.hid hc2
      have Ho2 := Lib.hid (Ho.out.grown hg2 (by omega))
      have Hg2 := Lib.hid (Hgr.out.trans hg2)
      have hz2 := hg2.size
      clear hc2 hg2
      by_cases e0 : y = 0
      · subst e0
        go_wp2_with fail
        refine (among_any w0 _ _ (n + 32) (by omega) (-1) 1000000001 _ 6 [-1, 0, 1, 2, 1000000000, 1000000001] (Reads.lit w2 _ 6 rfl) (by simp) (by simp) (by simp) (fun a ha => by injection ha with ha; subst ha; show w2.heap.size ≠ g; omega) (fun z hz => by simp only [List.mem_cons, List.not_mem_nil, or_false] at hz; omega) (HC2.out.below ((Below.refl _ _).alloc (Nat.le_refl _) _))).mono ?_; rintro e w3 ⟨z, rfl, z0, z1, hc3, hg3⟩
        have HC3 := Lib.hid hc3
        have Ho3 := Lib.hid ((Ho2.out.below ((Below.refl _ _).alloc (Nat.le_refl _) _)).grown hg3 (by omega))
        have Hg3 := Lib.hid (Hg2.out.trans ((grownAlloc (World.grownBy.refl w2 (some g)) (Nat.le_refl _) _).trans hg3))
        have hz3 := hg3.size
        (try simp only [World.size_alloc] at hz3)
        clear hc3 hg3
        go_wp2_with (at_builtin; refine wpList_app _ (o := ⟨some 30, _, _, _, _, _⟩) (ys := [z]) rfl _ _ rfl rfl (OwnI.below Ho3.out ((Below.refl _ _).alloc (Nat.le_refl _) _)) (1) (1) (by first | (simp; done) | (simp; omega)) rfl (Reads.one _ z) (by (try simp only [List.length_nil, List.length_cons]); omega) (by first | exact Nat.le_refl _ | ((try simp only [World.size_alloc]); omega)) ?_; intro v4 w4 ho4 hb4 hg4 ht4; clear hg4 ht4; have hz4 := hb4.size; (try simp only [World.size_alloc] at hz4))
        go_ret
        have hh : ∀ u ∈ zs ++ [z], -9223372036854775808 ≤ u ∧ u ≤ 9223372036854775807 := fun u hu => by
          rcases List.mem_append.1 hu with hu | hu
          · exact Hz64.out u hu
          · simp only [List.mem_singleton] at hu; omega
        exact ⟨_, zs ++ [z], rfl, ho4, by simp; omega, hh, ((HC3.out.below ((Below.refl _ _).alloc (Nat.le_refl _) _)).belowB hb4 b2).more (by omega), grownBelowB (grownAlloc Hg3.out (by omega) _) (Nat.le_refl _) hb4⟩
      · by_cases e1 : y = 1
        · subst e1
          go_wp2_with fail
          refine (pick_any w0 _ _ (n + 32) (by omega) _ (by omega) HC2.out).mono ?_; rintro e w3 ⟨m, rfl, m0, m1, hc3, hg3⟩
          have HC3 := Lib.hid hc3
          have Hg3 := Lib.hid (Hg2.out.trans hg3)
          have hz3 := hg3.size
          obtain ⟨M, hM⟩ : ∃ M : Nat, 24 + m = (M : Int) := ⟨(24 + m).toNat, by omega⟩
          have hM2 : M ≤ 25 := by omega
          have hmk : ∀ w : World, (Instr.makeSlice 24 (.int .i64 (M : Int)) (.int .i64 (M : Int))).run Try.prog w = .ok (.slice (some ⟨w.heap.size, 0, none⟩) M M) (w.alloc (.cells (madeCells #[.int .i64 0] M) 3)) := fun w =>
            run_make_row' 24 3 (.int .i64 0) 8 Try.underlying24 intInfo rfl .i64 .i64 M (by omega) (by omega) w
          have hwm : IntKind.i64.wrap (24 + m) = (M : Int) := by rw [hM]; exact IntWalk.i64_in _ (by omega)
          clear hc3 hg3
          have Ho3 : Hid (OwnI (w3.alloc (.cells (madeCells #[.int .i64 0] M) 3)) w.heap.size (.slice (some ⟨w3.heap.size, 0, none⟩) M M) (List.replicate M 0)) := Lib.hid (OwnI.atRow (by omega) (by omega) (heap_alloc_new w3 _))
          go_wp2
          go_loopw [39] (fun v6 wr => ∃ (i : Nat), i ≤ M ∧ v6 = .int .i64 i ∧ OwnI wr w.heap.size (.slice (some ⟨w3.heap.size, 0, none⟩) M M) (List.replicate i 2 ++ List.replicate (M - i) 0) ∧ Cur w0 wr g (n + 34) ∧ w.grownBy wr (some g)) (fun v6 _ => M - (intOf v6).toNat)
          case atStart => exact ⟨0, Nat.zero_le _, rfl, by simpa using Ho3.out, HC3.out.below ((Below.refl _ _).alloc (Nat.le_refl _) _), grownAlloc Hg3.out (by omega) _⟩
          case round =>
            obtain ⟨i, hi, rfl, hou, hcu, hgu⟩ := hrel
            have HCu := Lib.hid hcu
            have Hgu := Lib.hid hgu
            have hzu := hgu.size
            clear hcu hgu
            by_cases t1 : i < M
            · have hlen : M = (List.replicate i (2 : Int) ++ List.replicate (M - i) 0).length := by simp; omega
              obtain ⟨hC, hF⟩ := hou.cell_ hlen (twos_at i M t1)
              have hgl := (hou.block w3.heap.size rfl).2
              have O2 := hou.set_ hlen i 2
              rw [twos_set i M t1] at O2
              have HO := Lib.hid O2
              have t1i : (i : Int) < (M : Int) := by omega
              clear O2 hou hlen
              go_wp2
              go_roundw
              case rel => exact ⟨i + 1, by omega, by go_num, HO.out, HCu.out.set (by omega) (by omega) _ _, grownSetNew Hgu.out (by omega) _ _⟩
              case measure => simp [intOf]; omega
            · obtain rfl : i = M := by omega
              have Hou : Hid (OwnI wr w.heap.size (.slice (some ⟨w3.heap.size, 0, none⟩) i i) (List.replicate i 2)) := Lib.hid (by simpa using hou)
              clear hou
              go_wp2
              go_ret
              exact ⟨_, List.replicate i 2, rfl, Hou.out, by simp; omega, fun u hu => by have := (List.mem_replicate.1 hu).2; omega, HCu.out.more (by omega), Hgu.out⟩
        · have f0 : (y == 0) = false := by simp [e0]
          have f1 : (y == 1) = false := by simp [e1]
          clear e0 e1
          go_wp2
          go_ret
          exact ⟨_, zs, rfl, Ho2.out, by omega, Hz64.out, HC2.out.more (by omega), Hg2.out⟩
set_option maxHeartbeats 2000000 in
theorem drawFromEngel_any (w : World) (A : Option Addr) (n c : Nat) (hr : ReadsB w A n) (hn : n ≤ 1048576) : Calls Try.prog 29 #[.slice A n c] w (DrawnL w) := by
  have HC0 := Lib.hid (beginP w A n c 54 hr hn)
  clear hr
  go_enter Try.func29, Try.ntmps29
  go_wp2_with fail
  refine (numbers_any w _ w.heap.size 0 (by omega) HC0.out).mono ?_; rintro e w2 ⟨v, zs, rfl, ho, hl, h64, hc2, hg2⟩
  have hbs := hc2.base.2.2
  clear hc2 hg2
  go_wp2
  go_ret
  exact ⟨v, zs, rfl, ho.mono (by (first | (go_size; done) | ((try simp only [World.size_alloc, World.size_setCell, World.size_drew, World.heap_drewN]); omega))), hl, h64, hbs⟩
end Go.Proofs.Ytbjblkfibinenab
