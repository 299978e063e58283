import Derived.Test.YtbjblkfibinenadGreatTwX
import Derived.Test.YtbjblkfibinenadGreatDraw
import Derived.Test.YtbjblkfibinenadGreatSum2
import Derived.Test.YtbjblkfibinenadGreatHas
import Derived.Test.YtbjblkfibinenadGreatShell
import Derived.Deep.OwnRows
import Derived.Test.YtbjblkfibinenadGreatRq
import Derived.Test.YtbjblkfibinenadGreatLists

/-
  Contracts of the program's expansions by pairs and by splits.
-/
namespace Go.Proofs.YtbjblkfibinenadGreat
open Go.RowKit
open Go.Maps Go.WideMaps
set_option maxRecDepth 100000 in
set_option maxHeartbeats 2000000 in
theorem pairExp_any (n d : Int) (w : World) (rn : -9223372036854775808 ≤ n ∧ n ≤ 9223372036854775807) (rd : -9223372036854775808 ≤ d ∧ d ≤ 9223372036854775807) : Calls Tryz.prog 26 #[.agg #[.int .i64 n, .int .i64 d]] w (RetLB ((twE repP n d).getD []) (twE repP n d).isSome w) := by
  have HX := Lib.hid fun (w : World) => expandBy_any ⟨#[112, 97, 105, 114]⟩ (by decide) 85 131 pairD n d (if proB n d = true then twO repP n d else none) w rn rd pairMethod (fun _ _ => rfl) (fun hp w => by rw [if_pos hp]; exact pairTerms_any n d w hp) (fun xs hx => by
    split at hx
    · rename_i hp
      exact twO_facts repP_good hp hx
    · cases hx)
  have E : Hid (pexO n d (if proB n d = true then twO repP n d else none) = twE repP n d) := Lib.hid (by unfold twE pexO; cases proB n d <;> rfl)
  go_enter Tryz.func26, Tryz.ntmps26
  go_wp2_with fail
  refine (HX.out _).mono ?_; rintro e w2 ⟨v2, rfl, ho2, hb2⟩
  rw [E.out] at ho2 ⊢
  have Ho2 := Lib.hid ho2
  have hz2 := hb2.size
  clear ho2
  go_wp2
  go_ret2
  exact ⟨_, rfl, Ho2.out.mono (by (first | (go_size; done) | ((try simp only [World.size_alloc, World.size_setCell, World.size_drew, World.heap_drewN]); omega))), by (repeat' (first | (with_reducible exact Below.refl _ _) | (with_reducible assumption) | (with_reducible refine Below.drew ?_) | (with_reducible refine belowDrewN ?_ _) | (with_reducible refine Below.alloc ?_ ?_ _) | (with_reducible refine Below.setCell ?_ ?_ _) | (with_reducible refine belowStep (by assumption) ?_ ?_) | (with_reducible exact Below.size (by assumption)) | go_size))⟩
set_option maxRecDepth 100000 in
set_option maxHeartbeats 2000000 in
theorem splitExp_any (n d : Int) (w : World) (rn : -9223372036854775808 ≤ n ∧ n ≤ 9223372036854775807) (rd : -9223372036854775808 ≤ d ∧ d ≤ 9223372036854775807) : Calls Tryz.prog 29 #[.agg #[.int .i64 n, .int .i64 d]] w (RetLB ((twE repS n d).getD []) (twE repS n d).isSome w) := by
  have HX := Lib.hid fun (w : World) => expandBy_any ⟨#[115, 112, 108, 105, 116]⟩ (by decide) 86 141 splitD n d (if proB n d = true then twO repS n d else none) w rn rd splitMethod (fun _ _ => rfl) (fun hp w => by rw [if_pos hp]; exact splitTerms_any n d w hp) (fun xs hx => by
    split at hx
    · rename_i hp
      exact twO_facts repS_good hp hx
    · cases hx)
  have E : Hid (pexO n d (if proB n d = true then twO repS n d else none) = twE repS n d) := Lib.hid (by unfold twE pexO; cases proB n d <;> rfl)
  go_enter Tryz.func29, Tryz.ntmps29
  go_wp2_with fail
  refine (HX.out _).mono ?_; rintro e w2 ⟨v2, rfl, ho2, hb2⟩
  rw [E.out] at ho2 ⊢
  have Ho2 := Lib.hid ho2
  have hz2 := hb2.size
  clear ho2
  go_wp2
  go_ret2
  exact ⟨_, rfl, Ho2.out.mono (by (first | (go_size; done) | ((try simp only [World.size_alloc, World.size_setCell, World.size_drew, World.heap_drewN]); omega))), by (repeat' (first | (with_reducible exact Below.refl _ _) | (with_reducible assumption) | (with_reducible refine Below.drew ?_) | (with_reducible refine belowDrewN ?_ _) | (with_reducible refine Below.alloc ?_ ?_ _) | (with_reducible refine Below.setCell ?_ ?_ _) | (with_reducible refine belowStep (by assumption) ?_ ?_) | (with_reducible exact Below.size (by assumption)) | go_size))⟩
end Go.Proofs.YtbjblkfibinenadGreat


/-
  Contracts of the helpers and of the draws of the law on pairs and splits, and its plain facts.
-/
namespace Go.Proofs.YtbjblkfibinenadGreat
open Go.RowKit
def bigB (n m : Nat) : Bool := decide (1048576 < n) || decide (1048576 < n + m)
theorem big_any (w : World) (A B : Option Addr) (n m c d : Nat) (hn : n ≤ 9223372036854775807) (_ : m ≤ 9223372036854775807) : Calls Tryz.prog 6 #[.slice A n c, .slice B m d] w (RetQ (.bool (bigB n m)) w) := by
  by_cases h : 1048576 < n
  · have h1 : 1048576 < (n : Int) := by omega
    have E : Hid (bigB n m = true) := by show bigB n m = true; simp [bigB, h]
    go_enter Tryz.func6, Tryz.ntmps6
    go_wp2
    go_ret
    exact ⟨ret_bool (by first | (rw [E.out]; done) | (rw [E.out]; simp; done) | (rw [E.out]; simp; omega)), 0, rfl⟩
  · have h1 : ¬ 1048576 < (n : Int) := by omega
    have h2 : (n : Int) ≤ 1048576 := by omega
    have E : Hid (bigB n m = decide (1048576 - (n : Int) < m)) := by
      show bigB n m = _
      rw [Bool.eq_iff_iff]; simp [bigB, h]; omega
    go_enter Tryz.func6, Tryz.ntmps6
    go_wp2
    go_ret
    exact ⟨ret_bool (by first | (rw [E.out]; done) | (rw [E.out]; simp; done) | (rw [E.out]; simp; omega)), 0, rfl⟩
set_option maxHeartbeats 1000000 in
theorem pSame_same (w : World) (A B : Option Addr) (c d : Nat) (xs : List Int) (ha : Reads w A xs) (hb : Reads w B xs) (hl : xs.length ≤ 1048576) :
    Calls Tryz.prog 12 #[.slice A xs.length c, .slice B xs.length d] w (RetQ (.bool true) w) := by
  go_enter Tryz.func12, Tryz.ntmps12
  go_wp2
  go_loopw [13] (fun v5 wr => ∃ k : Nat, k ≤ xs.length ∧ v5 = .int .i64 k ∧ ∃ n, wr = w.drewN n) (fun v5 _ => xs.length - (intOf v5).toNat)
  case atStart => exact ⟨0, Nat.zero_le _, rfl, 0, rfl⟩
  case round =>
    obtain ⟨k, hk, rfl, n, rfl⟩ := hrel
    by_cases hlt : k < xs.length
    · obtain ⟨b, o, x, rfl, _, hx, hcell⟩ := ha.at_ hlt
      obtain ⟨b', o', x', rfl, _, hx', hcell'⟩ := hb.at_ hlt
      obtain rfl : x = x' := by rw [hx] at hx'; injection hx'
      have hki : (k : Int) < (xs.length : Int) := by omega
      clear hx hx' ha hb
      go_wp2
      go_quiet (fail)
      go_wp2
      go_roundw
      case rel => exact ⟨k + 1, by omega, by go_num, _, rfl⟩
      case measure => simp [intOf]; omega
    · go_wp2
      go_ret
      exact ⟨rfl, n, rfl⟩
set_option maxHeartbeats 1000000 in
theorem pHas_any (w : World) (v : Int) (Axs : Option Addr) (cxs : Nat) (xs : List Int) (hxs : Reads w Axs xs) (lxs : xs.length ≤ 1048576) : Calls Tryz.prog 15 #[.slice Axs xs.length cxs, .int .i64 v] w (RetQ (.bool (hasB xs v)) w) := by
  go_enter Tryz.func15, Tryz.ntmps15
  go_wp2
  go_loopw [9] (fun v8 wr => ∃ k : Nat, k ≤ xs.length ∧ v8 = .int .i64 k ∧ hasB xs v = hasB (xs.drop k) v ∧ ∃ n, wr = w.drewN n) (fun v8 _ => xs.length - (intOf v8).toNat)
  case atStart => exact ⟨0, Nat.zero_le _, rfl, rfl, 0, rfl⟩
  case round =>
    obtain ⟨k, hk, rfl, hr, n, rfl⟩ := hrel
    have Hr := Lib.hid hr
    clear hr
    by_cases hlt : k < xs.length
    · obtain ⟨b, o, x, rfl, hb, hx, hcell⟩ := hxs.at_ hlt
      have Hx := Lib.hid hx
      clear hx
      by_cases he : x = v
      · have hee : (x == v) = true := by simp [he]
        have He := Lib.hid he
        clear he
        go_wp2
        go_ret
        exact ⟨ret_bool (by rw [Hr.out, drop_at Hx.out, has_hit He.out]), n, rfl⟩
      · have hee : (x == v) = false := by simp; omega
        have He := Lib.hid he
        clear he
        go_wp2
        go_roundw
        case rel => exact ⟨k + 1, by omega, by go_num, by rw [Hr.out, drop_at Hx.out, has_miss He.out], n, rfl⟩
        case measure => simp [intOf]; omega
    · obtain rfl : k = xs.length := by omega
      go_wp2
      go_ret
      exact ⟨ret_bool (by rw [Hr.out, drop_all]; rfl), n, rfl⟩
theorem pSums_yes (w : World) (n d : Int) (Axs : Option Addr) (cxs : Nat) (xs : List Int) (hxs : Reads w Axs xs) (lxs : xs.length ≤ 1048576) (r64 : ∀ (i : Nat) (x : Int), xs[i]? = some x → -9223372036854775808 ≤ x ∧ x ≤ 9223372036854775807) (h : expB xs = true) (hn : eN xs = n) (hd : eD xs = d) : Calls Tryz.prog 13 #[.slice Axs xs.length cxs, .agg #[.int .i64 n, .int .i64 d]] w (Ret (.bool true) w) := by
  have Hxs := Lib.hid hxs
  have Hr64 := Lib.hid r64
  have Hn := Lib.hid hn
  have Hd := Lib.hid hd
  have H := Lib.hid h
  clear hxs r64 hn hd h
  go_enter Tryz.func13, Tryz.ntmps13
  go_wp2_with fail
  refine (sumOf_any _ _ _ _ (Hxs.out.below (by (repeat' (first | (with_reducible exact Below.refl _ _) | (with_reducible assumption) | (with_reducible refine Below.drew ?_) | (with_reducible refine belowDrewN ?_ _) | (with_reducible refine Below.alloc ?_ ?_ _) | (with_reducible refine Below.setCell ?_ ?_ _) | (with_reducible refine belowStep (by assumption) ?_ ?_) | (with_reducible exact Below.size (by assumption)) | go_size)))) lxs Hr64.out).mono ?_; rintro e w1 ⟨rfl, hb1⟩; have hz1 := hb1.size; (try simp only [World.size_alloc] at hz1)
  rw [Hn.out, Hd.out, H.out]
  obtain ⟨hc1, hf1⟩ := bcellB hb1; have hz1 := hb1.size; (try simp only [World.size_alloc] at hc1 hf1 hz1); (try have hy1_r_0 : wr.heap.size < w1.heap.size := by omega); (try have hn1_r_0 : wr.heap.size ≠ w1.heap.size := by omega); (try have hm1_r_0 : w1.heap.size ≠ wr.heap.size := by omega); (try have hy1_r_1 : wr.heap.size + 1 < w1.heap.size := by omega); (try have hn1_r_1 : wr.heap.size + 1 ≠ w1.heap.size := by omega); (try have hm1_r_1 : w1.heap.size ≠ wr.heap.size + 1 := by omega); (try have hy1_r_2 : wr.heap.size + 1 + 1 < w1.heap.size := by omega); (try have hp1_r_1 : wr.heap.size < w1.heap.size + 1 := by omega); (try have hp1_r_2 : wr.heap.size < w1.heap.size + 1 + 1 := by omega); (try have hy1_0_0 : w.heap.size < w1.heap.size := by omega); (try have hn1_0_0 : w.heap.size ≠ w1.heap.size := by omega); (try have hm1_0_0 : w1.heap.size ≠ w.heap.size := by omega); (try have hy1_0_1 : w.heap.size + 1 < w1.heap.size := by omega); (try have hn1_0_1 : w.heap.size + 1 ≠ w1.heap.size := by omega); (try have hm1_0_1 : w1.heap.size ≠ w.heap.size + 1 := by omega); (try have hy1_0_2 : w.heap.size + 1 + 1 < w1.heap.size := by omega); (try have hp1_0_1 : w.heap.size < w1.heap.size + 1 := by omega); (try have hp1_0_2 : w.heap.size < w1.heap.size + 1 + 1 := by omega); (try have hg1_g1 : g1 < w1.heap.size := by omega); (try have hi1_g1 : g1 ≠ w1.heap.size := by omega); (try have hj1_g1 : w1.heap.size ≠ g1 := by omega); (try have hk1_g1 : g1 < w1.heap.size + 1 := by omega); (try have hg1_g2 : g2 < w1.heap.size := by omega); (try have hi1_g2 : g2 ≠ w1.heap.size := by omega); (try have hj1_g2 : w1.heap.size ≠ g2 := by omega); (try have hk1_g2 : g2 < w1.heap.size + 1 := by omega)
  go_wp2
  go_ret
  exact ⟨rfl, by (repeat' (first | (with_reducible exact Below.refl _ _) | (with_reducible assumption) | (with_reducible refine Below.drew ?_) | (with_reducible refine belowDrewN ?_ _) | (with_reducible refine Below.alloc ?_ ?_ _) | (with_reducible refine Below.setCell ?_ ?_ _) | (with_reducible refine belowStep (by assumption) ?_ ?_) | (with_reducible exact Below.size (by assumption)) | go_size))⟩
open Go.ChangeShapes Go.WideShapes Go.ChangeAt Go.Joins Go.Deep
section
variable {H : Type} {enc : TypeId × Value → H} {P : Program}
/-- A slice of bytes: nil, empty or not, one way. -/
theorem open_bytes_reads {W : World} {r : Reach} {b0 : Nat} {t ti : TypeId} {v : Value} {d : DataW H} {p : List MemPlace} (ht : P.underlying t = some (.slice ti)) (hti : P.underlying ti = some (.int .u8)) (hC : P.cellsOf ti = 1)
    (hv : Value.okWide P W r b0 t v) (h : DataW.Trod enc P W 0 (fun _ => true) true t v d p) (hlt : ∀ y ∈ p, y.block < W.heap.size) :
    ∃ (A : Option Addr) (c : Nat) (n : Nat), v = .slice A n c ∧ (ReadsB W A n ∧ n ≤ 9223372036854775807) := by
  obtain ⟨a0, len, cap, rfl⟩ := okWide_slice ht hv
  obtain ⟨fuel, hf⟩ := h
  rcases open_ints ht hti hC hf with ⟨hcs, _⟩ | ⟨a, len', cap', zs, hcs, _, hl, hm, hz, hx, hcell, hw⟩
  · simp [Value.cells] at hcs
    obtain ⟨rfl, rfl, rfl⟩ := hcs
    exact ⟨none, 0, 0, rfl, fun h0 => by omega, by omega⟩
  · simp [Value.cells] at hcs
    obtain ⟨rfl, rfl, rfl⟩ := hcs
    simp only [if_true] at hz
    unfold maxLen at hm
    refine ⟨some a, cap, len, rfl, fun h0 => ?_, by omega⟩
    obtain ⟨b, o, spot⟩ := a
    have hspot : spot = none := by simpa [Addr.add] using World.cell?_spot (hcell 0 (by omega))
    subst hspot
    refine ⟨b, o, rfl, ?_, fun i hi => ?_⟩
    · simp only [Prod.mk.injEq] at hx
      exact hlt (.cell b o) (by rw [hx.2]; exact MemPlace.mem_row.2 ⟨0, by omega, by simp⟩)
    · have hc := hcell i (by omega)
      have hb := range_u8 hw i
      refine ⟨zs.getD i 0, by simpa [Go.WideShapes.add_plain] using hc, ?_⟩
      simpa [List.getD] using hb
end
theorem beginP (w : World) (A : Option Addr) (n c : Nat) (T : TypeId) (hr : ReadsB w A n) (hn : n ≤ 1048576) : Cur w (w.alloc (.cells #[.slice A n c, .int .i64 0, .int .u64 0] T)) w.heap.size 0 :=
  ⟨Nat.le_refl _, by simp, (Below.refl _ _).alloc (Nat.le_refl _) _, A, n, c, 0, 0, (by simp), hn, hr, (by simp), by omega, by omega, (by simp), by simp [go_sem], by simp [go_sem]⟩
theorem oneP_any (w0 w : World) (g n : Nat) (hn : n ≤ 1000000) (m : Int) (hm : m ≤ 1000000000) (h : Cur w0 w g n) : Calls Tryz.prog 31 #[.pointer (some ⟨g, 0, none⟩), .int .i64 m] w (fun e w' => ∃ b : Bool, e = .returned (.bool b) ∧ Cur w0 w' g (n + 2) ∧ w.grownBy w' (some g)) := by
  have HC := Lib.hid h
  clear h
  go_enter Tryz.func31, Tryz.ntmps31
  go_wp2_with fail
  refine (pick_any w0 _ _ n hn _ hm HC.out).mono ?_; rintro e w1 ⟨x, rfl, x0, x1, hc1, hg1⟩
  have HC1 := Lib.hid hc1
  have Hg1 := Lib.hid hg1
  clear hc1 hg1
  go_wp2
  go_ret
  exact ⟨_, rfl, HC1.out, Hg1.out⟩
set_option maxHeartbeats 4000000 in
theorem proper_any (w0 w : World) (g n : Nat) (hn : n ≤ 10000) (h : Cur w0 w g n) : Calls Tryz.prog 34 #[.pointer (some ⟨g, 0, none⟩)] w (DrawF w0 w g (n + 30)) := by
  have HC := Lib.hid (h.below ((Below.refl _ _).alloc (Nat.le_refl _) (.cells #[.int .i64 0, .int .i64 0] 25)))
  obtain ⟨b1, b2, b3⟩ := h.base
  clear h
  have T0 := Lib.hid (TwoAt.new w 0 0 25)
  go_enter Tryz.func34, Tryz.ntmps34
  go_wp2_with fail
  refine (oneP_any w0 _ g n (by omega) _ (by omega) HC.out).mono ?_; rintro e w1 ⟨o, rfl, hc1, hg1⟩
  have HC1 := Lib.hid hc1
  have T1 := Lib.hid (T0.out.grown hg1 (by omega))
  have Hg1 := Lib.hid ((grownAlloc (World.grownBy.refl w (some g)) (Nat.le_refl _) _).trans hg1)
  have hz1 := hg1.size
  simp only [World.size_alloc] at hz1
  clear hc1 hg1
  cases o with
  | true =>
    go_wp2_with fail
    refine (fraction_any w0 _ g (n + 2) (by omega) HC1.out).mono ?_; rintro e w2 ⟨a, b, rfl, ha, hb, hc2, hg2⟩
    have HC2 := Lib.hid hc2
    have Hg2 := Lib.hid (Hg1.out.trans hg2)
    have hz2 := hg2.size
    obtain ⟨t1, t2, t3, t4, t5⟩ := T1.out.grown hg2 (by omega)
    clear hc2 hg2
    go_wp2
    refine bodyPost_ret (by simp [results, Tryz.results34, go_sem, *]; try rfl) rfl ?_
    exact ⟨a, b, rfl, ha, hb, ((HC2.out.more (by omega)).set (by omega) (by omega) _ _).set (by omega) (by omega) _ _, grownSetNew (grownSetNew Hg2.out (Nat.le_refl _) _ _) (Nat.le_refl _) _ _⟩
  | false =>
    go_wp2_with fail
    refine (pick_any w0 _ _ (n + 2) (by omega) _ (by omega) HC1.out).mono ?_; rintro e w2 ⟨p, rfl, p0, p1, hc2, hg2⟩
    have HC2 := Lib.hid hc2
    have T2 := Lib.hid (T1.out.grown hg2 (by omega))
    have Hg2 := Lib.hid (Hg1.out.trans hg2)
    have hz2 := hg2.size
    clear hc2 hg2
    go_wp2_with fail
    refine (pick_any w0 _ _ (n + 4) (by omega) _ (by omega) HC2.out).mono ?_; rintro e w3 ⟨q, rfl, q0, q1, hc3, hg3⟩
    have HC3 := Lib.hid hc3
    have T3 := Lib.hid (T2.out.grown hg3 (by omega))
    have Hg3 := Lib.hid (Hg2.out.trans hg3)
    have hz3 := hg3.size
    clear hc3 hg3
    go_wp2_with fail
    refine (unMake_any _ _ _ (by omega) (by omega) (by omega) (by omega)).mono ?_; rintro e w4 ⟨rfl, hb4⟩
    have hsm := red_small (x := 1 + q) (y := 2 + p) (by omega) (by omega) (by omega) (by omega)
    generalize (1 + q) / gcdI (1 + q) (2 + p) = a at *
    generalize (2 + p) / gcdI (1 + q) (2 + p) = b at *
    have Hsm := Lib.hid hsm
    have HC4 := Lib.hid (HC3.out.below hb4)
    have Hg4 := Lib.hid (grownBelow Hg3.out (by omega) hb4)
    obtain ⟨t1, t2, t3, t4, t5⟩ := T3.out.below hb4
    have hz4 := hb4.size
    clear hsm hb4
    go_wp2
    refine bodyPost_ret (by simp [results, Tryz.results34, go_sem, *]; try rfl) rfl ?_
    exact ⟨a, b, rfl, Hsm.out.1, Hsm.out.2, ((HC4.out.more (by omega)).set (by omega) (by omega) _ _).set (by omega) (by omega) _ _, grownSetNew (grownSetNew Hg4.out (Nat.le_refl _) _ _) (Nat.le_refl _) _ _⟩
theorem OwnI.atRow {w : World} {base g k : Nat} (hb : base ≤ g) (hk : k ≤ 1000) (h : w.heap[g]? = some (.cells (madeCells #[.int .i64 0] k) 3)) : OwnI w base (.slice (some ⟨g, 0, none⟩) k k) (List.replicate k 0) := by
  unfold OwnI
  rw [List.length_replicate]
  refine ⟨by simp, .inr ⟨g, k, _, rfl, hb, h, Nat.le_refl _, by unfold maxLen; omega, by simp [madeCells], ?_⟩⟩
  rw [toList_madeCells_one, Nat.mul_one, List.map_replicate]
  exact List.take_of_length_le (by simp)
/-- a list of the call's own has been drawn -/
def DrawnL (w : World) (e : Ending) (w' : World) : Prop := ∃ v zs, e = .returned v ∧ OwnI w' w.heap.size v zs ∧ zs.length ≤ 40 ∧ (∀ z ∈ zs, -9223372036854775808 ≤ z ∧ z ≤ 9223372036854775807) ∧ Below w.heap.size w w'
set_option maxRecDepth 100000 in
set_option maxHeartbeats 4000000 in
theorem drawPair_any (w : World) (A : Option Addr) (n c : Nat) (hr : ReadsB w A n) (hn : n ≤ 1048576) : Calls Tryz.prog 25 #[.slice A n c] w (fun e w' => ∃ a b : Int, e = .returned (.agg #[.int .i64 a, .int .i64 b]) ∧ (-9223372036854775808 ≤ a ∧ a ≤ 9223372036854775807) ∧ (-9223372036854775808 ≤ b ∧ b ≤ 9223372036854775807) ∧ Below w.heap.size w w') := by
  have T0 := Lib.hid (TwoAt.new w 0 0 25)
  have hc0 := beginP (w.alloc (.cells #[.int .i64 0, .int .i64 0] 25)) A n c 46 (hr.below ((Below.refl _ _).alloc (Nat.le_refl _) _)) hn
  rw [World.size_alloc] at hc0
  have HC0 := Lib.hid hc0
  clear hr hc0
  go_enter Tryz.func25, Tryz.ntmps25
  go_wp2_with fail
  refine (oneP_any (w.alloc (.cells #[.int .i64 0, .int .i64 0] 25)) _ (w.heap.size + 1) 0 (by omega) _ (by omega) HC0.out).mono ?_; rintro e w1 ⟨o, rfl, hc1, hg1⟩
  have HC1 := Lib.hid hc1
  have hz1 := hg1.size
  simp only [World.size_alloc] at hz1
  clear hc1 hg1
  cases o with
  | true =>
    go_wp2_with fail
    refine (pick_any (w.alloc (.cells #[.int .i64 0, .int .i64 0] 25)) _ (w.heap.size + 1) 2 (by omega) _ (by omega) HC1.out).mono ?_; rintro e w2 ⟨x, rfl, x0, x1, hc2, hg2⟩
    have HC2 := Lib.hid hc2
    have hz2 := hg2.size
    clear hc2 hg2
    go_wp2_with fail
    refine (pick_any (w.alloc (.cells #[.int .i64 0, .int .i64 0] 25)) _ (w.heap.size + 1) 4 (by omega) _ (by omega) HC2.out).mono ?_; rintro e w3 ⟨y, rfl, y0, y1, hc3, hg3⟩
    have HC3 := Lib.hid hc3
    have hz3 := hg3.size
    clear hc3 hg3
    go_wp2_with fail
    refine (unMake_any _ _ _ (by omega) (by omega) (by omega) (by omega)).mono ?_; rintro e w4 ⟨rfl, hb4⟩
    have hsm := red_small (x := 24 + x) (y := 24 + x + 1 + y) (by omega) (by omega) (by omega) (by omega)
    generalize (24 + x) / gcdI (24 + x) (24 + x + 1 + y) = a at *
    generalize (24 + x + 1 + y) / gcdI (24 + x) (24 + x + 1 + y) = b at *
    have Hsm := Lib.hid hsm
    have HC4 := Lib.hid (HC3.out.below hb4)
    have hbs := HC4.out.base.2.2
    have hz4 := hb4.size
    obtain ⟨t1, t2, t3, t4, t5⟩ := T0.out.below hbs
    have hbw : Below w.heap.size w w4 := by (repeat' (first | (with_reducible exact Below.refl _ _) | (with_reducible assumption) | (with_reducible refine Below.drew ?_) | (with_reducible refine belowDrewN ?_ _) | (with_reducible refine Below.alloc ?_ ?_ _) | (with_reducible refine Below.setCell ?_ ?_ _) | (with_reducible refine belowStep (by assumption) ?_ ?_) | (with_reducible exact Below.size (by assumption)) | go_size))
    clear hsm hb4 hbs
    go_wp2
    refine bodyPost_ret (by simp [results, Tryz.results25, go_sem, *]; try rfl) rfl ?_
    exact ⟨a, b, rfl, Hsm.out.1, Hsm.out.2, (hbw.setCell (Nat.le_refl _) _).setCell (Nat.le_refl _) _⟩
  | false =>
    go_wp2_with fail
    refine (proper_any (w.alloc (.cells #[.int .i64 0, .int .i64 0] 25)) _ (w.heap.size + 1) 2 (by omega) HC1.out).mono ?_; rintro e w2 ⟨a, b, rfl, ha, hb, hc2, hg2⟩
    have hbs := hc2.base.2.2
    have hz2 := hg2.size
    obtain ⟨t1, t2, t3, t4, t5⟩ := T0.out.below hbs
    have hbw : Below w.heap.size w w2 := by (repeat' (first | (with_reducible exact Below.refl _ _) | (with_reducible assumption) | (with_reducible refine Below.drew ?_) | (with_reducible refine belowDrewN ?_ _) | (with_reducible refine Below.alloc ?_ ?_ _) | (with_reducible refine Below.setCell ?_ ?_ _) | (with_reducible refine belowStep (by assumption) ?_ ?_) | (with_reducible exact Below.size (by assumption)) | go_size))
    clear hc2 hg2 hbs
    go_wp2
    refine bodyPost_ret (by simp [results, Tryz.results25, go_sem, *]; try rfl) rfl ?_
    exact ⟨a, b, rfl, ha, hb, (hbw.setCell (Nat.le_refl _) _).setCell (Nat.le_refl _) _⟩
set_option maxRecDepth 100000 in
set_option maxHeartbeats 4000000 in
theorem drawSplit_any (w : World) (A : Option Addr) (n c : Nat) (hr : ReadsB w A n) (hn : n ≤ 1048576) : Calls Tryz.prog 28 #[.slice A n c] w (fun e w' => ∃ a b : Int, e = .returned (.agg #[.int .i64 a, .int .i64 b]) ∧ (-9223372036854775808 ≤ a ∧ a ≤ 9223372036854775807) ∧ (-9223372036854775808 ≤ b ∧ b ≤ 9223372036854775807) ∧ Below w.heap.size w w') := by
  have T0 := Lib.hid (TwoAt.new w 0 0 25)
  have hc0 := beginP (w.alloc (.cells #[.int .i64 0, .int .i64 0] 25)) A n c 46 (hr.below ((Below.refl _ _).alloc (Nat.le_refl _) _)) hn
  rw [World.size_alloc] at hc0
  have HC0 := Lib.hid hc0
  clear hr hc0
  go_enter Tryz.func28, Tryz.ntmps28
  go_wp2_with fail
  refine (oneP_any (w.alloc (.cells #[.int .i64 0, .int .i64 0] 25)) _ (w.heap.size + 1) 0 (by omega) _ (by omega) HC0.out).mono ?_; rintro e w1 ⟨o, rfl, hc1, hg1⟩
  have HC1 := Lib.hid hc1
  have hz1 := hg1.size
  simp only [World.size_alloc] at hz1
  clear hc1 hg1
  cases o with
  | true =>
    go_wp2_with fail
    refine (pick_any (w.alloc (.cells #[.int .i64 0, .int .i64 0] 25)) _ (w.heap.size + 1) 2 (by omega) _ (by omega) HC1.out).mono ?_; rintro e w2 ⟨x, rfl, x0, x1, hc2, hg2⟩
    have HC2 := Lib.hid hc2
    have hz2 := hg2.size
    clear hc2 hg2
    go_wp2_with fail
    refine (pick_any (w.alloc (.cells #[.int .i64 0, .int .i64 0] 25)) _ (w.heap.size + 1) 4 (by omega) _ (by omega) HC2.out).mono ?_; rintro e w3 ⟨y, rfl, y0, y1, hc3, hg3⟩
    have HC3 := Lib.hid hc3
    have hz3 := hg3.size
    clear hc3 hg3
    go_wp2_with fail
    refine (unMake_any _ _ _ (by omega) (by omega) (by omega) (by omega)).mono ?_; rintro e w4 ⟨rfl, hb4⟩
    have hsm := red_small (x := 2 + x) (y := 5 + y) (by omega) (by omega) (by omega) (by omega)
    generalize (2 + x) / gcdI (2 + x) (5 + y) = a at *
    generalize (5 + y) / gcdI (2 + x) (5 + y) = b at *
    have Hsm := Lib.hid hsm
    have HC4 := Lib.hid (HC3.out.below hb4)
    have hbs := HC4.out.base.2.2
    have hz4 := hb4.size
    obtain ⟨t1, t2, t3, t4, t5⟩ := T0.out.below hbs
    have hbw : Below w.heap.size w w4 := by (repeat' (first | (with_reducible exact Below.refl _ _) | (with_reducible assumption) | (with_reducible refine Below.drew ?_) | (with_reducible refine belowDrewN ?_ _) | (with_reducible refine Below.alloc ?_ ?_ _) | (with_reducible refine Below.setCell ?_ ?_ _) | (with_reducible refine belowStep (by assumption) ?_ ?_) | (with_reducible exact Below.size (by assumption)) | go_size))
    clear hsm hb4 hbs
    go_wp2
    refine bodyPost_ret (by simp [results, Tryz.results28, go_sem, *]; try rfl) rfl ?_
    exact ⟨a, b, rfl, Hsm.out.1, Hsm.out.2, (hbw.setCell (Nat.le_refl _) _).setCell (Nat.le_refl _) _⟩
  | false =>
    go_wp2_with fail
    refine (proper_any (w.alloc (.cells #[.int .i64 0, .int .i64 0] 25)) _ (w.heap.size + 1) 2 (by omega) HC1.out).mono ?_; rintro e w2 ⟨a, b, rfl, ha, hb, hc2, hg2⟩
    have hbs := hc2.base.2.2
    have hz2 := hg2.size
    obtain ⟨t1, t2, t3, t4, t5⟩ := T0.out.below hbs
    have hbw : Below w.heap.size w w2 := by (repeat' (first | (with_reducible exact Below.refl _ _) | (with_reducible assumption) | (with_reducible refine Below.drew ?_) | (with_reducible refine belowDrewN ?_ _) | (with_reducible refine Below.alloc ?_ ?_ _) | (with_reducible refine Below.setCell ?_ ?_ _) | (with_reducible refine belowStep (by assumption) ?_ ?_) | (with_reducible exact Below.size (by assumption)) | go_size))
    clear hc2 hg2 hbs
    go_wp2
    refine bodyPost_ret (by simp [results, Tryz.results28, go_sem, *]; try rfl) rfl ?_
    exact ⟨a, b, rfl, ha, hb, (hbw.setCell (Nat.le_refl _) _).setCell (Nat.le_refl _) _⟩
theorem sumQ_permT {xs ys : List Int} (h : xs.Perm ys) : sumQ xs = sumQ ys := by
  induction h with
  | nil => rfl
  | cons x _ ih => simp only [sumQ, ih]
  | swap x y l => simp only [sumQ]; grind
  | trans _ _ ih1 ih2 => exact ih1.trans ih2
/-- what comes has the sum of what goes -/
def KeepQ (g : Int → Nat × List Int) : Prop := ∀ d, 1 ≤ d → ((g d).1 : Rat) * (1 / (d : Rat)) = sumQ (g d).2
theorem repS_q : KeepQ repS := fun d hd => by
  have h1 := ne0 hd
  have h2 := ne0 (show 1 ≤ d + 1 by omega)
  simp only [repS, sumQ, Rat.intCast_mul, Rat.intCast_add] at h2 ⊢
  grind
theorem repP_q : KeepQ repP := fun d hd => by
  by_cases he : d % 2 = 0
  · obtain ⟨k, rfl⟩ : ∃ k, d = 2 * k := ⟨d / 2, by omega⟩
    have e : repP (2 * k) = (2, [k]) := by unfold repP; rw [if_pos he]; congr 2; omega
    have h1 := ne0 (show 1 ≤ k by omega)
    rw [e]
    simp only [sumQ, Rat.intCast_mul]
    grind
  · obtain ⟨k, rfl⟩ : ∃ k, d = 2 * k + 1 := ⟨d / 2, by omega⟩
    have hp : (2 * k + 1) * (2 * k + 1 + 1) / 2 = (2 * k + 1) * (k + 1) := by
      rw [show (2 * k + 1) * (2 * k + 1 + 1) = 2 * ((2 * k + 1) * (k + 1)) by grind]
      exact Int.mul_ediv_cancel_left _ (by decide)
    have e : repP (2 * k + 1) = (2, [k + 1, (2 * k + 1) * (k + 1)]) := by unfold repP; rw [if_neg he, hp, show (2 * k + 1 + 1) / 2 = k + 1 by omega]
    have h1 := ne0 (show 1 ≤ k + 1 by omega)
    have h2 := ne0 (show 1 ≤ 2 * k + 1 by omega)
    rw [e]
    simp only [sumQ, Rat.intCast_mul, Rat.intCast_add] at h1 h2 ⊢
    grind
theorem round_sum {g : Int → Nat × List Int} (hg : GoodG g) (hq : KeepQ g) {xs : List Int} {i : Nat} (hx : ∀ x ∈ xs, 1 ≤ x) (ht : tw xs = some i) : sumQ (roundL g xs i) = sumQ xs := by
  obtain ⟨d, hd, hd2⟩ := tw_at ht
  have h1 := hx d (List.mem_of_getElem? hd)
  have hk := hq d h1
  have a1 := hg.one d
  have a2 := hg.two d
  have e0 : sumQ xs = sumQ (xs.take i) + sumQ (xs.drop i) := by rw [← sumQ_append, List.take_append_drop]
  rw [round_at hd, sumQ_permT (srt_perm _), sumQ_append, sumQ_append, e0, ← hk]
  generalize hm : (g d).1 = m at *
  rcases (by omega : m = 1 ∨ m = 2) with rfl | rfl
  · rw [drop_at hd]
    simp only [sumQ]
    grind
  · rw [drop_at hd, drop_at hd2]
    simp only [sumQ]
    grind
theorem round_len {g : Int → Nat × List Int} (hg : GoodG g) {xs : List Int} {i : Nat} {d : Int} (hd : xs[i]? = some d) (hi : i + 1 < xs.length) : (roundL g xs i).length + (g d).1 = xs.length + (g d).2.length := by
  have a1 := hg.one d
  have a2 := hg.two d
  rw [round_at hd, srt_len, List.length_append, List.length_append, List.length_take, List.length_drop]
  omega
theorem rounds_sum {g : Int → Nat × List Int} (hg : GoodG g) (hq : KeepQ g) : ∀ {k : Nat} {xs ys : List Int}, (∀ x ∈ xs, 1 ≤ x ∧ x ≤ 1000000000) → rounds g k xs = some ys → sumQ ys = sumQ xs ∧ ((∀ d, (g d).2.length ≤ (g d).1) → ys.length ≤ xs.length) ∧ ((∀ d, (g d).1 ≤ (g d).2.length) → xs.length ≤ ys.length)
  | k, xs, ys, hx, hr => by
    cases ht : tw xs with
    | none =>
      rw [rounds_done ht] at hr
      injection hr with hr
      subst hr
      exact ⟨rfl, fun _ => Nat.le_refl _, fun _ => Nat.le_refl _⟩
    | some i =>
      obtain ⟨d, hd, hd2⟩ := tw_at ht
      have hi : i + 1 < xs.length := (List.getElem?_eq_some_iff.1 hd2).1
      cases k with
      | zero => rw [rounds_out ht] at hr; cases hr
      | succ k =>
        cases hs : small (roundL g xs i) with
        | false => rw [rounds_big ht hs] at hr; cases hr
        | true =>
          rw [rounds_on ht hs] at hr
          have hl := round_len hg hd hi
          obtain ⟨b1, b2, b3⟩ := rounds_sum hg hq (k := k) (round_in hg.lo (fun x h => (hx x h).1) ht hs) hr
          exact ⟨b1.trans (round_sum hg hq (fun x h => (hx x h).1) ht), fun h => by have := b2 h; have := h d; omega, fun h => by have := b3 h; have := h d; omega⟩
theorem repL_sum {n d : Int} (hn : 0 ≤ n) (hd : 1 ≤ d) : sumQ (repL n d) = rq n d := by
  obtain ⟨k, rfl⟩ := Int.eq_ofNat_of_zero_le hn
  have h1 := ne0 hd
  unfold repL rq
  rw [Int.toNat_natCast]
  induction k with
  | zero => simp [sumQ]; grind
  | succ k ih =>
    rw [List.replicate_succ]
    simp only [sumQ]
    rw [ih (by omega)]
    simp only [Int.natCast_add, Rat.intCast_add]
    grind
/-- of each expansion by rounds -/
structure TwB (n d : Int) (xs : List Int) : Prop where
  pro : proB n d = true
  exp : expB xs = true
  sum : eN xs = n ∧ eD xs = d
  l24 : xs.length ≤ 24
  x64 : In64 xs
theorem twE_back {g : Int → Nat × List Int} (hg : GoodG g) (hq : KeepQ g) {n d : Int} {xs : List Int} (h : twE g n d = some xs) : TwB n d xs ∧ ((∀ d, (g d).2.length ≤ (g d).1) → (xs.length : Int) ≤ n) ∧ ((∀ d, (g d).1 ≤ (g d).2.length) → n ≤ (xs.length : Int)) := by
  cases hp : proB n d with
  | false => rw [twE_not hp] at h; cases h
  | true =>
    by_cases hn : n ≤ 24
    · obtain ⟨n1, n2, d1, d2, hnd, hgd, _, _⟩ := proB_bounds hp
      rw [twE_on hp hn] at h
      cases hr : rounds g 300 (repL n d) with
      | none => rw [hr] at h; cases h
      | some ys =>
        rw [hr] at h
        have hl : (repL n d).length = n.toNat := by unfold repL; rw [List.length_replicate]
        obtain ⟨b1, b2, b3⟩ := rounds_sum hg hq (fun x hx => by have := List.eq_of_mem_replicate hx; omega) hr
        cases hx : expB (srt ys) with
        | false => rw [exO_no hx] at h; cases h
        | true =>
          rw [exO_yes hx] at h
          injection h with h
          subst h
          have hs := sum_q hx
          rw [sumQ_permT (srt_perm _), b1, repL_sum (by omega) (by omega)] at hs
          obtain ⟨a, b⟩ := good_same (good_sum hx) hgd hs
          refine ⟨⟨hp, hx, ⟨by rw [eN, if_pos hx, a], by rw [eD, if_pos hx, b]⟩, expB_len hx, In64.of_mem fun x h => by have := expB_small hx x h; omega⟩, fun h => ?_, fun h => ?_⟩
          · have := b2 h; rw [srt_len]; omega
          · have := b3 h; rw [srt_len]; omega
    · rw [twE_many hn] at h; cases h
theorem repP_few : ∀ d, (repP d).2.length ≤ (repP d).1 := fun d => by unfold repP; split <;> simp
theorem repS_more : ∀ d, (repS d).1 ≤ (repS d).2.length := fun d => by unfold repS; simp
end Go.Proofs.YtbjblkfibinenadGreat


/-
  Contracts of functions that tell whether two lists are the same.
-/
namespace Go.Proofs.YtbjblkfibinenadGreat
open Go.RowKit
set_option maxHeartbeats 2000000 in
theorem pSame_any (w : World) (A B : Option Addr) (c d : Nat) (xs ys : List Int) (ha : Reads w A xs) (hb : Reads w B ys) (hl : xs.length ≤ 1048576) (_ : ys.length ≤ 1048576) :
    Calls Tryz.prog 12 #[.slice A xs.length c, .slice B ys.length d] w (RetQ (.bool (decide (xs = ys))) w) := by
  have HA := Lib.hid ha
  have HB := Lib.hid hb
  clear ha hb
  by_cases hlen : xs.length = ys.length
  · have h1 : xs.length ≤ ys.length := by omega
    have h2 : ys.length ≤ xs.length := by omega
    have Hlen := Lib.hid hlen
    have hne : (((xs.length : Nat) : Int) != ((ys.length : Nat) : Int)) = false := by simp; omega
    clear hlen
    go_enter Tryz.func12, Tryz.ntmps12
    go_wp2
    go_loopw [13] (fun v13 wr => ∃ k : Nat, k ≤ xs.length ∧ v13 = .int .i64 k ∧ xs.take k = ys.take k ∧ ∃ n, wr = w.drewN n) (fun v13 _ => xs.length - (intOf v13).toNat)
    case atStart => exact ⟨0, Nat.zero_le _, rfl, by simp, 0, rfl⟩
    case round =>
      obtain ⟨k, hk, rfl, ht, n, rfl⟩ := hrel
      have HT := Lib.hid ht
      clear ht
      by_cases hlt : k < xs.length
      · obtain ⟨b, o, x, rfl, _, hx, hcell⟩ := HA.out.at_ hlt
        obtain ⟨b', o', y, rfl, _, hy, hcell'⟩ := HB.out.at_ (show k < ys.length by omega)
        have hki : (k : Int) < (xs.length : Int) := by omega
        have hki2 : (k : Int) < (ys.length : Int) := by omega
        by_cases hxy : x = y
        · subst hxy
          have HT2 : Hid (xs.take (k + 1) = ys.take (k + 1)) := Lib.hid (by
            rw [List.take_add_one, List.take_add_one, HT.out, hx, hy])
          clear hx hy
          go_wp2
          go_quiet (fail)
          go_wp2
          go_roundw
          case rel => exact ⟨k + 1, by omega, by go_num, HT2.out, _, rfl⟩
          case measure => simp [intOf]; omega
        · have E : Hid (decide (xs = ys) = false) := Lib.hid (by
            refine decide_eq_false fun e => hxy ?_
            rw [e, hy] at hx
            injection hx with hx
            exact hx.symm)
          have hnb : (x != y) = true := by simp [hxy]
          clear hx hy hxy
          go_wp2
          go_quiet (fail)
          go_wp2
          go_ret
          exact ⟨ret_bool E.out.symm, _, World.drewN_drewN _ _ _⟩
      · obtain rfl : k = xs.length := by omega
        have E : Hid (decide (xs = ys) = true) := Lib.hid (by
          refine decide_eq_true ?_
          have := HT.out
          rw [List.take_length, Hlen.out, List.take_length] at this
          exact this)
        go_wp2
        go_ret
        exact ⟨ret_bool E.out.symm, n, rfl⟩
  · have E : Hid (decide (xs = ys) = false) := Lib.hid (decide_eq_false fun e => hlen (by rw [e]))
    have hne : (((xs.length : Nat) : Int) != ((ys.length : Nat) : Int)) = true := by simp; omega
    clear hlen
    go_enter Tryz.func12, Tryz.ntmps12
    go_wp2
    go_ret
    exact ⟨ret_bool E.out.symm, 0, rfl⟩
end Go.Proofs.YtbjblkfibinenadGreat


/-
  For all bytes: two fractions are drawn; the expansions by pairs and by splits are the model's and have the fractions as their sums; pairs never make more numbers, and splits never fewer. No condition.
-/
namespace Go.Proofs.YtbjblkfibinenadGreat
open Go.ChangeShapes Go.WideShapes Go.ChangeAt Go.RowKit Go.Joins Go.Deep
set_option maxRecDepth 100000 in
set_option maxHeartbeats 32000000 in
theorem FnPairsAndSplits_walk (w : World) (A : Option Addr) (c n : Nat) (B : Option Addr) (d m' : Nat) (hA : ReadsB w A n ∧ n ≤ 9223372036854775807) (hB : ReadsB w B m' ∧ m' ≤ 9223372036854775807) :
    Calls Tryz.prog 5 #[.slice A n c, .slice B m' d] w (Ret (.bool true) w) := by
  obtain ⟨hA, hn⟩ := hA
  obtain ⟨hB, hm'⟩ := hB
  have HA := Lib.hid hA
  have HB := Lib.hid hB
  clear hA hB
  cases hbig : bigB n m' with
  | true =>
    go_enter Tryz.func5, Tryz.ntmps5
    go_wp2_with fail
    refine (big_any _ _ _ _ _ _ _ hn hm').mono ?_; rintro e w1 ⟨rfl, k1, rfl⟩
    go_wp2
    go_ret
    exact ⟨rfl, by (repeat' (first | (with_reducible exact Below.refl _ _) | (with_reducible assumption) | (with_reducible refine Below.drew ?_) | (with_reducible refine belowDrewN ?_ _) | (with_reducible refine Below.alloc ?_ ?_ _) | (with_reducible refine Below.setCell ?_ ?_ _) | (with_reducible refine belowStep (by assumption) ?_ ?_) | (with_reducible exact Below.size (by assumption)) | go_size))⟩
  | false =>
    have hn2 : n ≤ 1048576 ∧ m' ≤ 1048576 := by
      simp only [bigB, Bool.or_eq_false_iff, decide_eq_false_iff_not] at hbig
      omega
    go_enter Tryz.func5, Tryz.ntmps5
    go_wp2_with fail
    refine (big_any _ _ _ _ _ _ _ hn hm').mono ?_; rintro e w1 ⟨rfl, k1, rfl⟩
    go_wp2_with fail
    refine (drawPair_any _ A n c (HA.out.below (by (repeat' (first | (with_reducible exact Below.refl _ _) | (with_reducible assumption) | (with_reducible refine Below.drew ?_) | (with_reducible refine belowDrewN ?_ _) | (with_reducible refine Below.alloc ?_ ?_ _) | (with_reducible refine Below.setCell ?_ ?_ _) | (with_reducible refine belowStep (by assumption) ?_ ?_) | (with_reducible exact Below.size (by assumption)) | go_size)))) hn2.1).mono ?_; rintro e w2 ⟨a, b, rfl, ha, hb, hb2⟩
    have hz2 := hb2.size
    (try simp only [World.heap_drewN] at hz2)
    clear hbig
    have TG := Lib.hid (TwoAt.new w2 (a) (b) 25)
    obtain ⟨oG1, oG2, oG3, oG4, oG5⟩ := TG.out
    go_wp2_with fail
    refine (pairExp_any a b _ ha hb).mono ?_; rintro e w3 ⟨v3, rfl, ho3, hb3⟩; have hz3 := hb3.size; (try simp only [World.size_alloc] at hz3)
    clear oG1 oG2 oG3 oG4 oG5
    have TG := Lib.hid (TG.out.below hb3)
    obtain ⟨A3, c3, rfl, hr3⟩ := ho3.form
    have HR3 := Lib.hid hr3
    clear ho3 hr3
    obtain ⟨oG1, oG2, oG3, oG4, oG5⟩ := TG.out
    go_wp2_with fail
    refine (spec_pair_any a b _).mono ?_; rintro e w4 ⟨A4, c4, rfl, hr4, hb4⟩; have hz4 := hb4.size; (try simp only [World.size_alloc, World.size_setCell, World.size_drew, World.heap_drewN] at hz4)
    clear oG1 oG2 oG3 oG4 oG5
    have TG := Lib.hid (TG.out.below hb4)
    have HR4 := Lib.hid hr4
    have HR3 := Lib.hid (HR3.out.below hb4)
    have hxl := twE_len repP a b
    have HP := Lib.hid fun (xs : List Int) (h : twE repP a b = some xs) => (let ⟨b1, b2, _⟩ := twE_back repP_good repP_q h; (⟨b1, b2 repP_few⟩ : TwB a b xs ∧ (xs.length : Int) ≤ a))
    have HPn : Hid (twE repP a b = none ∨ ∃ xs, twE repP a b = some xs) := Lib.hid (by cases twE repP a b with | none => exact .inl rfl | some xs => exact .inr ⟨xs, rfl⟩)
    clear hr4
    generalize hpo : twE repP a b = po at *
    clear hpo
    obtain ⟨oG1, oG2, oG3, oG4, oG5⟩ := TG.out
    go_wp2_with fail
    refine ((pSame_same _ _ _ _ _ _ HR3.out HR4.out (by omega)).mono fun _ _ h => h.ret).mono ?_; rintro e w5 ⟨rfl, hb5⟩
    have hz5 := hb5.size
    clear oG1 oG2 oG3 oG4 oG5
    have TG := Lib.hid (TG.out.below hb5)
    have HR5 := Lib.hid (HR3.out.below hb5)
    have hbw5 : Below w.heap.size w w5 := by (repeat' (first | (with_reducible exact Below.refl _ _) | (with_reducible assumption) | (with_reducible refine Below.drew ?_) | (with_reducible refine belowDrewN ?_ _) | (with_reducible refine Below.alloc ?_ ?_ _) | (with_reducible refine Below.setCell ?_ ?_ _) | (with_reducible refine belowStep (by assumption) ?_ ?_) | (with_reducible exact Below.size (by assumption)) | go_size))
    clear HR3 HR4
    obtain ⟨oG1, oG2, oG3, oG4, oG5⟩ := TG.out
    go_wp2_with fail
    refine (drawSplit_any _ B m' d (HB.out.below (by (repeat' (first | (with_reducible exact Below.refl _ _) | (with_reducible assumption) | (with_reducible refine Below.drew ?_) | (with_reducible refine belowDrewN ?_ _) | (with_reducible refine Below.alloc ?_ ?_ _) | (with_reducible refine Below.setCell ?_ ?_ _) | (with_reducible refine belowStep (by assumption) ?_ ?_) | (with_reducible exact Below.size (by assumption)) | go_size)))) hn2.2).mono ?_; rintro e w6 ⟨p, q, rfl, hp, hq, hb6⟩
    have hz6 := hb6.size
    clear oG1 oG2 oG3 oG4 oG5
    have TG := Lib.hid (TG.out.below hb6)
    have TH := Lib.hid (TwoAt.new w6 (p) (q) 25)
    have TG := Lib.hid (TG.out.below ((Below.refl _ _).alloc (Nat.le_refl _) (.cells #[.int .i64 (p), .int .i64 (q)] 25)))
    have HR6 := Lib.hid (HR5.out.below (show Below w5.heap.size w5 (w6.alloc (.cells #[.int .i64 (p), .int .i64 (q)] 25)) by (repeat' (first | (with_reducible exact Below.refl _ _) | (with_reducible assumption) | (with_reducible refine Below.drew ?_) | (with_reducible refine belowDrewN ?_ _) | (with_reducible refine Below.alloc ?_ ?_ _) | (with_reducible refine Below.setCell ?_ ?_ _) | (with_reducible refine belowStep (by assumption) ?_ ?_) | (with_reducible exact Below.size (by assumption)) | go_size))))
    clear HR5
    obtain ⟨oH1, oH2, oH3, oH4, oH5⟩ := TH.out
    go_wp2_with fail
    refine (splitExp_any p q _ hp hq).mono ?_; rintro e w7 ⟨v7, rfl, ho7, hb7⟩; have hz7 := hb7.size; (try simp only [World.size_alloc] at hz7)
    clear oH1 oH2 oH3 oH4 oH5
    have TH := Lib.hid (TH.out.below hb7)
    have TG := Lib.hid (TG.out.below hb7)
    obtain ⟨A7, c7, rfl, hr7⟩ := ho7.form
    have HS7 := Lib.hid hr7
    have HR7 := Lib.hid (HR6.out.below hb7)
    clear ho7 hr7 HR6
    obtain ⟨oH1, oH2, oH3, oH4, oH5⟩ := TH.out
    go_wp2_with fail
    refine (spec_split_any p q _).mono ?_; rintro e w8 ⟨A8, c8, rfl, hr8, hb8⟩; have hz8 := hb8.size; (try simp only [World.size_alloc, World.size_setCell, World.size_drew, World.heap_drewN] at hz8)
    clear oH1 oH2 oH3 oH4 oH5
    have TH := Lib.hid (TH.out.below hb8)
    have TG := Lib.hid (TG.out.below hb8)
    have HS8 := Lib.hid hr8
    have HS7 := Lib.hid (HS7.out.below hb8)
    have HR8 := Lib.hid (HR7.out.below hb8)
    have hyl := twE_len repS p q
    have HQ := Lib.hid fun (xs : List Int) (h : twE repS p q = some xs) => (let ⟨b1, _, b3⟩ := twE_back repS_good repS_q h; (⟨b1, b3 repS_more⟩ : TwB p q xs ∧ p ≤ (xs.length : Int)))
    clear hr8 HR7
    generalize hso : twE repS p q = so at *
    clear hso
    obtain ⟨oH1, oH2, oH3, oH4, oH5⟩ := TH.out
    go_wp2_with fail
    refine ((pSame_same _ _ _ _ _ _ HS7.out HS8.out (by omega)).mono fun _ _ h => h.ret).mono ?_; rintro e w9 ⟨rfl, hb9⟩
    have hz9 := hb9.size
    clear oH1 oH2 oH3 oH4 oH5
    have TH := Lib.hid (TH.out.below hb9)
    have TG := Lib.hid (TG.out.below hb9)
    have HS9 := Lib.hid (HS7.out.below hb9)
    have HR9 := Lib.hid (HR8.out.below hb9)
    have hbw9 : Below w.heap.size w w9 := by (repeat' (first | (with_reducible exact Below.refl _ _) | (with_reducible assumption) | (with_reducible refine Below.drew ?_) | (with_reducible refine belowDrewN ?_ _) | (with_reducible refine Below.alloc ?_ ?_ _) | (with_reducible refine Below.setCell ?_ ?_ _) | (with_reducible refine belowStep (by assumption) ?_ ?_) | (with_reducible exact Below.size (by assumption)) | go_size))
    clear HS7 HS8 HR8
    cases so with
    | none =>
      rcases HPn.out with rfl | ⟨xs, rfl⟩
      · go_wp2
        go_ret
        exact ⟨rfl, hbw9⟩
      · obtain ⟨TP, hpa⟩ := HP.out xs rfl
        have HPX := Lib.hid fun (w : World) (h : Reads w A3 xs) => pSums_yes w a b A3 c3 xs h (by have := TP.l24; omega) TP.x64 TP.exp TP.sum.1 TP.sum.2
        have hda : decide ((xs.length : Int) ≤ a) = true := decide_eq_true hpa
        have HRx : Hid (Reads w9 A3 xs) := HR9
        clear HP TP
        obtain ⟨oG1, oG2, oG3, oG4, oG5⟩ := TG.out
        go_wp2_with fail
        refine (HPX.out _ HRx.out).mono ?_; rintro e w11 ⟨rfl, hb11⟩; have hz11 := hb11.size; (try simp only [World.size_alloc, World.size_setCell, World.size_drew, World.heap_drewN] at hz11)
        clear oG1 oG2 oG3 oG4 oG5
        have TG := Lib.hid (TG.out.below hb11)
        obtain ⟨oG1, oG2, oG3, oG4, oG5⟩ := TG.out
        go_wp2
        go_ret
        exact ⟨rfl, by (repeat' (first | (with_reducible exact Below.refl _ _) | (with_reducible assumption) | (with_reducible refine Below.drew ?_) | (with_reducible refine belowDrewN ?_ _) | (with_reducible refine Below.alloc ?_ ?_ _) | (with_reducible refine Below.setCell ?_ ?_ _) | (with_reducible refine belowStep (by assumption) ?_ ?_) | (with_reducible exact Below.size (by assumption)) | go_size))⟩
    | some ys =>
      obtain ⟨TB, hpl⟩ := HQ.out ys rfl
      have HPS := Lib.hid fun (w : World) (h : Reads w A7 ys) => pSums_yes w p q A7 c7 ys h (by have := TB.l24; omega) TB.x64 TB.exp TB.sum.1 TB.sum.2
      have hdl : decide ((ys.length : Int) < p) = false := decide_eq_false (by omega)
      have HS9' : Hid (Reads w9 A7 ys) := HS9
      clear HQ TB HS9
      obtain ⟨oH1, oH2, oH3, oH4, oH5⟩ := TH.out
      go_wp2_with fail
      refine (HPS.out _ HS9'.out).mono ?_; rintro e w10 ⟨rfl, hb10⟩; have hz10 := hb10.size; (try simp only [World.size_alloc, World.size_setCell, World.size_drew, World.heap_drewN] at hz10)
      clear oH1 oH2 oH3 oH4 oH5
      have TH := Lib.hid (TH.out.below hb10)
      have TG := Lib.hid (TG.out.below hb10)
      have HR10 := Lib.hid (HR9.out.below hb10)
      have hbw10 : Below w.heap.size w w10 := by (repeat' (first | (with_reducible exact Below.refl _ _) | (with_reducible assumption) | (with_reducible refine Below.drew ?_) | (with_reducible refine belowDrewN ?_ _) | (with_reducible refine Below.alloc ?_ ?_ _) | (with_reducible refine Below.setCell ?_ ?_ _) | (with_reducible refine belowStep (by assumption) ?_ ?_) | (with_reducible exact Below.size (by assumption)) | go_size))
      obtain ⟨oH1, oH2, oH3, oH4, oH5⟩ := TH.out
      rcases HPn.out with rfl | ⟨xs, rfl⟩
      · go_wp2
        go_ret
        exact ⟨rfl, hbw10⟩
      · obtain ⟨TP, hpa⟩ := HP.out xs rfl
        have HPX := Lib.hid fun (w : World) (h : Reads w A3 xs) => pSums_yes w a b A3 c3 xs h (by have := TP.l24; omega) TP.x64 TP.exp TP.sum.1 TP.sum.2
        have hda : decide ((xs.length : Int) ≤ a) = true := decide_eq_true hpa
        have HRx : Hid (Reads w10 A3 xs) := HR10
        clear HP TP
        obtain ⟨oG1, oG2, oG3, oG4, oG5⟩ := TG.out
        go_wp2_with fail
        refine (HPX.out _ HRx.out).mono ?_; rintro e w11 ⟨rfl, hb11⟩; have hz11 := hb11.size; (try simp only [World.size_alloc, World.size_setCell, World.size_drew, World.heap_drewN] at hz11)
        clear oG1 oG2 oG3 oG4 oG5
        have TG := Lib.hid (TG.out.below hb11)
        obtain ⟨oG1, oG2, oG3, oG4, oG5⟩ := TG.out
        go_wp2
        go_ret
        exact ⟨rfl, by (repeat' (first | (with_reducible exact Below.refl _ _) | (with_reducible assumption) | (with_reducible refine Below.drew ?_) | (with_reducible refine belowDrewN ?_ _) | (with_reducible refine Below.alloc ?_ ?_ _) | (with_reducible refine Below.setCell ?_ ?_ _) | (with_reducible refine belowStep (by assumption) ?_ ?_) | (with_reducible exact Below.size (by assumption)) | go_size))⟩

set_option maxRecDepth 100000 in
theorem FnPairsAndSplits_lifted (os : Os) (started : os.Started) (H : Type) (enc : TypeId × Value → H) :
    ReturnsInHanded {} Tryz.checked os 5 .any (Rows.fnPairsAndSplitsSpec.pre6 enc Tryz.prog Tryz.f5 Rows.fnPairsAndSplitsRow.domain false) (Rows.fnPairsAndSplitsSpec.post enc Tryz.prog Tryz.f5 false true false false) := by
  refine returnsInHanded_of_change (C := Tryz.checked) own started (by kernel_rfl) Tryz.func5
    (ChangeSpec.witness6 (enc := enc) (C := Tryz.checked) false ⟨#[], #[.slice none 0 0, .slice none 0 0], []⟩ 8 (by kernel_rfl) (by kernel_rfl) (by kernel_rfl) (by kernel_rfl)) ?_
  intro W base args ds gs before hval0 hW hcnd _
  have hval : ∀ (j : Nat) t v, Tryz.f5.params[j]? = some t → args[j]? = some v → Value.okWide Tryz.prog W .any base t v := hval0
  have hW' := hW
  have hlt : ∀ p ∈ before, p.block < W.heap.size := fun p hp => hW'.lt p hp
  obtain ⟨p, q, hA0, hV, rfl, hfz, hnd⟩ := hW
  have hA : DataW.TrodAll enc Tryz.prog W 0 (fun _ => true) true Tryz.f5.params.toList args.toList ds p := hA0
  rw [Tryz.params5] at hA hval
  obtain ⟨v0, vs0, d0, ds0, p0, q0, hargs, rfl, rfl, h0, r0⟩ := trodAll_cons hA
  obtain ⟨v1, vs1, d1, ds1, p1, q1, rfl, rfl, rfl, h1, r1⟩ := trodAll_cons r0
  obtain ⟨rfl, rfl, rfl⟩ := trodAll_nil r1
  obtain rfl : args = #[v0, v1] := by cases args; simp_all
  obtain ⟨rfl, rfl⟩ := trodVars_none hV
  obtain ⟨Aa, ca, na, rfl, ha⟩ := open_bytes_reads Tryz.underlying22 Tryz.underlying5 (by kernel_rfl) (hval 0 22 v0 rfl rfl) h0 (fun y hy => hlt y (by simp [hy]))
  obtain ⟨Ab, cb, nb, rfl, hb⟩ := open_bytes_reads Tryz.underlying22 Tryz.underlying5 (by kernel_rfl) (hval 1 22 v1 rfl rfl) h1 (fun y hy => hlt y (by simp [hy]))
  refine (FnPairsAndSplits_walk W Aa ca na Ab cb nb ha hb).mono fun e W' ⟨he, hg⟩ => ?_
  subst he
  exact ⟨_, rfl, law_post laidOut (by rw [Tryz.params5]; intro t ht; simp only [List.mem_cons, List.not_mem_nil, or_false] at ht; rcases ht with rfl | rfl <;> exact ⟨by kernel_rfl, of_decide_eq_true (by kernel_rfl)⟩) (by kernel_rfl) Tryz.underlying4 rfl hW' rfl hg⟩

theorem FnPairsAndSplits_closed : joinedFacts Tryz.prog 5 Tryz.f5 Rows.fnPairsAndSplitsSpec Rows.fnPairsAndSplitsRow = true := by
  unfold joinedFacts
  rw [mayEnter_eq, lifts_eq, make_eq]
  kernel_rfl

theorem FnPairsAndSplits_holds : Rows.FnPairsAndSplitsSaid :=
  OpenClaim.holds_of_wide 5 Tryz.f5 rfl rfl rfl rfl rfl rfl rfl ⟨rfl, rfl, rfl, rfl, rfl⟩ rfl rfl rfl rfl rfl (by kernel_rfl) Tryz.func5 FnPairsAndSplits_closed
    (of_decide_eq_true (by kernel_rfl)) (by unfold Func.isWrapper; first | (rw [if_pos (by decide +kernel)]; kernel_rfl) | (rw [if_neg (by decide +kernel)]; exact ⟨rfl, rfl⟩))
    (fun os started H enc _ => FnPairsAndSplits_lifted os started H enc)

end Go.Proofs.YtbjblkfibinenadGreat
