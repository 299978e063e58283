import Derived.Test.YtbjblkfibinenadRows
import Derived.JoinedOf
import Derived.KernelRfl
import Derived.Test.YtbjblkfibinenadPure
import Derived.Lib.SmallJoins
import Derived.Carry
import Derived.Test.YtbjblkfibinenadList
import Derived.Test.YtbjblkfibinenadDraw
import Derived.Test.YtbjblkfibinenadSum2
import Derived.Test.YtbjblkfibinenadHas
import Derived.Deep.OwnRows
import Derived.Test.YtbjblkfibinenadRchC
import Derived.Test.YtbjblkfibinenadNxC
import Derived.Test.YtbjblkfibinenadPxC
import Derived.Test.YtbjblkfibinenadRq

/-
  Closed facts on this seat's program, shared by all of its laws.
-/
namespace Go.Proofs.Ytbjblkfibinenad
theorem mayEnter_eq : Try.prog.mayEnter = true := by kernel_rfl
theorem lifts_eq : Try.prog.liftsFinal = false := by kernel_rfl
theorem make_eq : Try.prog.make = some .cut := by kernel_rfl
end Go.Proofs.Ytbjblkfibinenad


/-
  The common last step of every law of this seat: a law's walk (it returns true, old memory is as it was) gives the law's row.
-/
namespace Go.Proofs.Ytbjblkfibinenad
open Go.ChangeShapes Go.WideShapes Go.ChangeAt Go.RowKit Go.Joins Go.Deep

theorem own : ownKnob Try.prog.godebug = none := by kernel_rfl
theorem laidOut : laidOutB Try.prog = true := by kernel_rfl

section
variable {H : Type} {enc : TypeId × Value → H} {P : Program}
theorem trodAll_stays {ts : List TypeId} (hl : laidOutB P = true) {W W' : World} {sp' : Nat → Bool} (hb : Below W.heap.size W W') :
    ∀ {vs : List Value} {ds : List (DataW H)} {ps : List MemPlace}, (∀ t ∈ ts, P.readableRec t = true ∧ t < P.types.size) →
      DataW.TrodAll enc P W 0 (fun _ => true) true ts vs ds ps → (∀ x ∈ ps, x.block < W.heap.size) → (∀ x ∈ ps, sp' x.block = true) → DataW.TrodAll enc P W' 0 sp' true ts vs ds ps := by
  induction ts with
  | nil =>
    intro vs ds ps _ h _ _
    match vs, ds, h with
    | [], [], h => exact h
  | cons t ts ih =>
    intro vs ds ps hr h hlt hsp
    match vs, ds, h with
    | v :: vs, d :: ds, ⟨p, q, h1, h2, e⟩ =>
      subst e
      exact ⟨p, q, WideElems.Trod_stays hl (hr t (by simp)).1 (hr t (by simp)).2 h1 (fun x hx => hb.same (hlt x (by simp [hx]))) (fun x hx => hsp x (by simp [hx])),
        ih (fun t' ht' => hr t' (by simp [ht'])) h2 (fun x hx => hlt x (by simp [hx])) (fun x hx => hsp x (by simp [hx])), rfl⟩

/-- The law's post: it returned true, and of old memory nothing has turned. -/
theorem law_post {f : Func} {s : ChangeSpec} {W W' : World} {args : Array Value} {ds gs : List (DataW H)} {before : List MemPlace} {tb : TypeId}
    (hl : laidOutB P = true) (hr : ∀ t ∈ f.params.toList, P.readableRec t = true ∧ t < P.types.size) (hrt : f.resultTypes = #[tb]) (htb : P.underlying tb = some .bool)
    (hvars : s.vars = []) (hW : DataW.Whole enc P f.params.toList s.vars false W args.toList ds gs before)
    (hfn : s.fn H (ds ++ gs) = { results := [.lit (.bool true)], args := ds }) (hb : Below W.heap.size W W') :
    s.post enc P f false true false false W args (.bool true) W' := by
  have hlt : ∀ p ∈ before, p.block < W.heap.size := fun p hp => hW.lt p hp
  have hold : ∀ p ∈ before, (fun b => decide (b < W.heap.size)) p.block = true := fun p hp => by simpa using hlt p hp
  obtain ⟨p, q, hA, hV, e, hz, hn⟩ := hW
  have hV' := hV
  rw [hvars] at hV'
  obtain ⟨rfl, rfl⟩ := trodVars_none hV'
  have hW : DataW.Whole enc P f.params.toList s.vars false W args.toList ds [] before := ⟨p, [], hA, hV, e, hz, hn⟩
  simp only [List.append_nil] at e
  subst e
  have hres : ∀ (b : Nat) (sp : Nat → Bool) (hd : Bool), DataW.TrodAll enc P W' b sp hd f.resultTypes.toList ((Value.bool true).resultList f.resultTypes.size) (s.fn H (ds ++ [])).results [] := by
    intro b sp hd
    rw [hfn, hrt]
    exact trodAll_cons_mk (shut_bool htb _) trodAll_mk0
  have hargs : ∀ sp : Nat → Bool, (∀ x ∈ before, sp x.block = true) → DataW.TrodAll enc P W' 0 sp true f.params.toList args.toList (s.fn H (ds ++ [])).args before := by
    intro sp hsp
    rw [hfn]
    exact trodAll_stays hl hb hr hA hlt hsp
  have hvs : ∀ sp : Nat → Bool, (∀ x ∈ before, sp x.block = true) → DataW.TrodVars enc P W' sp s.vars (s.fn H (ds ++ [])).vars [] := by
    intro sp _
    rw [hfn, hvars]
    rfl
  have hok : ∀ (j : Nat) (t : TypeId) (r : Value), f.resultTypes[j]? = some t → ((Value.bool true).resultList f.resultTypes.size)[j]? = some r → Value.okWide P W' .any 0 t r :=
    ok_one hrt rfl (okWide_bool_mk htb _)
  refine ⟨ds, [], before, [], before, [], hW, hres _ _ _, hargs _ hold, hvs _ hold, World.keptBut_mono (fun p hp => ⟨hp, ?_⟩) (hb.frame (· ∈ before)), fun h => by cases h⟩
  exact Or.inr (Or.inl hp)

/-- A struct of two ints, by value. -/
theorem open_two {W : World} {base : Nat} {r : Reach} {b0 : Nat} {t ti : TypeId} {v : Value} {d : DataW H} {p : List MemPlace} {sp : Nat → Bool} {held : Bool} {f0 f1 : Field} (ht : P.underlying t = some (.struct #[f0, f1])) (h0 : f0.type = ti) (h1 : f1.type = ti)
    (hone : oneCellFields P #[f0, f1] = true) (hC : P.cellsOf t = 2) (hti : P.underlying ti = some (.int .i64))
    (hv : Value.okWide P W r b0 t v) (h : DataW.Trod enc P W base sp held t v d p) :
    ∃ n m : Int, v = .agg #[.int .i64 n, .int .i64 m] ∧ -9223372036854775808 ≤ n ∧ n ≤ 9223372036854775807 ∧ -9223372036854775808 ≤ m ∧ m ≤ 9223372036854775807 := by
  obtain ⟨v0, v1, y0, y1, k, rfl, _, _, e0, e1⟩ := open_agg2 ht hone hC hv h
  rw [h0] at e0
  rw [h1] at e1
  obtain ⟨n, hn1, _, hn2⟩ := DataW.trod_int hti e0
  obtain ⟨m, hm1, _, hm2⟩ := DataW.trod_int hti e1
  simp only [List.cons.injEq, and_true] at hn1 hm1
  subst hn1
  subst hm1
  have a := bounds_i64 hn2
  have b := bounds_i64 hm2
  exact ⟨n, m, rfl, a.1, a.2, b.1, b.2⟩
/-- A slice of ints: nil, empty or not, one way. -/
theorem open_ints_reads {W : World} {r : Reach} {b0 : Nat} {t ti : TypeId} {v : Value} {d : DataW H} {p : List MemPlace} (ht : P.underlying t = some (.slice ti)) (hti : P.underlying ti = some (.int .i64)) (hC : P.cellsOf ti = 1)
    (hv : Value.okWide P W r b0 t v) (h : DataW.Trod enc P W 0 (fun _ => true) true t v d p) (hlt : ∀ y ∈ p, y.block < W.heap.size) :
    ∃ (A : Option Addr) (c : Nat) (xs : List Int), v = .slice A xs.length c ∧ Reads W A xs ∧ (∀ (i : Nat) (x : Int), xs[i]? = some x → -9223372036854775808 ≤ x ∧ x ≤ 9223372036854775807) := by
  obtain ⟨a0, len, cap, rfl⟩ := okWide_slice ht hv
  obtain ⟨fuel, hf⟩ := h
  rcases open_ints ht hti hC hf with ⟨hcs, _⟩ | ⟨a, len', cap', zs, hcs, _, hl, hm, hz, hx, hcell, hw⟩
  · simp [Value.cells] at hcs
    obtain ⟨rfl, rfl, rfl⟩ := hcs
    exact ⟨none, 0, [], rfl, Reads.nil, fun i x h => by simp at h⟩
  · simp [Value.cells] at hcs
    obtain ⟨rfl, rfl, rfl⟩ := hcs
    simp only [if_true] at hz
    have hll : (zs.take len).length = len := by rw [List.length_take]; omega
    refine ⟨some a, cap, zs.take len, by rw [hll], fun h0 => ?_, fun i x h => ?_⟩
    · obtain ⟨b, o, spot⟩ := a
      have hspot : spot = none := by simpa [Addr.add] using World.cell?_spot (hcell 0 (by omega))
      subst hspot
      refine ⟨b, o, rfl, ?_, fun i x h => ?_⟩
      · simp only [Prod.mk.injEq] at hx
        have := hlt (.cell b o) (by rw [hx.2]; exact MemPlace.mem_row.2 ⟨0, by omega, by simp⟩)
        exact this
      · have hi : i < len := by have := (List.getElem?_eq_some_iff.1 h).1; omega
        have hc := hcell i (by omega)
        rw [List.getElem?_take, if_pos hi] at h
        rw [List.getD, h] at hc
        simpa [add_plain] using hc
    · have hi : i < len := by have := (List.getElem?_eq_some_iff.1 h).1; omega
      rw [List.getElem?_take, if_pos hi] at h
      exact bounds_i64 (hw x (List.mem_of_getElem? h))
end
end Go.Proofs.Ytbjblkfibinenad


/-
  Contracts of the laws' own helpers.
-/
namespace Go.Proofs.Ytbjblkfibinenad
open Go.RowKit
def bigB (n m : Nat) : Bool := decide (1048576 < n) || decide (1048576 < n + m)
theorem big_any (w : World) (A B : Option Addr) (n m c d : Nat) (hn : n ≤ 9223372036854775807) (_ : m ≤ 9223372036854775807) : Calls Try.prog 19 #[.slice A n c, .slice B m d] w (RetQ (.bool (bigB n m)) w) := by
  by_cases h : 1048576 < n
  · have h1 : 1048576 < (n : Int) := by omega
    have E : Hid (bigB n m = true) := by show bigB n m = true; simp [bigB, h]
    go_enter Try.func19, Try.ntmps19
    go_wp2
    go_ret
    exact ⟨ret_bool (by first | (rw [E.out]; done) | (rw [E.out]; simp; done) | (rw [E.out]; simp; omega)), 0, rfl⟩
  · have h1 : ¬ 1048576 < (n : Int) := by omega
    have h2 : (n : Int) ≤ 1048576 := by omega
    have E : Hid (bigB n m = decide (1048576 - (n : Int) < m)) := by
      show bigB n m = _
      rw [Bool.eq_iff_iff]; simp [bigB, h]; omega
    go_enter Try.func19, Try.ntmps19
    go_wp2
    go_ret
    exact ⟨ret_bool (by first | (rw [E.out]; done) | (rw [E.out]; simp; done) | (rw [E.out]; simp; omega)), 0, rfl⟩
open Go.ChangeShapes Go.WideShapes Go.ChangeAt Go.Joins Go.Deep
section
variable {H : Type} {enc : TypeId × Value → H} {P : Program}
/-- A slice of bytes: nil, empty or not, one way. -/
theorem open_bytes_reads {W : World} {r : Reach} {b0 : Nat} {t ti : TypeId} {v : Value} {d : DataW H} {p : List MemPlace} (ht : P.underlying t = some (.slice ti)) (hti : P.underlying ti = some (.int .u8)) (hC : P.cellsOf ti = 1)
    (hv : Value.okWide P W r b0 t v) (h : DataW.Trod enc P W 0 (fun _ => true) true t v d p) (hlt : ∀ y ∈ p, y.block < W.heap.size) :
    ∃ (A : Option Addr) (c : Nat) (n : Nat), v = .slice A n c ∧ (ReadsB W A n ∧ n ≤ 9223372036854775807) := by
  obtain ⟨a0, len, cap, rfl⟩ := okWide_slice ht hv
  obtain ⟨fuel, hf⟩ := h
  rcases open_ints ht hti hC hf with ⟨hcs, _⟩ | ⟨a, len', cap', zs, hcs, _, hl, hm, hz, hx, hcell, hw⟩
  · simp [Value.cells] at hcs
    obtain ⟨rfl, rfl, rfl⟩ := hcs
    exact ⟨none, 0, 0, rfl, fun h0 => by omega, by omega⟩
  · simp [Value.cells] at hcs
    obtain ⟨rfl, rfl, rfl⟩ := hcs
    simp only [if_true] at hz
    unfold maxLen at hm
    refine ⟨some a, cap, len, rfl, fun h0 => ?_, by omega⟩
    obtain ⟨b, o, spot⟩ := a
    have hspot : spot = none := by simpa [Addr.add] using World.cell?_spot (hcell 0 (by omega))
    subst hspot
    refine ⟨b, o, rfl, ?_, fun i hi => ?_⟩
    · simp only [Prod.mk.injEq] at hx
      exact hlt (.cell b o) (by rw [hx.2]; exact MemPlace.mem_row.2 ⟨0, by omega, by simp⟩)
    · have hc := hcell i (by omega)
      have hb := range_u8 hw i
      refine ⟨zs.getD i 0, by simpa [Go.WideShapes.add_plain] using hc, ?_⟩
      simpa [List.getD] using hb
end
end Go.Proofs.Ytbjblkfibinenad


/-
  Contracts of what draws a fraction, and a number over which it is expanded (with what DrawP and Dr4 hold).
-/
namespace Go.Proofs.Ytbjblkfibinenad
open Go.RowKit
theorem beginP (w : World) (A : Option Addr) (n c : Nat) (T : TypeId) (hr : ReadsB w A n) (hn : n ≤ 1048576) : Cur w (w.alloc (.cells #[.slice A n c, .int .i64 0, .int .u64 0] T)) w.heap.size 0 :=
  ⟨Nat.le_refl _, by simp, (Below.refl _ _).alloc (Nat.le_refl _) _, A, n, c, 0, 0, (by simp), hn, hr, (by simp), by omega, by omega, (by simp), by simp [go_sem], by simp [go_sem]⟩
theorem oneP_any (w0 w : World) (g n : Nat) (hn : n ≤ 1000000) (m : Int) (hm : m ≤ 1000000000) (h : Cur w0 w g n) : Calls Try.prog 43 #[.pointer (some ⟨g, 0, none⟩), .int .i64 m] w (fun e w' => ∃ b : Bool, e = .returned (.bool b) ∧ Cur w0 w' g (n + 2) ∧ w.grownBy w' (some g)) := by
  have HC := Lib.hid h
  clear h
  go_enter Try.func43, Try.ntmps43
  go_wp2_with fail
  refine (pick_any w0 _ _ n hn _ hm HC.out).mono ?_; rintro e w1 ⟨x, rfl, x0, x1, hc1, hg1⟩
  have HC1 := Lib.hid hc1
  have Hg1 := Lib.hid hg1
  clear hc1 hg1
  go_wp2
  go_ret
  exact ⟨_, rfl, HC1.out, Hg1.out⟩
set_option maxHeartbeats 4000000 in
theorem proper_any (w0 w : World) (g n : Nat) (hn : n ≤ 10000) (h : Cur w0 w g n) : Calls Try.prog 41 #[.pointer (some ⟨g, 0, none⟩)] w (DrawF w0 w g (n + 30)) := by
  have HC := Lib.hid (h.below ((Below.refl _ _).alloc (Nat.le_refl _) (.cells #[.int .i64 0, .int .i64 0] 27)))
  obtain ⟨b1, b2, b3⟩ := h.base
  clear h
  have T0 := Lib.hid (TwoAt.new w 0 0 27)
  go_enter Try.func41, Try.ntmps41
  go_wp2_with fail
  refine (oneP_any w0 _ g n (by omega) _ (by omega) HC.out).mono ?_; rintro e w1 ⟨o, rfl, hc1, hg1⟩
  have HC1 := Lib.hid hc1
  have T1 := Lib.hid (T0.out.grown hg1 (by omega))
  have Hg1 := Lib.hid ((grownAlloc (World.grownBy.refl w (some g)) (Nat.le_refl _) _).trans hg1)
  have hz1 := hg1.size
  simp only [World.size_alloc] at hz1
  clear hc1 hg1
  cases o with
  | true =>
    go_wp2_with fail
    refine (fraction_any w0 _ g (n + 2) (by omega) HC1.out).mono ?_; rintro e w2 ⟨a, b, rfl, ha, hb, hc2, hg2⟩
    have HC2 := Lib.hid hc2
    have Hg2 := Lib.hid (Hg1.out.trans hg2)
    have hz2 := hg2.size
    obtain ⟨t1, t2, t3, t4, t5⟩ := T1.out.grown hg2 (by omega)
    clear hc2 hg2
    go_wp2
    refine bodyPost_ret (by simp [results, Try.results41, go_sem, *]; try rfl) rfl ?_
    exact ⟨a, b, rfl, ha, hb, ((HC2.out.more (by omega)).set (by omega) (by omega) _ _).set (by omega) (by omega) _ _, grownSetNew (grownSetNew Hg2.out (Nat.le_refl _) _ _) (Nat.le_refl _) _ _⟩
  | false =>
    go_wp2_with fail
    refine (pick_any w0 _ _ (n + 2) (by omega) _ (by omega) HC1.out).mono ?_; rintro e w2 ⟨p, rfl, p0, p1, hc2, hg2⟩
    have HC2 := Lib.hid hc2
    have T2 := Lib.hid (T1.out.grown hg2 (by omega))
    have Hg2 := Lib.hid (Hg1.out.trans hg2)
    have hz2 := hg2.size
    clear hc2 hg2
    go_wp2_with fail
    refine (pick_any w0 _ _ (n + 4) (by omega) _ (by omega) HC2.out).mono ?_; rintro e w3 ⟨q, rfl, q0, q1, hc3, hg3⟩
    have HC3 := Lib.hid hc3
    have T3 := Lib.hid (T2.out.grown hg3 (by omega))
    have Hg3 := Lib.hid (Hg2.out.trans hg3)
    have hz3 := hg3.size
    clear hc3 hg3
    go_wp2_with fail
    refine (unMake_any _ _ _ (by omega) (by omega) (by omega) (by omega)).mono ?_; rintro e w4 ⟨rfl, hb4⟩
    have hsm := red_small (x := 1 + q) (y := 2 + p) (by omega) (by omega) (by omega) (by omega)
    generalize (1 + q) / gcdI (1 + q) (2 + p) = a at *
    generalize (2 + p) / gcdI (1 + q) (2 + p) = b at *
    have Hsm := Lib.hid hsm
    have HC4 := Lib.hid (HC3.out.below hb4)
    have Hg4 := Lib.hid (grownBelow Hg3.out (by omega) hb4)
    obtain ⟨t1, t2, t3, t4, t5⟩ := T3.out.below hb4
    have hz4 := hb4.size
    clear hsm hb4
    go_wp2
    refine bodyPost_ret (by simp [results, Try.results41, go_sem, *]; try rfl) rfl ?_
    exact ⟨a, b, rfl, Hsm.out.1, Hsm.out.2, ((HC4.out.more (by omega)).set (by omega) (by omega) _ _).set (by omega) (by omega) _ _, grownSetNew (grownSetNew Hg4.out (Nat.le_refl _) _ _) (Nat.le_refl _) _ _⟩
theorem OwnI.atRow {w : World} {base g k : Nat} (hb : base ≤ g) (hk : k ≤ 1000) (h : w.heap[g]? = some (.cells (madeCells #[.int .i64 0] k) 3)) : OwnI w base (.slice (some ⟨g, 0, none⟩) k k) (List.replicate k 0) := by
  unfold OwnI
  rw [List.length_replicate]
  refine ⟨by simp, .inr ⟨g, k, _, rfl, hb, h, Nat.le_refl _, by unfold maxLen; omega, by simp [madeCells], ?_⟩⟩
  rw [toList_madeCells_one, Nat.mul_one, List.map_replicate]
  exact List.take_of_length_le (by simp)
/-- a list of the call's own has been drawn -/
def DrawnL (w : World) (e : Ending) (w' : World) : Prop := ∃ v zs, e = .returned v ∧ OwnI w' w.heap.size v zs ∧ zs.length ≤ 40 ∧ (∀ z ∈ zs, -9223372036854775808 ≤ z ∧ z ≤ 9223372036854775807) ∧ Below w.heap.size w w'
end Go.Proofs.Ytbjblkfibinenad
namespace Go.Proofs.Ytbjblkfibinenad
open Go.RowKit
set_option maxHeartbeats 4000000 in
theorem number4_any (w0 w : World) (g n : Nat) (hn : n ≤ 100000) (h : Cur w0 w g n) : Calls Try.prog 42 #[.pointer (some ⟨g, 0, none⟩)] w (DrawN w0 w g (n + 4) (-1) 2001) := by
  have HC := Lib.hid h
  obtain ⟨b1, b2, b3⟩ := h.base
  clear h
  go_enter Try.func42, Try.ntmps42
  go_wp2_with fail
  refine (pick_any w0 _ _ n (by omega) _ (by omega) HC.out).mono ?_; rintro e w1 ⟨x, rfl, x0, x1, hc1, hg1⟩
  have HC1 := Lib.hid hc1
  have Hg1 := Lib.hid hg1
  have hz1 := hg1.size
  clear hc1 hg1
  by_cases e0 : x = 0
  · subst e0
    go_wp2_with fail
    refine (among_any w0 _ _ (n + 2) (by omega) (-1) 2001 _ 5 [0, -1, 1, 2000, 2001] (Reads.lit w1 _ 5 rfl) (by simp) (by simp) (by simp) (fun a ha => by injection ha with ha; subst ha; show w1.heap.size ≠ g; omega) (fun z hz => by simp only [List.mem_cons, List.not_mem_nil, or_false] at hz; omega) (HC1.out.below ((Below.refl _ _).alloc (Nat.le_refl _) _))).mono ?_; rintro e w2 ⟨z, rfl, z0, z1, hc2, hg2⟩
    have HC2 := Lib.hid hc2
    have Hg2 := Lib.hid (Hg1.out.trans ((grownAlloc (World.grownBy.refl w1 (some g)) (Nat.le_refl _) _).trans hg2))
    clear hc2 hg2
    go_wp2
    go_ret
    exact ⟨z, rfl, z0, z1, HC2.out, Hg2.out⟩
  · by_cases e1 : x = 1
    · subst e1
      go_wp2_with fail
      refine (pick_any w0 _ _ (n + 2) (by omega) _ (by omega) HC1.out).mono ?_; rintro e w2 ⟨z, rfl, z0, z1, hc2, hg2⟩
      have HC2 := Lib.hid hc2
      have Hg2 := Lib.hid (Hg1.out.trans hg2)
      clear hc2 hg2
      go_wp2
      go_ret
      exact ⟨1 + z, rfl, by omega, by omega, HC2.out, Hg2.out⟩
    · have h0 : (x == 0) = false := by simp [e0]
      have h1 : (x == 1) = false := by simp [e1]
      by_cases e23 : x = 2 ∨ x = 3
      · rcases e23 with rfl | rfl
        all_goals
          go_wp2_with fail
          refine (among_any w0 _ _ (n + 2) (by omega) (-1) 2001 _ 19 [6, 12, 20, 28, 30, 36, 42, 60, 70, 72, 84, 90, 120, 156, 210, 240, 280, 420, 1680] (Reads.lit w1 _ 19 rfl) (by simp) (by simp) (by simp) (fun a ha => by injection ha with ha; subst ha; show w1.heap.size ≠ g; omega) (fun z hz => by simp only [List.mem_cons, List.not_mem_nil, or_false] at hz; omega) (HC1.out.below ((Below.refl _ _).alloc (Nat.le_refl _) _))).mono ?_; rintro e w2 ⟨z, rfl, z0, z1, hc2, hg2⟩
          have HC2 := Lib.hid hc2
          have Hg2 := Lib.hid (Hg1.out.trans ((grownAlloc (World.grownBy.refl w1 (some g)) (Nat.le_refl _) _).trans hg2))
          clear hc2 hg2
          go_wp2
          go_ret
          exact ⟨z, rfl, z0, z1, HC2.out, Hg2.out⟩
      · have h2 : (x == 2) = false := by simp; omega
        have h3 : (x == 3) = false := by simp; omega
        go_wp2_with fail
        refine (pick_any w0 _ _ (n + 2) (by omega) _ (by omega) HC1.out).mono ?_; rintro e w2 ⟨z, rfl, z0, z1, hc2, hg2⟩
        have HC2 := Lib.hid hc2
        have Hg2 := Lib.hid (Hg1.out.trans hg2)
        clear hc2 hg2
        go_wp2
        go_ret
        exact ⟨1 + z, rfl, by omega, by omega, HC2.out, Hg2.out⟩
end Go.Proofs.Ytbjblkfibinenad
namespace Go.Proofs.Ytbjblkfibinenad
open Go.RowKit
def DrawFr (w : World) (e : Ending) (w' : World) : Prop := ∃ a b : Int, e = .returned (.agg #[.int .i64 a, .int .i64 b]) ∧ (-9223372036854775808 ≤ a ∧ a ≤ 9223372036854775807) ∧ (-9223372036854775808 ≤ b ∧ b ≤ 9223372036854775807) ∧ Below w.heap.size w w'
set_option maxRecDepth 100000 in
set_option maxHeartbeats 2000000 in
theorem drawPractical_any (w : World) (A : Option Addr) (n c : Nat) (hr : ReadsB w A n) (hn : n ≤ 1048576) : Calls Try.prog 25 #[.slice A n c] w (fun e w' => ∃ a b : Int, e = .returned (.agg #[.int .i64 a, .int .i64 b]) ∧ (-9223372036854775808 ≤ a ∧ a ≤ 9223372036854775807) ∧ (-9223372036854775808 ≤ b ∧ b ≤ 9223372036854775807) ∧ Below w.heap.size w w') := by
  have T0 := Lib.hid (TwoAt.new w 0 0 27)
  have hc0 := beginP (w.alloc (.cells #[.int .i64 0, .int .i64 0] 27)) A n c 54 (hr.below ((Below.refl _ _).alloc (Nat.le_refl _) _)) hn
  rw [World.size_alloc] at hc0
  have HC0 := Lib.hid hc0
  clear hr hc0
  go_enter Try.func25, Try.ntmps25
  go_wp2_with fail
  refine (proper_any (w.alloc (.cells #[.int .i64 0, .int .i64 0] 27)) _ (w.heap.size + 1) 0 (by omega) HC0.out).mono ?_; rintro e w2 ⟨a, b, rfl, ha, hb, hc2, hg2⟩
  have hbs := hc2.base.2.2
  have hz2 := hg2.size
  simp only [World.size_alloc] at hz2
  obtain ⟨t1, t2, t3, t4, t5⟩ := T0.out.below hbs
  have hbw : Below w.heap.size w w2 := by (repeat' (first | (with_reducible exact Below.refl _ _) | (with_reducible assumption) | (with_reducible refine Below.drew ?_) | (with_reducible refine belowDrewN ?_ _) | (with_reducible refine Below.alloc ?_ ?_ _) | (with_reducible refine Below.setCell ?_ ?_ _) | (with_reducible refine belowStep (by assumption) ?_ ?_) | (with_reducible exact Below.size (by assumption)) | go_size))
  clear hc2 hg2 hbs
  go_wp2
  refine bodyPost_ret (by simp [results, Try.results25, go_sem, *]; try rfl) rfl ?_
  exact ⟨a, b, rfl, ha, hb, (hbw.setCell (Nat.le_refl _) _).setCell (Nat.le_refl _) _⟩
set_option maxRecDepth 100000 in
set_option maxHeartbeats 4000000 in
theorem drawLeastOver_any (w : World) (A : Option Addr) (n c : Nat) (hr : ReadsB w A n) (hn : n ≤ 1048576) : Calls Try.prog 23 #[.slice A n c] w (DrawFr w) := by
  have T0 := Lib.hid (TwoAt.new w 0 0 27)
  have hc0 := beginP (w.alloc (.cells #[.int .i64 0, .int .i64 0] 27)) A n c 54 (hr.below ((Below.refl _ _).alloc (Nat.le_refl _) _)) hn
  rw [World.size_alloc] at hc0
  have HC0 := Lib.hid hc0
  clear hr hc0
  go_enter Try.func23, Try.ntmps23
  go_wp2_with fail
  refine (oneP_any (w.alloc (.cells #[.int .i64 0, .int .i64 0] 27)) _ (w.heap.size + 1) 0 (by omega) _ (by omega) HC0.out).mono ?_; rintro e w1 ⟨o, rfl, hc1, hg1⟩
  have HC1 := Lib.hid hc1
  have hz1 := hg1.size
  simp only [World.size_alloc] at hz1
  clear hc1 hg1
  cases o with
  | true =>
    go_wp2_with fail
    refine (pick_any _ _ (w.heap.size + 1) 2 (by omega) _ (by omega) HC1.out).mono ?_; rintro e w2 ⟨p, rfl, p0, p1, hc2, hg2⟩
    have HC2 := Lib.hid hc2
    have hz2 := hg2.size
    clear hc2 hg2
    go_wp2_with fail
    refine (pick_any _ _ (w.heap.size + 1) 4 (by omega) _ (by omega) HC2.out).mono ?_; rintro e w3 ⟨q, rfl, q0, q1, hc3, hg3⟩
    have HC3 := Lib.hid hc3
    have hz3 := hg3.size
    clear hc3 hg3
    go_wp2_with fail
    refine (unMake_any _ _ _ (by omega) (by omega) (by omega) (by omega)).mono ?_; rintro e w4 ⟨rfl, hb4⟩
    have hsm := red_small (x := 1 + p) (y := 1 + q) (by omega) (by omega) (by omega) (by omega)
    generalize (1 + p) / gcdI (1 + p) (1 + q) = a at *
    generalize (1 + q) / gcdI (1 + p) (1 + q) = b at *
    have Hsm := Lib.hid hsm
    have hbs := (HC3.out.below hb4).base.2.2
    obtain ⟨t1, t2, t3, t4, t5⟩ := T0.out.below hbs
    have hz4 := hb4.size
    have hbw : Below w.heap.size w w4 := by (repeat' (first | (with_reducible exact Below.refl _ _) | (with_reducible assumption) | (with_reducible refine Below.drew ?_) | (with_reducible refine belowDrewN ?_ _) | (with_reducible refine Below.alloc ?_ ?_ _) | (with_reducible refine Below.setCell ?_ ?_ _) | (with_reducible refine belowStep (by assumption) ?_ ?_) | (with_reducible exact Below.size (by assumption)) | go_size))
    clear hsm hbs
    go_wp2
    refine bodyPost_ret (by simp [results, Try.results23, go_sem, *]; try rfl) rfl ?_
    exact ⟨a, b, rfl, by have := Hsm.out; omega, by have := Hsm.out; omega, (hbw.setCell (Nat.le_refl _) _).setCell (Nat.le_refl _) _⟩
  | false =>
    go_wp2_with fail
    refine (proper_any _ _ (w.heap.size + 1) 2 (by omega) HC1.out).mono ?_; rintro e w2 ⟨a, b, rfl, ha, hb, hc2, hg2⟩
    have hbs := hc2.base.2.2
    have hz2 := hg2.size
    obtain ⟨t1, t2, t3, t4, t5⟩ := T0.out.below hbs
    have hbw : Below w.heap.size w w2 := by (repeat' (first | (with_reducible exact Below.refl _ _) | (with_reducible assumption) | (with_reducible refine Below.drew ?_) | (with_reducible refine belowDrewN ?_ _) | (with_reducible refine Below.alloc ?_ ?_ _) | (with_reducible refine Below.setCell ?_ ?_ _) | (with_reducible refine belowStep (by assumption) ?_ ?_) | (with_reducible exact Below.size (by assumption)) | go_size))
    clear hc2 hg2 hbs
    go_wp2
    refine bodyPost_ret (by simp [results, Try.results23, go_sem, *]; try rfl) rfl ?_
    exact ⟨a, b, rfl, ha, hb, (hbw.setCell (Nat.le_refl _) _).setCell (Nat.le_refl _) _⟩
def DrawFN (w : World) (e : Ending) (w' : World) : Prop := ∃ a b N : Int, e = .returned (.tuple #[.agg #[.int .i64 a, .int .i64 b], .int .i64 N]) ∧ (-9223372036854775808 ≤ a ∧ a ≤ 9223372036854775807) ∧ (-9223372036854775808 ≤ b ∧ b ≤ 9223372036854775807) ∧ -1 ≤ N ∧ N ≤ 6000 ∧ Below w.heap.size w w'
theorem mul_small {b z : Int} (b0 : 1 ≤ b) (b1 : b < 500) (z0 : 1 ≤ z) (z1 : z ≤ 12) : 1 ≤ b * z ∧ b * z ≤ 6000 ∧ IntKind.i64.wrap (b * z) = b * z := by
  have h1 := Int.mul_pos (a := b) (b := z) (by omega) (by omega)
  have h2 := Int.mul_le_mul (a := b) (b := z) (c := 500) (d := 12) (by omega) z1 (by omega) (by omega)
  exact ⟨by omega, by omega, IntWalk.i64_in _ (by omega)⟩
set_option maxRecDepth 100000 in
set_option maxHeartbeats 8000000 in
theorem drawExpandOver_any (w : World) (A : Option Addr) (n c : Nat) (hr : ReadsB w A n) (hn : n ≤ 1048576) : Calls Try.prog 20 #[.slice A n c] w (DrawFN w) := by
  have T0 := Lib.hid (TwoAt.new w 0 0 27)
  have hc0 := beginP (w.alloc (.cells #[.int .i64 0, .int .i64 0] 27)) A n c 54 (hr.below ((Below.refl _ _).alloc (Nat.le_refl _) _)) hn
  rw [World.size_alloc] at hc0
  have HC0 := Lib.hid hc0
  clear hr hc0
  go_enter Try.func20, Try.ntmps20
  go_wp2_with fail
  refine (proper_any (w.alloc (.cells #[.int .i64 0, .int .i64 0] 27)) _ (w.heap.size + 1) 0 (by omega) HC0.out).mono ?_; rintro e w2 ⟨a, b, rfl, ha, hb, hc2, hg2⟩
  have hz2 := hg2.size
  simp only [World.size_alloc] at hz2
  have T02 := Lib.hid (T0.out.below hc2.base.2.2)
  have hbw2 : Below w.heap.size w w2 := ((Below.refl _ _).alloc (Nat.le_refl _) (.cells #[.int .i64 0, .int .i64 0] 27)).trans (hc2.base.2.2.mono (by simp))
  have T5 := Lib.hid (TwoAt.new w2 a b 27)
  have T02 := Lib.hid (T02.out.below ((Below.refl _ _).alloc (Nat.le_refl _) (.cells #[.int .i64 a, .int .i64 b] 27)))
  have HC2 := Lib.hid (hc2.below ((Below.refl _ _).alloc (Nat.le_refl _) (.cells #[.int .i64 a, .int .i64 b] 27)))
  clear hc2 hg2 T0
  go_wp2_with fail
  refine (number4_any _ _ (w.heap.size + 1) 30 (by omega) HC2.out).mono ?_; rintro e w3 ⟨x, rfl, x0, x1, hc3, hg3⟩
  have HC3 := Lib.hid hc3
  have hz3 := hg3.size
  simp only [World.size_alloc] at hz3
  have T53 := Lib.hid (T5.out.grown hg3 (by omega))
  have T03 := Lib.hid (T02.out.grown hg3 (by omega))
  have hbw3 := hbw2.trans ((((Below.refl _ _).alloc hbw2.size (.cells #[.int .i64 a, .int .i64 b] 27)).grown hg3 (by simp; omega) (fun k hk => by injection hk with hk; omega)))
  have HB3 := Lib.hid hbw3
  clear hc3 hg3 T5 T02 hbw3
  go_wp2_with fail
  refine (oneP_any _ _ (w.heap.size + 1) 34 (by omega) _ (by omega) HC3.out).mono ?_; rintro e w4 ⟨o, rfl, hc4, hg4⟩
  have HC4 := Lib.hid hc4
  have hz4 := hg4.size
  have T54 := Lib.hid (T53.out.grown hg4 (by omega))
  have T04 := Lib.hid (T03.out.grown hg4 (by omega))
  have HB4 := Lib.hid (HB3.out.grown hg4 (by omega) (fun k hk => by injection hk with hk; omega))
  clear hc4 hg4 T53 T03
  cases o with
  | false =>
    obtain ⟨t1, t2, t3, t4, t5⟩ := T54.out
    obtain ⟨u1, u2, u3, u4, u5⟩ := T04.out
    go_wp2
    refine bodyPost_ret (by simp [results, Try.results20, go_sem, *]; try rfl) rfl ?_
    exact ⟨a, b, x, rfl, ha, hb, x0, by omega, (HB4.out.setCell (Nat.le_refl _) _).setCell (Nat.le_refl _) _⟩
  | true =>
    obtain ⟨t1, t2, t3, t4, t5⟩ := T54.out
    go_wp2_with fail
    refine (unGood_any a b _).mono ?_; rintro e w5 ⟨rfl, hb5⟩; have hz5 := hb5.size; (try simp only [World.size_alloc, World.size_setCell, World.size_drew, World.heap_drewN] at hz5)
    clear t1 t2 t3 t4 t5
    have T55 := Lib.hid (T54.out.below hb5)
    have T05 := Lib.hid (T04.out.below hb5)
    have HC5 := Lib.hid (HC4.out.below hb5)
    have HB5 := Lib.hid (HB4.out.trans (hb5.mono HB4.out.size))
    clear T54 T04
    obtain ⟨t1, t2, t3, t4, t5⟩ := T55.out
    obtain ⟨u1, u2, u3, u4, u5⟩ := T05.out
    cases hg : goodB a b with
    | false =>
      go_wp2
      refine bodyPost_ret (by simp [results, Try.results20, go_sem, *]; try rfl) rfl ?_
      exact ⟨a, b, x, rfl, ha, hb, x0, by omega, (HB5.out.setCell (Nat.le_refl _) _).setCell (Nat.le_refl _) _⟩
    | true =>
      obtain ⟨g1, g2, g3, g4⟩ := good_bounds hg
      by_cases hb500 : b < 500
      · go_wp2_with fail
        go_cut [6] (fun s6 wx => ∃ z : Int, s6 = .int .i64 z ∧ -1 ≤ z ∧ z ≤ 6000 ∧ TwoAt wx w2.heap.size a b ∧ TwoAt wx w.heap.size 0 0 ∧ Below w.heap.size w wx)
        case first =>
          go_region_held3 (fun w' => w'.cell? ⟨w2.heap.size, 0, none⟩ = some (.int .i64 a) ∧ w'.cell? ⟨w2.heap.size, 1, none⟩ = some (.int .i64 b)) (go_keep) (first | (go_at_call 44; refine (among_any _ _ (w.heap.size + 1) 36 (by omega) 1 12 _ 6 [1, 2, 3, 4, 6, 12] (by exact Reads.lit w5 [1, 2, 3, 4, 6, 12] 6 rfl) (by simp) (by simp) (by simp) (fun x hx => by injection hx with hx; subst hx; show w5.heap.size ≠ w.heap.size + 1; omega) (fun z hz => by simp only [List.mem_cons, List.not_mem_nil, or_false] at hz; omega) (HC5.out.below (by (repeat' (first | (with_reducible exact Below.refl _ _) | (with_reducible assumption) | (with_reducible refine Below.drew ?_) | (with_reducible refine belowDrewN ?_ _) | (with_reducible refine Below.alloc ?_ ?_ _) | (with_reducible refine Below.setCell ?_ ?_ _) | (with_reducible refine belowStep (by assumption) ?_ ?_) | (with_reducible exact Below.size (by assumption)) | go_size))))).mono ?_; rintro e w6 ⟨z, rfl, z0, z1, hc6, hg6⟩; have T56 := (T55.out.below (show Below w5.heap.size w5 _ by (repeat' (first | (with_reducible exact Below.refl _ _) | (with_reducible assumption) | (with_reducible refine Below.drew ?_) | (with_reducible refine belowDrewN ?_ _) | (with_reducible refine Below.alloc ?_ ?_ _) | (with_reducible refine Below.setCell ?_ ?_ _) | (with_reducible refine belowStep (by assumption) ?_ ?_) | (with_reducible exact Below.size (by assumption)) | go_size)))).grown hg6 (by omega); have T06 := (T05.out.below (show Below w5.heap.size w5 _ by (repeat' (first | (with_reducible exact Below.refl _ _) | (with_reducible assumption) | (with_reducible refine Below.drew ?_) | (with_reducible refine belowDrewN ?_ _) | (with_reducible refine Below.alloc ?_ ?_ _) | (with_reducible refine Below.setCell ?_ ?_ _) | (with_reducible refine belowStep (by assumption) ?_ ?_) | (with_reducible exact Below.size (by assumption)) | go_size)))).grown hg6 (by omega); have HB50 := HB5.out; have HB6 := (HB50.trans (show Below w.heap.size w5 _ by (repeat' (first | (with_reducible exact Below.refl _ _) | (with_reducible assumption) | (with_reducible refine Below.drew ?_) | (with_reducible refine belowDrewN ?_ _) | (with_reducible refine Below.alloc ?_ ?_ _) | (with_reducible refine Below.setCell ?_ ?_ _) | (with_reducible refine belowStep (by assumption) ?_ ?_) | (with_reducible exact Below.size (by assumption)) | go_size)))).grown hg6 (by (first | (go_size; done) | ((try simp only [World.size_alloc, World.size_setCell, World.size_drew, World.heap_drewN]); omega))) (fun k hk => by injection hk with hk; omega); obtain ⟨y1, y2, y3⟩ := mul_small g3 hb500 z0 z1; obtain ⟨v1, v2, v3, v4, v5⟩ := T56))
          all_goals go_wp2_with fail
          all_goals go_meet
          all_goals exact ⟨_, rfl, by omega, by omega, ⟨v1, v2, v3, v4, v5⟩, T06, HB6⟩
        case rest =>
          obtain ⟨w6, rfl⟩ : ∃ x : World, x = wc := ⟨_, rfl⟩
          obtain ⟨z, rfl, z0, z1, T56, T06, HB6⟩ := hcut
          clear t1 t2 t3 t4 t5 u1 u2 u3 u4 u5
          obtain ⟨t1, t2, t3, t4, t5⟩ := T56
          obtain ⟨u1, u2, u3, u4, u5⟩ := T06
          have HB := Lib.hid HB6
          go_wp2
          refine bodyPost_ret (by simp [results, Try.results20, go_sem, *]; try rfl) rfl ?_
          exact ⟨a, b, z, rfl, ha, hb, z0, z1, (HB.out.setCell (Nat.le_refl _) _).setCell (Nat.le_refl _) _⟩
      · go_wp2
        refine bodyPost_ret (by simp [results, Try.results20, go_sem, *]; try rfl) rfl ?_
        exact ⟨a, b, x, rfl, ha, hb, x0, by omega, (HB5.out.setCell (Nat.le_refl _) _).setCell (Nat.le_refl _) _⟩
end Go.Proofs.Ytbjblkfibinenad


/-
  Contracts of the least common multiple of an expansion.
-/
namespace Go.Proofs.Ytbjblkfibinenad
open Go.RowKit
def lcmL : Int → List Int → Option Int
  | m, [] => some m
  | m, t :: ts => if m * (t / gcdI m t) ≤ 1000000000 then lcmL (m * (t / gcdI m t)) ts else none
theorem lcmL_yes {m t : Int} {ts : List Int} (h : m * (t / gcdI m t) ≤ 1000000000) : lcmL m (t :: ts) = lcmL (m * (t / gcdI m t)) ts := by
  show (if _ then _ else _) = _
  rw [if_pos h]
theorem lcmL_no {m t : Int} {ts : List Int} (h : ¬ m * (t / gcdI m t) ≤ 1000000000) : lcmL m (t :: ts) = none := by
  show (if _ then _ else _) = _
  rw [if_neg h]
theorem lcm_swap {m t : Int} (h : 1 ≤ t) : m / gcdI m t * t = m * (t / gcdI m t) := by
  have hg := gcdI_pos m t (by omega)
  obtain ⟨a, ha⟩ := gcdI_dvdL m t
  obtain ⟨b, hb⟩ := gcdI_dvdR m t
  generalize gcdI m t = g at *
  subst ha
  subst hb
  rw [Int.mul_ediv_cancel_left _ (by omega), Int.mul_ediv_cancel_left _ (by omega), Int.mul_left_comm, ← Int.mul_assoc]
def cM (xs : List Int) : Int := if expB xs = true then (lcmL 1 xs).getD 0 else 0
def cB (xs : List Int) : Bool := expB xs && (lcmL 1 xs).isSome
theorem c_no {xs : List Int} (h : expB xs = false) : cM xs = 0 ∧ cB xs = false := by simp [cM, cB, h]
theorem c_none {xs : List Int} (h : lcmL 1 xs = none) : cM xs = 0 ∧ cB xs = false := by simp [cM, cB, h]
theorem c_some {xs : List Int} {m : Int} (h1 : expB xs = true) (h : lcmL 1 xs = some m) : cM xs = m ∧ cB xs = true := by simp [cM, cB, h, h1]

set_option maxHeartbeats 2000000 in
theorem common_any (w : World) (Axs : Option Addr) (cxs : Nat) (xs : List Int) (hxs : Reads w Axs xs) (lxs : xs.length ≤ 1048576) (r64 : ∀ (i : Nat) (x : Int), xs[i]? = some x → -9223372036854775808 ≤ x ∧ x ≤ 9223372036854775807) :
    Calls Try.prog 24 #[.slice Axs xs.length cxs] w (Ret (.tuple #[.int .i64 (cM xs), .bool (cB xs)]) w) := by
  have Hr64 := Lib.hid r64
  have Hxs := Lib.hid hxs
  clear hxs r64
  cases he : expB xs with
  | false =>
    have Hc := Lib.hid (c_no he)
    go_enter Try.func24, Try.ntmps24
    go_wp2_with (go_at_call 49; refine (isExpansion_any _ _ _ _ Hxs.out lxs Hr64.out).mono ?_; rintro e w1 ⟨rfl, hb1⟩; obtain ⟨hc1, hf1⟩ := bcellB hb1; have hz1 := hb1.size; (try simp only [World.size_alloc, World.size_setCell, World.size_drew, World.heap_drewN] at hc1 hf1 hz1); (try have hy1_r_0 : wr.heap.size < w1.heap.size := by omega); (try have hn1_r_0 : wr.heap.size ≠ w1.heap.size := by omega); (try have hm1_r_0 : w1.heap.size ≠ wr.heap.size := by omega); (try have hy1_r_1 : wr.heap.size + 1 < w1.heap.size := by omega); (try have hn1_r_1 : wr.heap.size + 1 ≠ w1.heap.size := by omega); (try have hm1_r_1 : w1.heap.size ≠ wr.heap.size + 1 := by omega); (try have hy1_r_2 : wr.heap.size + 1 + 1 < w1.heap.size := by omega); (try have hp1_r_1 : wr.heap.size < w1.heap.size + 1 := by omega); (try have hp1_r_2 : wr.heap.size < w1.heap.size + 1 + 1 := by omega); (try have hy1_0_0 : w.heap.size < w1.heap.size := by omega); (try have hn1_0_0 : w.heap.size ≠ w1.heap.size := by omega); (try have hm1_0_0 : w1.heap.size ≠ w.heap.size := by omega); (try have hy1_0_1 : w.heap.size + 1 < w1.heap.size := by omega); (try have hn1_0_1 : w.heap.size + 1 ≠ w1.heap.size := by omega); (try have hm1_0_1 : w1.heap.size ≠ w.heap.size + 1 := by omega); (try have hy1_0_2 : w.heap.size + 1 + 1 < w1.heap.size := by omega); (try have hp1_0_1 : w.heap.size < w1.heap.size + 1 := by omega); (try have hp1_0_2 : w.heap.size < w1.heap.size + 1 + 1 := by omega); (try have hg1_g1 : g1 < w1.heap.size := by omega); (try have hi1_g1 : g1 ≠ w1.heap.size := by omega); (try have hj1_g1 : w1.heap.size ≠ g1 := by omega); (try have hk1_g1 : g1 < w1.heap.size + 1 := by omega); (try have hg1_g2 : g2 < w1.heap.size := by omega); (try have hi1_g2 : g2 ≠ w1.heap.size := by omega); (try have hj1_g2 : w1.heap.size ≠ g2 := by omega); (try have hk1_g2 : g2 < w1.heap.size + 1 := by omega))
    go_ret2
    exact ⟨ret_ib Hc.out.1.symm Hc.out.2.symm, by (repeat' (first | (with_reducible exact Below.refl _ _) | (with_reducible assumption) | (with_reducible refine Below.drew ?_) | (with_reducible refine belowDrewN ?_ _) | (with_reducible refine Below.alloc ?_ ?_ _) | (with_reducible refine Below.setCell ?_ ?_ _) | (with_reducible refine belowStep (by assumption) ?_ ?_) | (with_reducible exact Below.size (by assumption)) | go_size))⟩
  | true =>
    have He := Lib.hid he
    have Hin := Lib.hid (rise_in (expB_parts he).2.1)
    go_enter Try.func24, Try.ntmps24
    go_wp2_with (go_at_call 49; refine (isExpansion_any _ _ _ _ Hxs.out lxs Hr64.out).mono ?_; rintro e w1 ⟨rfl, hb1⟩; obtain ⟨hc1, hf1⟩ := bcellB hb1; have hz1 := hb1.size; (try simp only [World.size_alloc, World.size_setCell, World.size_drew, World.heap_drewN] at hc1 hf1 hz1); (try have hy1_r_0 : wr.heap.size < w1.heap.size := by omega); (try have hn1_r_0 : wr.heap.size ≠ w1.heap.size := by omega); (try have hm1_r_0 : w1.heap.size ≠ wr.heap.size := by omega); (try have hy1_r_1 : wr.heap.size + 1 < w1.heap.size := by omega); (try have hn1_r_1 : wr.heap.size + 1 ≠ w1.heap.size := by omega); (try have hm1_r_1 : w1.heap.size ≠ wr.heap.size + 1 := by omega); (try have hy1_r_2 : wr.heap.size + 1 + 1 < w1.heap.size := by omega); (try have hp1_r_1 : wr.heap.size < w1.heap.size + 1 := by omega); (try have hp1_r_2 : wr.heap.size < w1.heap.size + 1 + 1 := by omega); (try have hy1_0_0 : w.heap.size < w1.heap.size := by omega); (try have hn1_0_0 : w.heap.size ≠ w1.heap.size := by omega); (try have hm1_0_0 : w1.heap.size ≠ w.heap.size := by omega); (try have hy1_0_1 : w.heap.size + 1 < w1.heap.size := by omega); (try have hn1_0_1 : w.heap.size + 1 ≠ w1.heap.size := by omega); (try have hm1_0_1 : w1.heap.size ≠ w.heap.size + 1 := by omega); (try have hy1_0_2 : w.heap.size + 1 + 1 < w1.heap.size := by omega); (try have hp1_0_1 : w.heap.size < w1.heap.size + 1 := by omega); (try have hp1_0_2 : w.heap.size < w1.heap.size + 1 + 1 := by omega); (try have hg1_g1 : g1 < w1.heap.size := by omega); (try have hi1_g1 : g1 ≠ w1.heap.size := by omega); (try have hj1_g1 : w1.heap.size ≠ g1 := by omega); (try have hk1_g1 : g1 < w1.heap.size + 1 := by omega); (try have hg1_g2 : g2 < w1.heap.size := by omega); (try have hi1_g2 : g2 ≠ w1.heap.size := by omega); (try have hj1_g2 : w1.heap.size ≠ g2 := by omega); (try have hk1_g2 : g2 < w1.heap.size + 1 := by omega))
    go_loopw [4, 12] (fun v4 v12 wr => ∃ (k : Nat) (m : Int), k ≤ xs.length ∧ v4 = .int .i64 m ∧ v12 = .int .i64 k ∧ 1 ≤ m ∧ m ≤ 1000000000 ∧ lcmL 1 xs = lcmL m (xs.drop k) ∧ Below w.heap.size w wr) (fun _ v12 _ => xs.length - (intOf v12).toNat)
    case atStart => exact ⟨0, 1, Nat.zero_le _, rfl, rfl, by omega, by omega, rfl, by (repeat' (first | (with_reducible exact Below.refl _ _) | (with_reducible assumption) | (with_reducible refine Below.drew ?_) | (with_reducible refine belowDrewN ?_ _) | (with_reducible refine Below.alloc ?_ ?_ _) | (with_reducible refine Below.setCell ?_ ?_ _) | (with_reducible refine belowStep (by assumption) ?_ ?_) | (with_reducible exact Below.size (by assumption)) | go_size))⟩
    case round =>
      obtain ⟨k, m, hk, rfl, rfl, m1, m2, hm, hbr⟩ := hrel
      have Hm := Lib.hid hm
      clear hm
      by_cases hlt : k < xs.length
      · obtain ⟨b, o, x, rfl, hb, hx, hcell⟩ := (Hxs.out.below hbr).at_ hlt
        obtain ⟨x1, x2⟩ := Hin.out k x hx
        have Hx := Lib.hid hx
        clear hx
        have g1 := gcdI_pos m x (by omega)
        have g2 := gcdI_leR m x (by omega)
        have q1 : 1 ≤ x / gcdI m x := div_pos1 x1 (by omega) (gcdI_dvdR m x)
        have q2 : x / gcdI m x ≤ 1000000000 := by have := Int.ediv_le_self (gcdI m x) (by omega : 0 ≤ x); omega
        have p1 := mul_bounds (by omega : 0 ≤ m) m2 (by omega : 0 ≤ x / gcdI m x) q2
        have p2 := mul_pos1 m1 q1
        by_cases hle : m * (x / gcdI m x) ≤ 1000000000
        · go_wp2_with (go_at_call 50; refine (commonDivisor_any _ _ _ (by omega) (by omega) (by omega) (by omega)).mono ?_; rintro e w1 ⟨rfl, k1, rfl⟩)
          go_roundw
          case rel => exact ⟨k + 1, m * (x / gcdI m x), by omega, rfl, by go_num, p2, hle, by rw [Hm.out, drop_at Hx.out, lcmL_yes hle], by (repeat' (first | (with_reducible exact Below.refl _ _) | (with_reducible assumption) | (with_reducible refine Below.drew ?_) | (with_reducible refine belowDrewN ?_ _) | (with_reducible refine Below.alloc ?_ ?_ _) | (with_reducible refine Below.setCell ?_ ?_ _) | (with_reducible refine belowStep (by assumption) ?_ ?_) | (with_reducible exact Below.size (by assumption)) | go_size))⟩
          case measure => simp [intOf]; omega
        · have Hn : Hid (lcmL 1 xs = none) := by
            have := Hm.out
            rw [drop_at Hx.out, lcmL_no hle] at this
            exact this
          go_wp2_with (go_at_call 50; refine (commonDivisor_any _ _ _ (by omega) (by omega) (by omega) (by omega)).mono ?_; rintro e w1 ⟨rfl, k1, rfl⟩)
          go_ret2
          exact ⟨ret_ib (c_none Hn.out).1.symm (c_none Hn.out).2.symm, by (repeat' (first | (with_reducible exact Below.refl _ _) | (with_reducible assumption) | (with_reducible refine Below.drew ?_) | (with_reducible refine belowDrewN ?_ _) | (with_reducible refine Below.alloc ?_ ?_ _) | (with_reducible refine Below.setCell ?_ ?_ _) | (with_reducible refine belowStep (by assumption) ?_ ?_) | (with_reducible exact Below.size (by assumption)) | go_size))⟩
      · obtain rfl : k = xs.length := by omega
        rw [drop_all] at Hm
        have Hc := Lib.hid (c_some He.out Hm.out)
        go_wp2
        go_ret2
        exact ⟨ret_ib Hc.out.1.symm Hc.out.2.symm, by (repeat' (first | (with_reducible exact Below.refl _ _) | (with_reducible assumption) | (with_reducible refine Below.drew ?_) | (with_reducible refine belowDrewN ?_ _) | (with_reducible refine Below.alloc ?_ ?_ _) | (with_reducible refine Below.setCell ?_ ?_ _) | (with_reducible refine belowStep (by assumption) ?_ ?_) | (with_reducible exact Below.size (by assumption)) | go_size))⟩

end Go.Proofs.Ytbjblkfibinenad


/-
  Contracts of IsPractical in the model, and of UnreachedOf.
-/
namespace Go.Proofs.Ytbjblkfibinenad
open Go.RowKit
theorem asc_rev (N : Nat) : (asc N N).reverse = dsc N N := by unfold asc; exact List.reverse_reverse _
def unO (n : Int) : Option Nat := (brO n).map (fun x => sig x.2 + 1)
def unV (o : Option Nat) : Value := .tuple #[.int .i64 ((o.getD 0 : Nat) : Int), .bool o.isSome]
theorem unO_no {n : Int} (h : brO n = none) : unO n = none := by unfold unO; rw [h]; rfl
theorem unO_yes {n : Int} {q k : Nat} (h : brO n = some (q, k)) : unO n = some (sig k + 1) := by unfold unO; rw [h]; rfl
end Go.Proofs.Ytbjblkfibinenad


/-
  For all bytes: expansions over numbers have the fraction as their sum and terms that divide the number, the least number is told, the common multiple of the terms divides it, and practical expansions have the fraction as their sum. No condition.
-/
namespace Go.Proofs.Ytbjblkfibinenad
open Go.ChangeShapes Go.WideShapes Go.ChangeAt Go.RowKit Go.Joins Go.Deep
theorem ovT_sum {N : Nat} (h1 : 1 ≤ N) : ∀ {l : List Nat}, (∀ d ∈ l, 1 ≤ d ∧ d ∣ N) → sumQ (ovT N l) = rq (l.sum : Nat) (N : Int)
  | [], _ => by
    show (0 : Rat) = rq 0 N
    unfold rq
    simp only [Rat.intCast_zero]
    grind
  | d :: l, h => by
    have ih := ovT_sum h1 (l := l) (fun x hx => h x (by simp [hx]))
    obtain ⟨hd, hdN⟩ := h d (by simp)
    have hq : 1 ≤ N / d := Nat.div_pos (Nat.le_of_dvd h1 hdN) hd
    have he : (N / d) * d = N := Nat.div_mul_cancel hdN
    have hN := ne0 (d := (N : Int)) (by omega)
    have hQ := ne0 (d := ((N / d : Nat) : Int)) (by omega)
    have h3 : (((N / d : Nat) : Int) : Rat) * ((d : Int) : Rat) = ((N : Int) : Rat) := by
      have : ((N / d : Nat) : Int) * (d : Int) = (N : Int) := by rw [← Int.natCast_mul, he]
      exact_mod_cast congrArg (fun x : Int => (x : Rat)) this
    show 1 / (((N / d : Nat) : Int) : Rat) + sumQ (ovT N l) = _
    rw [ih]
    unfold rq
    rw [List.sum_cons]
    rw [show (((d + l.sum : Nat)) : Int) = (d : Int) + ((l.sum : Nat) : Int) from by omega]
    simp only [Rat.intCast_add]
    generalize (((N / d : Nat) : Int) : Rat) = q at *
    generalize ((d : Int) : Rat) = dd at *
    generalize ((N : Int) : Rat) = nn at *
    grind
/-- what an expansion over a number is -/
theorem ovO_facts {n d N : Int} {ts : List Int} (h : ovO n d N = some ts) : expB ts = true ∧ eN ts = n ∧ eD ts = d ∧ ∃ M : Nat, N = (M : Int) ∧ 1 ≤ M ∧ M ≤ 2000 ∧ ∀ t ∈ ts, ∃ u : Nat, t = (u : Int) ∧ 1 ≤ u ∧ u ∣ M := by
  have h0 := h
  unfold ovO at h
  split at h
  · rename_i hc
    obtain ⟨hg, hn, hr⟩ := hc
    obtain ⟨M, rfl, m1, m2⟩ := numB_nat hn
    obtain ⟨g1, g2, g3, g4⟩ := good_bounds hg
    obtain ⟨a, rfl⟩ := Int.eq_ofNat_of_zero_le g1
    obtain ⟨D, rfl⟩ := Int.eq_ofNat_of_zero_le (show 0 ≤ d by omega)
    have hD1 : 1 ≤ D := by omega
    have hmod : M % D = 0 := by
      have : ((M % D : Nat) : Int) = 0 := by rw [Int.natCast_emod]; exact hr
      omega
    obtain ⟨q1, q2, q3, q4⟩ := quo_of m1 hD1 hmod
    have hS : (M : Int) / (D : Int) * (a : Int) = ((M / D * a : Nat) : Int) := by rw [q4, Int.natCast_mul]
    rw [hS] at h
    cases hdf : dfO (M : Int) ((M / D * a : Nat) : Int) with
    | none => rw [hdf] at h; cases h
    | some l =>
      rw [hdf, Option.bind_some] at h
      split at h
      · rename_i he
        injection h with h
        subst h
        have hl : l = pick (dsc M M) (M / D * a) ∧ 0 < ways (dsc M M) (M / D * a) := by
          unfold dfO at hdf
          split at hdf
          · rename_i hx
            injection hdf with hdf
            exact ⟨hdf.symm, hx.2.2⟩
          · cases hdf
        have hmem : ∀ x ∈ l, 1 ≤ x ∧ x ∣ M := fun x hx => by
          rw [hl.1] at hx
          have := (dsc_mem M M x).1 ((pick_sub _ _).subset hx)
          exact ⟨this.1, Nat.dvd_of_mod_eq_zero this.2.2⟩
        have hsum : l.sum = M / D * a := by rw [hl.1]; exact pick_sum _ hl.2
        have he' : expB (ovT M l) = true := he
        have hq : sumQ (ovT M l) = rq (a : Int) (D : Int) := by
          rw [ovT_sum m1 hmem, hsum]
          refine rq_eq (by omega) (by omega) ?_
          have hmd : M / D * D = M := Nat.div_mul_cancel (Nat.dvd_of_mod_eq_zero hmod)
          have : (M / D * a) * D = a * M := by rw [Nat.mul_right_comm, hmd, Nat.mul_comm]
          exact_mod_cast congrArg (fun x : Nat => (x : Int)) this
        have hs := good_same (good_sum he') hg (by rw [sum_q he', hq])
        refine ⟨he', by show eN (ovT M l) = _; rw [eN, if_pos he']; exact hs.1, by show eD (ovT M l) = _; rw [eD, if_pos he']; exact hs.2, M, rfl, m1, m2, fun t ht => ?_⟩
        have ht' : t ∈ ovT M l := ht
        unfold ovT ints at ht'
        rw [List.map_map] at ht'
        obtain ⟨x, hx, rfl⟩ := List.mem_map.1 ht'
        obtain ⟨x1, x2⟩ := hmem x hx
        exact ⟨M / x, rfl, Nat.div_pos (Nat.le_of_dvd m1 x2) x1, Nat.div_dvd_of_dvd x2⟩
      · cases h
  · cases h
theorem fst_some {p : Nat → Bool} : ∀ {f m N : Nat}, m ≤ N → N < m + f → p N = true → (fstF p f m).isSome = true
  | 0, m, N, h1, h2, _ => by omega
  | f + 1, m, N, h1, h2, h3 => by
    by_cases hm : p m = true
    · rw [fstF_yes hm]; rfl
    · rw [fstF_no hm]
      have : m ≠ N := fun e => hm (e ▸ h3)
      exact fst_some (N := N) (by omega) (by omega) h3
theorem peO_facts {n d : Int} {ts : List Int} (h : peO n d = some ts) : expB ts = true ∧ eN ts = n ∧ eD ts = d ∧ (loO n d).isSome = true := by
  unfold peO at h
  split at h
  · rename_i hb
    cases hf : fstF (pxP d.toNat) 2000 1 with
    | none => rw [hf] at h; cases h
    | some N =>
      rw [hf, Option.bind_some] at h
      obtain ⟨a, b, c, M, e, m1, m2, _⟩ := ovO_facts h
      refine ⟨a, b, c, ?_⟩
      rw [loO_yes (belowB_yes hb).1]
      have : N = M := by omega
      subst this
      exact fst_some (N := N) m1 (by omega) (by unfold ovP; rw [h]; rfl)
  · cases h
theorem nxV_some {o : Option Nat} (h : o.isSome = true) : nxV o = .tuple #[.int .i64 ((o.getD 0 : Nat) : Int), .bool true] := by unfold nxV; rw [h]
theorem loO_facts {n d : Int} {m : Nat} (h : loO n d = some m) : 1 ≤ m ∧ m ≤ 2000 ∧ ∃ ts, ovO n d (m : Int) = some ts ∧ expB ts = true ∧ ∀ t ∈ ts, ∃ u : Nat, t = (u : Int) ∧ 1 ≤ u ∧ u ∣ m := by
  unfold loO at h
  split at h
  · obtain ⟨a, b, c⟩ := fstF_mem h
    unfold ovP at c
    cases ho : ovO n d (m : Int) with
    | none => rw [ho] at c; cases c
    | some ts =>
      obtain ⟨f1, f2, f3, M, e, m1, m2, f4⟩ := ovO_facts ho
      have : m = M := by omega
      subst this
      exact ⟨m1, m2, ts, rfl, f1, f4⟩
  · cases h
theorem lcm_fit {m : Nat} (hm : 1 ≤ m) (hm2 : m ≤ 2000) : ∀ {ts : List Int} {r : Int}, 1 ≤ r → r ∣ (m : Int) → (∀ t ∈ ts, ∃ u : Nat, t = (u : Int) ∧ 1 ≤ u ∧ u ∣ m) → ∃ q : Nat, lcmL r ts = some (q : Int) ∧ 1 ≤ q ∧ q ∣ m
  | [], r, h1, h2, _ => by
    obtain ⟨q, rfl⟩ := Int.eq_ofNat_of_zero_le (show 0 ≤ r by omega)
    exact ⟨q, rfl, by omega, by exact_mod_cast h2⟩
  | t :: ts, r, h1, h2, h => by
    obtain ⟨u, rfl, u1, u2⟩ := h t (by simp)
    have hg := gcdI_pos r (u : Int) (by omega)
    have hdiv : r * ((u : Int) / gcdI r u) ∣ (m : Int) := by
      obtain ⟨x, hx⟩ := h2
      have hu : (u : Int) ∣ (m : Int) := by exact_mod_cast u2
      obtain ⟨y, hy⟩ := hu
      have hred := gcdI_red (n := r) (d := (u : Int)) (by omega)
      obtain ⟨a, ha⟩ := gcdI_dvdL r (u : Int)
      obtain ⟨b, hb⟩ := gcdI_dvdR r (u : Int)
      generalize gcdI r (u : Int) = g at *
      have ea : r / g = a := by rw [ha, Int.mul_ediv_cancel_left _ (by omega)]
      have eb : (u : Int) / g = b := by rw [hb, Int.mul_ediv_cancel_left _ (by omega)]
      rw [ea, eb] at hred
      rw [eb]
      have e2 : a * x = b * y := by
        have : g * (a * x) = g * (b * y) := by rw [← Int.mul_assoc, ← Int.mul_assoc, ← ha, ← hb, ← hx, ← hy]
        exact Int.eq_of_mul_eq_mul_left (by omega) this
      have hbx : b ∣ x := dvd_cop hred ⟨y, e2⟩
      obtain ⟨z, hz⟩ := hbx
      exact ⟨z, by rw [hx, hz, Int.mul_assoc]⟩
    have hle := Int.le_of_dvd (by omega) hdiv
    have hq1 : 1 ≤ (u : Int) / gcdI r u := div_pos1 (by omega) hg (gcdI_dvdR r u)
    have hp := mul_pos1 h1 hq1
    rw [lcmL_yes (by omega)]
    exact lcm_fit hm hm2 hp hdiv (fun x hx => h x (by simp [hx]))
theorem com_facts {m : Nat} {ts : List Int} (he : expB ts = true) (h : ∀ t ∈ ts, ∃ u : Nat, t = (u : Int) ∧ 1 ≤ u ∧ u ∣ m) (m1 : 1 ≤ m) (m2 : m ≤ 2000) : ∃ r : Nat, cM ts = (r : Int) ∧ cB ts = true ∧ 1 ≤ r ∧ m % r = 0 := by
  obtain ⟨q, hq, q1, q2⟩ := lcm_fit m1 m2 (r := 1) (by omega) ⟨(m : Int), by omega⟩ h
  obtain ⟨c1, c2⟩ := c_some he hq
  exact ⟨q, c1, c2, q1, Nat.mod_eq_zero_of_dvd q2⟩
set_option maxHeartbeats 2000000 in
theorem zSame_any (w : World) (A B : Option Addr) (c d : Nat) (xs ys : List Int) (ha : Reads w A xs) (hb : Reads w B ys) (hl : xs.length ≤ 1048576) (_ : ys.length ≤ 1048576) :
    Calls Try.prog 21 #[.slice A xs.length c, .slice B ys.length d] w (RetQ (.bool (decide (xs = ys))) w) := by
  have HA := Lib.hid ha
  have HB := Lib.hid hb
  clear ha hb
  by_cases hlen : xs.length = ys.length
  · have h1 : xs.length ≤ ys.length := by omega
    have h2 : ys.length ≤ xs.length := by omega
    have Hlen := Lib.hid hlen
    have hne : (((xs.length : Nat) : Int) != ((ys.length : Nat) : Int)) = false := by simp; omega
    clear hlen
    go_enter Try.func21, Try.ntmps21
    go_wp2
    go_loopw [13] (fun v13 wr => ∃ k : Nat, k ≤ xs.length ∧ v13 = .int .i64 k ∧ xs.take k = ys.take k ∧ ∃ n, wr = w.drewN n) (fun v13 _ => xs.length - (intOf v13).toNat)
    case atStart => exact ⟨0, Nat.zero_le _, rfl, by simp, 0, rfl⟩
    case round =>
      obtain ⟨k, hk, rfl, ht, n, rfl⟩ := hrel
      have HT := Lib.hid ht
      clear ht
      by_cases hlt : k < xs.length
      · obtain ⟨b, o, x, rfl, _, hx, hcell⟩ := HA.out.at_ hlt
        obtain ⟨b', o', y, rfl, _, hy, hcell'⟩ := HB.out.at_ (show k < ys.length by omega)
        have hki : (k : Int) < (xs.length : Int) := by omega
        have hki2 : (k : Int) < (ys.length : Int) := by omega
        by_cases hxy : x = y
        · subst hxy
          have HT2 : Hid (xs.take (k + 1) = ys.take (k + 1)) := Lib.hid (by
            rw [List.take_add_one, List.take_add_one, HT.out, hx, hy])
          clear hx hy
          go_wp2
          go_quiet (fail)
          go_wp2
          go_roundw
          case rel => exact ⟨k + 1, by omega, by go_num, HT2.out, _, rfl⟩
          case measure => simp [intOf]; omega
        · have E : Hid (decide (xs = ys) = false) := Lib.hid (by
            refine decide_eq_false fun e => hxy ?_
            rw [e, hy] at hx
            injection hx with hx
            exact hx.symm)
          have hnb : (x != y) = true := by simp [hxy]
          clear hx hy hxy
          go_wp2
          go_quiet (fail)
          go_wp2
          go_ret
          exact ⟨ret_bool E.out.symm, _, World.drewN_drewN _ _ _⟩
      · obtain rfl : k = xs.length := by omega
        have E : Hid (decide (xs = ys) = true) := Lib.hid (by
          refine decide_eq_true ?_
          have := HT.out
          rw [List.take_length, Hlen.out, List.take_length] at this
          exact this)
        go_wp2
        go_ret
        exact ⟨ret_bool E.out.symm, n, rfl⟩
  · have E : Hid (decide (xs = ys) = false) := Lib.hid (decide_eq_false fun e => hlen (by rw [e]))
    have hne : (((xs.length : Nat) : Int) != ((ys.length : Nat) : Int)) = true := by simp; omega
    clear hlen
    go_enter Try.func21, Try.ntmps21
    go_wp2
    go_ret
    exact ⟨ret_bool E.out.symm, 0, rfl⟩
set_option maxRecDepth 100000 in
set_option maxHeartbeats 16000000 in
theorem eo_whole (w : World) (A : Option Addr) (c n : Nat) (B : Option Addr) (d m' : Nat) (hbig : bigB n m' = false) (hn2 : n ≤ 1048576) (hm2 : m' ≤ 1048576)
    (hdr : ∀ w', Below w.heap.size w w' → Calls Try.prog 20 #[.slice A n c] w' (DrawFN w'))
    (hdr2 : ∀ w', Below w.heap.size w w' → Calls Try.prog 23 #[.slice B m' d] w' (DrawFr w'))
    (hdr3 : ∀ w', Below w.heap.size w w' → Calls Try.prog 25 #[.slice B m' d] w' (DrawFr w')) :
    Calls Try.prog 6 #[.slice A n c, .slice B m' d] w (Ret (.bool true) w) := by
  have HDR := Lib.hid hdr
  have HDR2 := Lib.hid hdr2
  have HDR3 := Lib.hid hdr3
  have hn : n ≤ 9223372036854775807 := by omega
  have hm' : m' ≤ 9223372036854775807 := by omega
  clear hdr hdr2 hdr3
  go_enter Try.func6, Try.ntmps6
  go_wp2_with fail
  refine (big_any _ _ _ _ _ _ _ hn hm').mono ?_; rintro e w1 ⟨rfl, k1, rfl⟩
  rw [hbig]
  clear hbig
  go_wp2_with fail
  refine (HDR.out _ (by (repeat' (first | (with_reducible exact Below.refl _ _) | (with_reducible assumption) | (with_reducible refine Below.drew ?_) | (with_reducible refine belowDrewN ?_ _) | (with_reducible refine Below.alloc ?_ ?_ _) | (with_reducible refine Below.setCell ?_ ?_ _) | (with_reducible refine belowStep (by assumption) ?_ ?_) | (with_reducible exact Below.size (by assumption)) | go_size)))).mono ?_; rintro e w2 ⟨a, b, N, rfl, ha, hb, hN0, hN1, hb2⟩
  have hz2 := hb2.size
  (try simp only [World.heap_drewN] at hz2)
  have TG := Lib.hid (TwoAt.new w2 (a) (b) 27)
  have hlen := ovO_len a b N
  have EX1 : Hid (∀ w, Calls Try.prog 11 #[.agg #[.int .i64 a, .int .i64 b], .int .i64 N] w (RetLB ((ovO a b N).getD []) (ovO a b N).isSome w)) := Lib.hid fun w => expandOver_any a b N w ha hb
  have EX0 : Hid (∀ w, Calls Try.prog 9 #[.agg #[.int .i64 a, .int .i64 b], .int .i64 N] w (RetRB ((ovO a b N).getD []) (ovO a b N).isSome w)) := Lib.hid fun w => spec_expandOver_any a b N w
  cases ho : ovO a b N with
  | none =>
    rw [ho] at EX1 EX0
    simp only [Option.getD_none, Option.isSome_none] at EX1 EX0
    clear ho hlen
    obtain ⟨oG1, oG2, oG3, oG4, oG5⟩ := TG.out
    go_wp2_with fail
    refine (EX1.out _).mono ?_; rintro e w5 ⟨v5, rfl, ho5, hb5⟩; have hz5 := hb5.size; (try simp only [World.size_alloc] at hz5)
    clear oG1 oG2 oG3 oG4 oG5
    have TG := Lib.hid (TG.out.below hb5)
    obtain ⟨A5, c5, rfl, hr5⟩ := ho5.form
    clear ho5 hr5
    obtain ⟨oG1, oG2, oG3, oG4, oG5⟩ := TG.out
    go_wp2_with fail
    refine (EX0.out _).mono ?_; rintro e w6 ⟨A6, c6, rfl, hr6, hb6⟩; have hz6 := hb6.size; (try simp only [World.size_alloc, World.size_setCell, World.size_drew, World.heap_drewN] at hz6)
    clear oG1 oG2 oG3 oG4 oG5
    go_wp2_with fail
    refine (zSame_any _ A5 A6 c5 c6 [] [] Reads.nil Reads.nil (by simp) (by simp)).mono ?_; rintro e w7 ⟨rfl, k7, rfl⟩
    go_wp2_with fail
    refine (HDR2.out _ (by (repeat' (first | (with_reducible exact Below.refl _ _) | (with_reducible assumption) | (with_reducible refine Below.drew ?_) | (with_reducible refine belowDrewN ?_ _) | (with_reducible refine Below.alloc ?_ ?_ _) | (with_reducible refine Below.setCell ?_ ?_ _) | (with_reducible refine belowStep (by assumption) ?_ ?_) | (with_reducible exact Below.size (by assumption)) | go_size)))).mono ?_; rintro e w21 ⟨p2, q2, rfl, hp2, hq2, hb21⟩
    have hz21 := hb21.size; (try simp only [World.heap_drewN] at hz21)
    have hbw21 : Below w.heap.size w w21 := by (repeat' (first | (with_reducible exact Below.refl _ _) | (with_reducible assumption) | (with_reducible refine Below.drew ?_) | (with_reducible refine belowDrewN ?_ _) | (with_reducible refine Below.alloc ?_ ?_ _) | (with_reducible refine Below.setCell ?_ ?_ _) | (with_reducible refine belowStep (by assumption) ?_ ?_) | (with_reducible exact Below.size (by assumption)) | go_size))
    have TH := Lib.hid (TwoAt.new w21 (p2) (q2) 27)
    have LO1 := Lib.hid fun (w : World) => leastOver_any p2 q2 w hp2 hq2
    have LO2 := Lib.hid fun (w : World) => spec_leastOver_any p2 q2 w
    cases hlo : loO p2 q2 with
    | none =>
      rw [hlo] at LO1 LO2
      unfold nxV at LO1 LO2
      simp only [Option.getD_none, Option.isSome_none] at LO1 LO2
      clear hlo
      obtain ⟨oH1, oH2, oH3, oH4, oH5⟩ := TH.out
      go_wp2_with fail
      refine (LO1.out _).mono ?_; rintro e w22 ⟨rfl, hb22⟩; have hz22 := hb22.size; (try simp only [World.size_alloc] at hz22)
      clear oH1 oH2 oH3 oH4 oH5
      have TH := Lib.hid (TH.out.below hb22)
      obtain ⟨oH1, oH2, oH3, oH4, oH5⟩ := TH.out
      go_wp2_with fail
      refine (LO2.out _).mono ?_; rintro e w23 ⟨rfl, hb23⟩; have hz23 := hb23.size; (try simp only [World.size_alloc, World.size_setCell, World.size_drew, World.heap_drewN] at hz23)
      clear oH1 oH2 oH3 oH4 oH5
      go_wp2_with fail
      refine (HDR3.out _ (by (repeat' (first | (with_reducible exact Below.refl _ _) | (with_reducible assumption) | (with_reducible refine Below.drew ?_) | (with_reducible refine belowDrewN ?_ _) | (with_reducible refine Below.alloc ?_ ?_ _) | (with_reducible refine Below.setCell ?_ ?_ _) | (with_reducible refine belowStep (by assumption) ?_ ?_) | (with_reducible exact Below.size (by assumption)) | go_size)))).mono ?_; rintro e w31 ⟨p3, q3, rfl, hp3, hq3, hb31⟩
      have hz31 := hb31.size; (try simp only [World.size_alloc, World.size_setCell, World.size_drew, World.heap_drewN] at hz31)
      have hbw31 : Below w.heap.size w w31 := by (repeat' (first | (with_reducible exact Below.refl _ _) | (with_reducible assumption) | (with_reducible refine Below.drew ?_) | (with_reducible refine belowDrewN ?_ _) | (with_reducible refine Below.alloc ?_ ?_ _) | (with_reducible refine Below.setCell ?_ ?_ _) | (with_reducible refine belowStep (by assumption) ?_ ?_) | (with_reducible exact Below.size (by assumption)) | go_size))
      have TK := Lib.hid (TwoAt.new w31 (p3) (q3) 27)
      have hlp := peO_len p3 q3
      have PX1 : Hid (∀ w, Calls Try.prog 18 #[.agg #[.int .i64 p3, .int .i64 q3]] w (RetLB ((peO p3 q3).getD []) (peO p3 q3).isSome w)) := Lib.hid fun w => practicalExpansion_any p3 q3 w hp3 hq3
      have PX2 : Hid (∀ w, Calls Try.prog 17 #[.agg #[.int .i64 p3, .int .i64 q3]] w (RetRB ((peO p3 q3).getD []) (peO p3 q3).isSome w)) := Lib.hid fun w => spec_practicalExpansion_any p3 q3 w
      have LO3 := Lib.hid fun (w : World) => leastOver_any p3 q3 w hp3 hq3
      cases hpe : peO p3 q3 with
      | none =>
        rw [hpe] at PX1 PX2
        simp only [Option.getD_none, Option.isSome_none] at PX1 PX2
        clear hpe hlp LO3
        obtain ⟨oK1, oK2, oK3, oK4, oK5⟩ := TK.out
        go_wp2_with fail
        refine (PX1.out _).mono ?_; rintro e w32 ⟨v32, rfl, ho32, hb32⟩; have hz32 := hb32.size; (try simp only [World.size_alloc] at hz32)
        clear oK1 oK2 oK3 oK4 oK5
        have TK := Lib.hid (TK.out.below hb32)
        obtain ⟨A32, c32, rfl, hr32⟩ := ho32.form
        have R32 := Lib.hid hr32
        clear ho32 hr32
        obtain ⟨oK1, oK2, oK3, oK4, oK5⟩ := TK.out
        go_wp2_with fail
        refine (PX2.out _).mono ?_; rintro e w33 ⟨A33, c33, rfl, hr33, hb33⟩; have hz33 := hb33.size; (try simp only [World.size_alloc, World.size_setCell, World.size_drew, World.heap_drewN] at hz33)
        clear oK1 oK2 oK3 oK4 oK5
        go_wp2_with fail
        refine (zSame_any _ A32 A33 c32 c33 [] [] Reads.nil Reads.nil (by simp) (by simp)).mono ?_; rintro e w34 ⟨rfl, k34, rfl⟩
        go_wp2
        go_ret
        exact ⟨rfl, by (repeat' (first | (with_reducible exact Below.refl _ _) | (with_reducible assumption) | (with_reducible refine Below.drew ?_) | (with_reducible refine belowDrewN ?_ _) | (with_reducible refine Below.alloc ?_ ?_ _) | (with_reducible refine Below.setCell ?_ ?_ _) | (with_reducible refine belowStep (by assumption) ?_ ?_) | (with_reducible exact Below.size (by assumption)) | go_size))⟩
      | some ts =>
        obtain ⟨f1, f2, f3, f4⟩ := peO_facts hpe
        rw [hpe] at PX1 PX2 hlp
        rw [nxV_some f4] at LO3
        simp only [Option.getD_some, Option.isSome_some] at PX1 PX2 hlp
        have h64 := Lib.hid (fun (i : Nat) (x : Int) (hx : ts[i]? = some x) => by have := expB_small f1 x (List.mem_of_getElem? hx); exact (show -9223372036854775808 ≤ x ∧ x ≤ 9223372036854775807 by omega))
        have SU : Hid (∀ w A c, Reads w A ts → Calls Try.prog 22 #[.slice A ts.length c] w (Ret (.tuple #[.agg #[.int .i64 p3, .int .i64 q3], .bool true]) w)) := Lib.hid fun w A c h => by
          have := sumOf_any w A c ts h (by omega) h64.out
          rwa [f2, f3, f1] at this
        have HZ : Hid (∀ w A B c d, Reads w A ts → Reads w B ts → Calls Try.prog 21 #[.slice A ts.length c, .slice B ts.length d] w (RetQ (.bool true) w)) := Lib.hid fun w A B c d h h' => by
          have := zSame_any w A B c d ts ts h h' (by omega) (by omega)
          rwa [decide_eq_true rfl] at this
        clear hpe f1 f2 f3 f4 h64
        generalize (((loO p3 q3).getD 0 : Nat) : Int) = lo3 at *
        obtain ⟨oK1, oK2, oK3, oK4, oK5⟩ := TK.out
        go_wp2_with fail
        refine (PX1.out _).mono ?_; rintro e w32 ⟨v32, rfl, ho32, hb32⟩; have hz32 := hb32.size; (try simp only [World.size_alloc] at hz32)
        clear oK1 oK2 oK3 oK4 oK5
        have TK := Lib.hid (TK.out.below hb32)
        obtain ⟨A32, c32, rfl, hr32⟩ := ho32.form
        have R32 := Lib.hid hr32
        clear ho32 hr32
        obtain ⟨oK1, oK2, oK3, oK4, oK5⟩ := TK.out
        go_wp2_with fail
        refine (PX2.out _).mono ?_; rintro e w33 ⟨A33, c33, rfl, hr33, hb33⟩; have hz33 := hb33.size; (try simp only [World.size_alloc, World.size_setCell, World.size_drew, World.heap_drewN] at hz33)
        clear oK1 oK2 oK3 oK4 oK5
        have TK := Lib.hid (TK.out.below hb33)
        have R33 := Lib.hid hr33
        clear hr33
        go_wp2_with fail
        refine (HZ.out _ _ _ _ _ (R32.out.below (by (repeat' (first | (with_reducible exact Below.refl _ _) | (with_reducible assumption) | (with_reducible refine Below.drew ?_) | (with_reducible refine belowDrewN ?_ _) | (with_reducible refine Below.alloc ?_ ?_ _) | (with_reducible refine Below.setCell ?_ ?_ _) | (with_reducible refine belowStep (by assumption) ?_ ?_) | (with_reducible exact Below.size (by assumption)) | go_size)))) R33.out).mono ?_; rintro e w34 ⟨rfl, k34, rfl⟩
        go_wp2_with fail
        refine (SU.out _ _ _ (R32.out.below (by (repeat' (first | (with_reducible exact Below.refl _ _) | (with_reducible assumption) | (with_reducible refine Below.drew ?_) | (with_reducible refine belowDrewN ?_ _) | (with_reducible refine Below.alloc ?_ ?_ _) | (with_reducible refine Below.setCell ?_ ?_ _) | (with_reducible refine belowStep (by assumption) ?_ ?_) | (with_reducible exact Below.size (by assumption)) | go_size))))).mono ?_; rintro e w35 ⟨rfl, hb35⟩; have hz35 := hb35.size; (try simp only [World.heap_drewN] at hz35)
        have TK := Lib.hid (TK.out.below (show Below w33.heap.size w33 w35 by (repeat' (first | (with_reducible exact Below.refl _ _) | (with_reducible assumption) | (with_reducible refine Below.drew ?_) | (with_reducible refine belowDrewN ?_ _) | (with_reducible refine Below.alloc ?_ ?_ _) | (with_reducible refine Below.setCell ?_ ?_ _) | (with_reducible refine belowStep (by assumption) ?_ ?_) | (with_reducible exact Below.size (by assumption)) | go_size))))
        have TV := Lib.hid (TwoAt.new w35 (p3) (q3) 27)
        have TK := Lib.hid (TK.out.below ((Below.refl _ _).alloc (Nat.le_refl _) (.cells #[.int .i64 p3, .int .i64 q3] 27)))
        have hbw35 : Below w.heap.size w w35 := by (repeat' (first | (with_reducible exact Below.refl _ _) | (with_reducible assumption) | (with_reducible refine Below.drew ?_) | (with_reducible refine belowDrewN ?_ _) | (with_reducible refine Below.alloc ?_ ?_ _) | (with_reducible refine Below.setCell ?_ ?_ _) | (with_reducible refine belowStep (by assumption) ?_ ?_) | (with_reducible exact Below.size (by assumption)) | go_size))
        obtain ⟨oK1, oK2, oK3, oK4, oK5⟩ := TK.out
        go_wp2_with fail
        refine (LO3.out _).mono ?_; rintro e w36 ⟨rfl, hb36⟩; have hz36 := hb36.size; (try simp only [World.size_alloc] at hz36)
        clear oK1 oK2 oK3 oK4 oK5
        have TK := Lib.hid (TK.out.below hb36)
        have TV := Lib.hid (TV.out.below hb36)
        obtain ⟨oK1, oK2, oK3, oK4, oK5⟩ := TK.out
        obtain ⟨oV1, oV2, oV3, oV4, oV5⟩ := TV.out
        go_wp2
        go_ret
        exact ⟨by first | rfl | simp, by (repeat' (first | (with_reducible exact Below.refl _ _) | (with_reducible assumption) | (with_reducible refine Below.drew ?_) | (with_reducible refine belowDrewN ?_ _) | (with_reducible refine Below.alloc ?_ ?_ _) | (with_reducible refine Below.setCell ?_ ?_ _) | (with_reducible refine belowStep (by assumption) ?_ ?_) | (with_reducible exact Below.size (by assumption)) | go_size))⟩
    | some m =>
      obtain ⟨m1, m2, ts2, ho2, f1, f2⟩ := loO_facts hlo
      rw [hlo] at LO1 LO2
      unfold nxV at LO1 LO2
      simp only [Option.getD_some, Option.isSome_some] at LO1 LO2
      have EX2 : Hid (∀ w, Calls Try.prog 11 #[.agg #[.int .i64 p2, .int .i64 q2], .int .i64 (m : Int)] w (RetLB ts2 true w)) := Lib.hid fun w => by
        have := expandOver_any p2 q2 (m : Int) w hp2 hq2
        rwa [ho2] at this
      have hl2 := expB_len f1
      obtain ⟨r, c1, c2, c3, c4⟩ := com_facts f1 f2 m1 m2
      have CM2 : Hid (∀ w A c, Reads w A ts2 → Calls Try.prog 24 #[.slice A ts2.length c] w (Ret (.tuple #[.int .i64 (r : Int), .bool true]) w)) := Lib.hid fun w A c h => by
        have := common_any w A c ts2 h (by omega) (fun i x hx => by have := expB_small f1 x (List.mem_of_getElem? hx); omega)
        rwa [c1, c2] at this
      obtain ⟨e1, e2, _, _⟩ := @remv2 m r
      rw [c4] at e1 e2
      have hrz : (r : Int) ≠ 0 := by omega
      clear hlo ho2 f1 f2 c1 c2 c4
      obtain ⟨oH1, oH2, oH3, oH4, oH5⟩ := TH.out
      go_wp2_with fail
      refine (LO1.out _).mono ?_; rintro e w22 ⟨rfl, hb22⟩; have hz22 := hb22.size; (try simp only [World.size_alloc] at hz22)
      clear oH1 oH2 oH3 oH4 oH5
      have TH := Lib.hid (TH.out.below hb22)
      obtain ⟨oH1, oH2, oH3, oH4, oH5⟩ := TH.out
      go_wp2_with fail
      refine (LO2.out _).mono ?_; rintro e w23 ⟨rfl, hb23⟩; have hz23 := hb23.size; (try simp only [World.size_alloc, World.size_setCell, World.size_drew, World.heap_drewN] at hz23)
      clear oH1 oH2 oH3 oH4 oH5
      have TH := Lib.hid (TH.out.below hb23)
      obtain ⟨oH1, oH2, oH3, oH4, oH5⟩ := TH.out
      go_wp2_with fail
      refine (EX2.out _).mono ?_; rintro e w24 ⟨v24, rfl, ho24, hb24⟩; have hz24 := hb24.size; (try simp only [World.size_alloc, World.size_setCell, World.size_drew, World.heap_drewN] at hz24)
      clear oH1 oH2 oH3 oH4 oH5
      obtain ⟨A24, c24, rfl, hr24⟩ := ho24.form
      have R24 := Lib.hid hr24
      clear ho24 hr24
      go_wp2_with fail
      refine (CM2.out _ _ _ R24.out).mono ?_; rintro e w25 ⟨rfl, hb25⟩; have hz25 := hb25.size; (try simp only [World.size_alloc, World.size_setCell, World.size_drew, World.heap_drewN] at hz25)
      have hbw25 : Below w.heap.size w w25 := by (repeat' (first | (with_reducible exact Below.refl _ _) | (with_reducible assumption) | (with_reducible refine Below.drew ?_) | (with_reducible refine belowDrewN ?_ _) | (with_reducible refine Below.alloc ?_ ?_ _) | (with_reducible refine Below.setCell ?_ ?_ _) | (with_reducible refine belowStep (by assumption) ?_ ?_) | (with_reducible exact Below.size (by assumption)) | go_size))
      go_wp2_with fail
      refine (HDR3.out _ (by (repeat' (first | (with_reducible exact Below.refl _ _) | (with_reducible assumption) | (with_reducible refine Below.drew ?_) | (with_reducible refine belowDrewN ?_ _) | (with_reducible refine Below.alloc ?_ ?_ _) | (with_reducible refine Below.setCell ?_ ?_ _) | (with_reducible refine belowStep (by assumption) ?_ ?_) | (with_reducible exact Below.size (by assumption)) | go_size)))).mono ?_; rintro e w31 ⟨p3, q3, rfl, hp3, hq3, hb31⟩
      have hz31 := hb31.size; (try simp only [World.size_alloc, World.size_setCell, World.size_drew, World.heap_drewN] at hz31)
      have hbw31 : Below w.heap.size w w31 := by (repeat' (first | (with_reducible exact Below.refl _ _) | (with_reducible assumption) | (with_reducible refine Below.drew ?_) | (with_reducible refine belowDrewN ?_ _) | (with_reducible refine Below.alloc ?_ ?_ _) | (with_reducible refine Below.setCell ?_ ?_ _) | (with_reducible refine belowStep (by assumption) ?_ ?_) | (with_reducible exact Below.size (by assumption)) | go_size))
      have TK := Lib.hid (TwoAt.new w31 (p3) (q3) 27)
      have hlp := peO_len p3 q3
      have PX1 : Hid (∀ w, Calls Try.prog 18 #[.agg #[.int .i64 p3, .int .i64 q3]] w (RetLB ((peO p3 q3).getD []) (peO p3 q3).isSome w)) := Lib.hid fun w => practicalExpansion_any p3 q3 w hp3 hq3
      have PX2 : Hid (∀ w, Calls Try.prog 17 #[.agg #[.int .i64 p3, .int .i64 q3]] w (RetRB ((peO p3 q3).getD []) (peO p3 q3).isSome w)) := Lib.hid fun w => spec_practicalExpansion_any p3 q3 w
      have LO3 := Lib.hid fun (w : World) => leastOver_any p3 q3 w hp3 hq3
      cases hpe : peO p3 q3 with
      | none =>
        rw [hpe] at PX1 PX2
        simp only [Option.getD_none, Option.isSome_none] at PX1 PX2
        clear hpe hlp LO3
        obtain ⟨oK1, oK2, oK3, oK4, oK5⟩ := TK.out
        go_wp2_with fail
        refine (PX1.out _).mono ?_; rintro e w32 ⟨v32, rfl, ho32, hb32⟩; have hz32 := hb32.size; (try simp only [World.size_alloc] at hz32)
        clear oK1 oK2 oK3 oK4 oK5
        have TK := Lib.hid (TK.out.below hb32)
        obtain ⟨A32, c32, rfl, hr32⟩ := ho32.form
        have R32 := Lib.hid hr32
        clear ho32 hr32
        obtain ⟨oK1, oK2, oK3, oK4, oK5⟩ := TK.out
        go_wp2_with fail
        refine (PX2.out _).mono ?_; rintro e w33 ⟨A33, c33, rfl, hr33, hb33⟩; have hz33 := hb33.size; (try simp only [World.size_alloc, World.size_setCell, World.size_drew, World.heap_drewN] at hz33)
        clear oK1 oK2 oK3 oK4 oK5
        go_wp2_with fail
        refine (zSame_any _ A32 A33 c32 c33 [] [] Reads.nil Reads.nil (by simp) (by simp)).mono ?_; rintro e w34 ⟨rfl, k34, rfl⟩
        go_wp2
        go_ret
        exact ⟨rfl, by (repeat' (first | (with_reducible exact Below.refl _ _) | (with_reducible assumption) | (with_reducible refine Below.drew ?_) | (with_reducible refine belowDrewN ?_ _) | (with_reducible refine Below.alloc ?_ ?_ _) | (with_reducible refine Below.setCell ?_ ?_ _) | (with_reducible refine belowStep (by assumption) ?_ ?_) | (with_reducible exact Below.size (by assumption)) | go_size))⟩
      | some ts =>
        obtain ⟨f1, f2, f3, f4⟩ := peO_facts hpe
        rw [hpe] at PX1 PX2 hlp
        rw [nxV_some f4] at LO3
        simp only [Option.getD_some, Option.isSome_some] at PX1 PX2 hlp
        have h64 := Lib.hid (fun (i : Nat) (x : Int) (hx : ts[i]? = some x) => by have := expB_small f1 x (List.mem_of_getElem? hx); exact (show -9223372036854775808 ≤ x ∧ x ≤ 9223372036854775807 by omega))
        have SU : Hid (∀ w A c, Reads w A ts → Calls Try.prog 22 #[.slice A ts.length c] w (Ret (.tuple #[.agg #[.int .i64 p3, .int .i64 q3], .bool true]) w)) := Lib.hid fun w A c h => by
          have := sumOf_any w A c ts h (by omega) h64.out
          rwa [f2, f3, f1] at this
        have HZ : Hid (∀ w A B c d, Reads w A ts → Reads w B ts → Calls Try.prog 21 #[.slice A ts.length c, .slice B ts.length d] w (RetQ (.bool true) w)) := Lib.hid fun w A B c d h h' => by
          have := zSame_any w A B c d ts ts h h' (by omega) (by omega)
          rwa [decide_eq_true rfl] at this
        clear hpe f1 f2 f3 f4 h64
        generalize (((loO p3 q3).getD 0 : Nat) : Int) = lo3 at *
        obtain ⟨oK1, oK2, oK3, oK4, oK5⟩ := TK.out
        go_wp2_with fail
        refine (PX1.out _).mono ?_; rintro e w32 ⟨v32, rfl, ho32, hb32⟩; have hz32 := hb32.size; (try simp only [World.size_alloc] at hz32)
        clear oK1 oK2 oK3 oK4 oK5
        have TK := Lib.hid (TK.out.below hb32)
        obtain ⟨A32, c32, rfl, hr32⟩ := ho32.form
        have R32 := Lib.hid hr32
        clear ho32 hr32
        obtain ⟨oK1, oK2, oK3, oK4, oK5⟩ := TK.out
        go_wp2_with fail
        refine (PX2.out _).mono ?_; rintro e w33 ⟨A33, c33, rfl, hr33, hb33⟩; have hz33 := hb33.size; (try simp only [World.size_alloc, World.size_setCell, World.size_drew, World.heap_drewN] at hz33)
        clear oK1 oK2 oK3 oK4 oK5
        have TK := Lib.hid (TK.out.below hb33)
        have R33 := Lib.hid hr33
        clear hr33
        go_wp2_with fail
        refine (HZ.out _ _ _ _ _ (R32.out.below (by (repeat' (first | (with_reducible exact Below.refl _ _) | (with_reducible assumption) | (with_reducible refine Below.drew ?_) | (with_reducible refine belowDrewN ?_ _) | (with_reducible refine Below.alloc ?_ ?_ _) | (with_reducible refine Below.setCell ?_ ?_ _) | (with_reducible refine belowStep (by assumption) ?_ ?_) | (with_reducible exact Below.size (by assumption)) | go_size)))) R33.out).mono ?_; rintro e w34 ⟨rfl, k34, rfl⟩
        go_wp2_with fail
        refine (SU.out _ _ _ (R32.out.below (by (repeat' (first | (with_reducible exact Below.refl _ _) | (with_reducible assumption) | (with_reducible refine Below.drew ?_) | (with_reducible refine belowDrewN ?_ _) | (with_reducible refine Below.alloc ?_ ?_ _) | (with_reducible refine Below.setCell ?_ ?_ _) | (with_reducible refine belowStep (by assumption) ?_ ?_) | (with_reducible exact Below.size (by assumption)) | go_size))))).mono ?_; rintro e w35 ⟨rfl, hb35⟩; have hz35 := hb35.size; (try simp only [World.heap_drewN] at hz35)
        have TK := Lib.hid (TK.out.below (show Below w33.heap.size w33 w35 by (repeat' (first | (with_reducible exact Below.refl _ _) | (with_reducible assumption) | (with_reducible refine Below.drew ?_) | (with_reducible refine belowDrewN ?_ _) | (with_reducible refine Below.alloc ?_ ?_ _) | (with_reducible refine Below.setCell ?_ ?_ _) | (with_reducible refine belowStep (by assumption) ?_ ?_) | (with_reducible exact Below.size (by assumption)) | go_size))))
        have TV := Lib.hid (TwoAt.new w35 (p3) (q3) 27)
        have TK := Lib.hid (TK.out.below ((Below.refl _ _).alloc (Nat.le_refl _) (.cells #[.int .i64 p3, .int .i64 q3] 27)))
        have hbw35 : Below w.heap.size w w35 := by (repeat' (first | (with_reducible exact Below.refl _ _) | (with_reducible assumption) | (with_reducible refine Below.drew ?_) | (with_reducible refine belowDrewN ?_ _) | (with_reducible refine Below.alloc ?_ ?_ _) | (with_reducible refine Below.setCell ?_ ?_ _) | (with_reducible refine belowStep (by assumption) ?_ ?_) | (with_reducible exact Below.size (by assumption)) | go_size))
        obtain ⟨oK1, oK2, oK3, oK4, oK5⟩ := TK.out
        go_wp2_with fail
        refine (LO3.out _).mono ?_; rintro e w36 ⟨rfl, hb36⟩; have hz36 := hb36.size; (try simp only [World.size_alloc] at hz36)
        clear oK1 oK2 oK3 oK4 oK5
        have TK := Lib.hid (TK.out.below hb36)
        have TV := Lib.hid (TV.out.below hb36)
        obtain ⟨oK1, oK2, oK3, oK4, oK5⟩ := TK.out
        obtain ⟨oV1, oV2, oV3, oV4, oV5⟩ := TV.out
        go_wp2
        go_ret
        exact ⟨by first | rfl | simp, by (repeat' (first | (with_reducible exact Below.refl _ _) | (with_reducible assumption) | (with_reducible refine Below.drew ?_) | (with_reducible refine belowDrewN ?_ _) | (with_reducible refine Below.alloc ?_ ?_ _) | (with_reducible refine Below.setCell ?_ ?_ _) | (with_reducible refine belowStep (by assumption) ?_ ?_) | (with_reducible exact Below.size (by assumption)) | go_size))⟩
  | some ts =>
    obtain ⟨f1, f2, f3, M, rfl, g1, g2, f4⟩ := ovO_facts ho
    rw [ho] at EX1 EX0 hlen
    simp only [Option.getD_some, Option.isSome_some] at EX1 EX0 hlen
    have h64 := Lib.hid (fun (i : Nat) (x : Int) (hx : ts[i]? = some x) => by have := expB_small f1 x (List.mem_of_getElem? hx); exact (show -9223372036854775808 ≤ x ∧ x ≤ 9223372036854775807 by omega))
    have SU : Hid (∀ w A c, Reads w A ts → Calls Try.prog 22 #[.slice A ts.length c] w (Ret (.tuple #[.agg #[.int .i64 a, .int .i64 b], .bool true]) w)) := Lib.hid fun w A c h => by
      have := sumOf_any w A c ts h (by omega) h64.out
      rwa [f2, f3, f1] at this
    have HZ : Hid (∀ w A B c d, Reads w A ts → Reads w B ts → Calls Try.prog 21 #[.slice A ts.length c, .slice B ts.length d] w (RetQ (.bool true) w)) := Lib.hid fun w A B c d h h' => by
      have := zSame_any w A B c d ts ts h h' (by omega) (by omega)
      rwa [decide_eq_true rfl] at this
    have HM4 := Lib.hid f4
    clear ho f1 f2 f3 f4 h64
    obtain ⟨oG1, oG2, oG3, oG4, oG5⟩ := TG.out
    go_wp2_with fail
    refine (EX1.out _).mono ?_; rintro e w5 ⟨v5, rfl, ho5, hb5⟩; have hz5 := hb5.size; (try simp only [World.size_alloc] at hz5)
    clear oG1 oG2 oG3 oG4 oG5
    have TG := Lib.hid (TG.out.below hb5)
    obtain ⟨A5, c5, rfl, hr5⟩ := ho5.form
    have R5 := Lib.hid hr5
    clear ho5 hr5
    obtain ⟨oG1, oG2, oG3, oG4, oG5⟩ := TG.out
    go_wp2_with fail
    refine (EX0.out _).mono ?_; rintro e w6 ⟨A6, c6, rfl, hr6, hb6⟩; have hz6 := hb6.size; (try simp only [World.size_alloc, World.size_setCell, World.size_drew, World.heap_drewN] at hz6)
    clear oG1 oG2 oG3 oG4 oG5
    have TG := Lib.hid (TG.out.below hb6)
    have R6 := Lib.hid hr6
    clear hr6
    go_wp2_with fail
    refine (HZ.out _ _ _ _ _ (R5.out.below (by (repeat' (first | (with_reducible exact Below.refl _ _) | (with_reducible assumption) | (with_reducible refine Below.drew ?_) | (with_reducible refine belowDrewN ?_ _) | (with_reducible refine Below.alloc ?_ ?_ _) | (with_reducible refine Below.setCell ?_ ?_ _) | (with_reducible refine belowStep (by assumption) ?_ ?_) | (with_reducible exact Below.size (by assumption)) | go_size)))) R6.out).mono ?_; rintro e w7 ⟨rfl, k7, rfl⟩
    go_wp2_with fail
    refine (SU.out _ _ _ (R5.out.below (by (repeat' (first | (with_reducible exact Below.refl _ _) | (with_reducible assumption) | (with_reducible refine Below.drew ?_) | (with_reducible refine belowDrewN ?_ _) | (with_reducible refine Below.alloc ?_ ?_ _) | (with_reducible refine Below.setCell ?_ ?_ _) | (with_reducible refine belowStep (by assumption) ?_ ?_) | (with_reducible exact Below.size (by assumption)) | go_size))))).mono ?_; rintro e w8 ⟨rfl, hb8⟩; have hz8 := hb8.size; (try simp only [World.heap_drewN] at hz8)
    have TG := Lib.hid (TG.out.below (show Below w6.heap.size w6 w8 by (repeat' (first | (with_reducible exact Below.refl _ _) | (with_reducible assumption) | (with_reducible refine Below.drew ?_) | (with_reducible refine belowDrewN ?_ _) | (with_reducible refine Below.alloc ?_ ?_ _) | (with_reducible refine Below.setCell ?_ ?_ _) | (with_reducible refine belowStep (by assumption) ?_ ?_) | (with_reducible exact Below.size (by assumption)) | go_size))))
    have R8 := Lib.hid (R5.out.below (show Below w5.heap.size w5 w8 by (repeat' (first | (with_reducible exact Below.refl _ _) | (with_reducible assumption) | (with_reducible refine Below.drew ?_) | (with_reducible refine belowDrewN ?_ _) | (with_reducible refine Below.alloc ?_ ?_ _) | (with_reducible refine Below.setCell ?_ ?_ _) | (with_reducible refine belowStep (by assumption) ?_ ?_) | (with_reducible exact Below.size (by assumption)) | go_size))))
    have TU := Lib.hid (TwoAt.new w8 (a) (b) 27)
    have TG := Lib.hid (TG.out.below ((Below.refl _ _).alloc (Nat.le_refl _) (.cells #[.int .i64 a, .int .i64 b] 27)))
    have hbw8 : Below w.heap.size w w8 := by (repeat' (first | (with_reducible exact Below.refl _ _) | (with_reducible assumption) | (with_reducible refine Below.drew ?_) | (with_reducible refine belowDrewN ?_ _) | (with_reducible refine Below.alloc ?_ ?_ _) | (with_reducible refine Below.setCell ?_ ?_ _) | (with_reducible refine belowStep (by assumption) ?_ ?_) | (with_reducible exact Below.size (by assumption)) | go_size))
    obtain ⟨oG1, oG2, oG3, oG4, oG5⟩ := TG.out
    obtain ⟨oU1, oU2, oU3, oU4, oU5⟩ := TU.out
    go_wp2
    clear oG1 oG2 oG3 oG4 oG5
    clear oU1 oU2 oU3 oU4 oU5
    go_loopw [77] (fun v77 wr => ∃ k : Nat, v77 = .int .i64 (k : Int) ∧ k ≤ ts.length ∧ Below w8.heap.size w8 wr) (fun v77 _ => ts.length - (intOf v77).toNat)
    case atStart => exact ⟨0, rfl, Nat.zero_le _, by (repeat' (first | (with_reducible exact Below.refl _ _) | (with_reducible assumption) | (with_reducible refine Below.drew ?_) | (with_reducible refine belowDrewN ?_ _) | (with_reducible refine Below.alloc ?_ ?_ _) | (with_reducible refine Below.setCell ?_ ?_ _) | (with_reducible refine belowStep (by assumption) ?_ ?_) | (with_reducible exact Below.size (by assumption)) | go_size))⟩
    case round =>
      obtain ⟨k, rfl, hk, hbr⟩ := hrel
      obtain ⟨wo, rfl⟩ : ∃ x : World, x = wr := ⟨_, rfl⟩
      have hzo := hbr.size
      have hbw : Below w.heap.size w wo := by (repeat' (first | (with_reducible exact Below.refl _ _) | (with_reducible assumption) | (with_reducible refine Below.drew ?_) | (with_reducible refine belowDrewN ?_ _) | (with_reducible refine Below.alloc ?_ ?_ _) | (with_reducible refine Below.setCell ?_ ?_ _) | (with_reducible refine belowStep (by assumption) ?_ ?_) | (with_reducible exact Below.size (by assumption)) | go_size))
      by_cases hlt : k < ts.length
      · obtain ⟨b9, o9, t, rfl, hbb, hx, hcell⟩ := (R8.out.below hbr).at_ hlt
        obtain ⟨u, rfl, u1, u2⟩ := HM4.out t (List.mem_of_getElem? hx)
        have hki : (k : Int) < (ts.length : Int) := by omega
        obtain ⟨r1, r2, _, _⟩ := @remv2 M u
        rw [Nat.mod_eq_zero_of_dvd u2] at r1 r2
        have huz : (u : Int) ≠ 0 := by omega
        clear hx u2
        go_wp2
        go_roundw
        case rel => exact ⟨k + 1, by go_num, by omega, by (repeat' (first | (with_reducible exact Below.refl _ _) | (with_reducible assumption) | (with_reducible refine Below.drew ?_) | (with_reducible refine belowDrewN ?_ _) | (with_reducible refine Below.alloc ?_ ?_ _) | (with_reducible refine Below.setCell ?_ ?_ _) | (with_reducible refine belowStep (by assumption) ?_ ?_) | (with_reducible exact Below.size (by assumption)) | go_size))⟩
        case measure => simp [intOf]; omega
      · have hki : ¬ (k : Int) < (ts.length : Int) := by omega
        go_wp2_with fail
        refine (HDR2.out _ (by (repeat' (first | (with_reducible exact Below.refl _ _) | (with_reducible assumption) | (with_reducible refine Below.drew ?_) | (with_reducible refine belowDrewN ?_ _) | (with_reducible refine Below.alloc ?_ ?_ _) | (with_reducible refine Below.setCell ?_ ?_ _) | (with_reducible refine belowStep (by assumption) ?_ ?_) | (with_reducible exact Below.size (by assumption)) | go_size)))).mono ?_; rintro e w21 ⟨p2, q2, rfl, hp2, hq2, hb21⟩
        have hz21 := hb21.size; (try simp only [World.size_alloc, World.size_setCell, World.size_drew, World.heap_drewN] at hz21)
        have hbw21 : Below w.heap.size w w21 := by (repeat' (first | (with_reducible exact Below.refl _ _) | (with_reducible assumption) | (with_reducible refine Below.drew ?_) | (with_reducible refine belowDrewN ?_ _) | (with_reducible refine Below.alloc ?_ ?_ _) | (with_reducible refine Below.setCell ?_ ?_ _) | (with_reducible refine belowStep (by assumption) ?_ ?_) | (with_reducible exact Below.size (by assumption)) | go_size))
        have TH := Lib.hid (TwoAt.new w21 (p2) (q2) 27)
        have LO1 := Lib.hid fun (w : World) => leastOver_any p2 q2 w hp2 hq2
        have LO2 := Lib.hid fun (w : World) => spec_leastOver_any p2 q2 w
        cases hlo : loO p2 q2 with
        | none =>
          rw [hlo] at LO1 LO2
          unfold nxV at LO1 LO2
          simp only [Option.getD_none, Option.isSome_none] at LO1 LO2
          clear hlo
          obtain ⟨oH1, oH2, oH3, oH4, oH5⟩ := TH.out
          go_wp2_with fail
          refine (LO1.out _).mono ?_; rintro e w22 ⟨rfl, hb22⟩; have hz22 := hb22.size; (try simp only [World.size_alloc] at hz22)
          clear oH1 oH2 oH3 oH4 oH5
          have TH := Lib.hid (TH.out.below hb22)
          obtain ⟨oH1, oH2, oH3, oH4, oH5⟩ := TH.out
          go_wp2_with fail
          refine (LO2.out _).mono ?_; rintro e w23 ⟨rfl, hb23⟩; have hz23 := hb23.size; (try simp only [World.size_alloc, World.size_setCell, World.size_drew, World.heap_drewN] at hz23)
          clear oH1 oH2 oH3 oH4 oH5
          go_wp2_with fail
          refine (HDR3.out _ (by (repeat' (first | (with_reducible exact Below.refl _ _) | (with_reducible assumption) | (with_reducible refine Below.drew ?_) | (with_reducible refine belowDrewN ?_ _) | (with_reducible refine Below.alloc ?_ ?_ _) | (with_reducible refine Below.setCell ?_ ?_ _) | (with_reducible refine belowStep (by assumption) ?_ ?_) | (with_reducible exact Below.size (by assumption)) | go_size)))).mono ?_; rintro e w31 ⟨p3, q3, rfl, hp3, hq3, hb31⟩
          have hz31 := hb31.size; (try simp only [World.size_alloc, World.size_setCell, World.size_drew, World.heap_drewN] at hz31)
          have hbw31 : Below w.heap.size w w31 := by (repeat' (first | (with_reducible exact Below.refl _ _) | (with_reducible assumption) | (with_reducible refine Below.drew ?_) | (with_reducible refine belowDrewN ?_ _) | (with_reducible refine Below.alloc ?_ ?_ _) | (with_reducible refine Below.setCell ?_ ?_ _) | (with_reducible refine belowStep (by assumption) ?_ ?_) | (with_reducible exact Below.size (by assumption)) | go_size))
          have TK := Lib.hid (TwoAt.new w31 (p3) (q3) 27)
          have hlp := peO_len p3 q3
          have PX1 : Hid (∀ w, Calls Try.prog 18 #[.agg #[.int .i64 p3, .int .i64 q3]] w (RetLB ((peO p3 q3).getD []) (peO p3 q3).isSome w)) := Lib.hid fun w => practicalExpansion_any p3 q3 w hp3 hq3
          have PX2 : Hid (∀ w, Calls Try.prog 17 #[.agg #[.int .i64 p3, .int .i64 q3]] w (RetRB ((peO p3 q3).getD []) (peO p3 q3).isSome w)) := Lib.hid fun w => spec_practicalExpansion_any p3 q3 w
          have LO3 := Lib.hid fun (w : World) => leastOver_any p3 q3 w hp3 hq3
          cases hpe : peO p3 q3 with
          | none =>
            rw [hpe] at PX1 PX2
            simp only [Option.getD_none, Option.isSome_none] at PX1 PX2
            clear hpe hlp LO3
            obtain ⟨oK1, oK2, oK3, oK4, oK5⟩ := TK.out
            go_wp2_with fail
            refine (PX1.out _).mono ?_; rintro e w32 ⟨v32, rfl, ho32, hb32⟩; have hz32 := hb32.size; (try simp only [World.size_alloc] at hz32)
            clear oK1 oK2 oK3 oK4 oK5
            have TK := Lib.hid (TK.out.below hb32)
            obtain ⟨A32, c32, rfl, hr32⟩ := ho32.form
            have R32 := Lib.hid hr32
            clear ho32 hr32
            obtain ⟨oK1, oK2, oK3, oK4, oK5⟩ := TK.out
            go_wp2_with fail
            refine (PX2.out _).mono ?_; rintro e w33 ⟨A33, c33, rfl, hr33, hb33⟩; have hz33 := hb33.size; (try simp only [World.size_alloc, World.size_setCell, World.size_drew, World.heap_drewN] at hz33)
            clear oK1 oK2 oK3 oK4 oK5
            go_wp2_with fail
            refine (zSame_any _ A32 A33 c32 c33 [] [] Reads.nil Reads.nil (by simp) (by simp)).mono ?_; rintro e w34 ⟨rfl, k34, rfl⟩
            go_wp2
            go_ret
            exact ⟨rfl, by (repeat' (first | (with_reducible exact Below.refl _ _) | (with_reducible assumption) | (with_reducible refine Below.drew ?_) | (with_reducible refine belowDrewN ?_ _) | (with_reducible refine Below.alloc ?_ ?_ _) | (with_reducible refine Below.setCell ?_ ?_ _) | (with_reducible refine belowStep (by assumption) ?_ ?_) | (with_reducible exact Below.size (by assumption)) | go_size))⟩
          | some ts =>
            obtain ⟨f1, f2, f3, f4⟩ := peO_facts hpe
            rw [hpe] at PX1 PX2 hlp
            rw [nxV_some f4] at LO3
            simp only [Option.getD_some, Option.isSome_some] at PX1 PX2 hlp
            have h64 := Lib.hid (fun (i : Nat) (x : Int) (hx : ts[i]? = some x) => by have := expB_small f1 x (List.mem_of_getElem? hx); exact (show -9223372036854775808 ≤ x ∧ x ≤ 9223372036854775807 by omega))
            have SU : Hid (∀ w A c, Reads w A ts → Calls Try.prog 22 #[.slice A ts.length c] w (Ret (.tuple #[.agg #[.int .i64 p3, .int .i64 q3], .bool true]) w)) := Lib.hid fun w A c h => by
              have := sumOf_any w A c ts h (by omega) h64.out
              rwa [f2, f3, f1] at this
            have HZ : Hid (∀ w A B c d, Reads w A ts → Reads w B ts → Calls Try.prog 21 #[.slice A ts.length c, .slice B ts.length d] w (RetQ (.bool true) w)) := Lib.hid fun w A B c d h h' => by
              have := zSame_any w A B c d ts ts h h' (by omega) (by omega)
              rwa [decide_eq_true rfl] at this
            clear hpe f1 f2 f3 f4 h64
            generalize (((loO p3 q3).getD 0 : Nat) : Int) = lo3 at *
            obtain ⟨oK1, oK2, oK3, oK4, oK5⟩ := TK.out
            go_wp2_with fail
            refine (PX1.out _).mono ?_; rintro e w32 ⟨v32, rfl, ho32, hb32⟩; have hz32 := hb32.size; (try simp only [World.size_alloc] at hz32)
            clear oK1 oK2 oK3 oK4 oK5
            have TK := Lib.hid (TK.out.below hb32)
            obtain ⟨A32, c32, rfl, hr32⟩ := ho32.form
            have R32 := Lib.hid hr32
            clear ho32 hr32
            obtain ⟨oK1, oK2, oK3, oK4, oK5⟩ := TK.out
            go_wp2_with fail
            refine (PX2.out _).mono ?_; rintro e w33 ⟨A33, c33, rfl, hr33, hb33⟩; have hz33 := hb33.size; (try simp only [World.size_alloc, World.size_setCell, World.size_drew, World.heap_drewN] at hz33)
            clear oK1 oK2 oK3 oK4 oK5
            have TK := Lib.hid (TK.out.below hb33)
            have R33 := Lib.hid hr33
            clear hr33
            go_wp2_with fail
            refine (HZ.out _ _ _ _ _ (R32.out.below (by (repeat' (first | (with_reducible exact Below.refl _ _) | (with_reducible assumption) | (with_reducible refine Below.drew ?_) | (with_reducible refine belowDrewN ?_ _) | (with_reducible refine Below.alloc ?_ ?_ _) | (with_reducible refine Below.setCell ?_ ?_ _) | (with_reducible refine belowStep (by assumption) ?_ ?_) | (with_reducible exact Below.size (by assumption)) | go_size)))) R33.out).mono ?_; rintro e w34 ⟨rfl, k34, rfl⟩
            go_wp2_with fail
            refine (SU.out _ _ _ (R32.out.below (by (repeat' (first | (with_reducible exact Below.refl _ _) | (with_reducible assumption) | (with_reducible refine Below.drew ?_) | (with_reducible refine belowDrewN ?_ _) | (with_reducible refine Below.alloc ?_ ?_ _) | (with_reducible refine Below.setCell ?_ ?_ _) | (with_reducible refine belowStep (by assumption) ?_ ?_) | (with_reducible exact Below.size (by assumption)) | go_size))))).mono ?_; rintro e w35 ⟨rfl, hb35⟩; have hz35 := hb35.size; (try simp only [World.heap_drewN] at hz35)
            have TK := Lib.hid (TK.out.below (show Below w33.heap.size w33 w35 by (repeat' (first | (with_reducible exact Below.refl _ _) | (with_reducible assumption) | (with_reducible refine Below.drew ?_) | (with_reducible refine belowDrewN ?_ _) | (with_reducible refine Below.alloc ?_ ?_ _) | (with_reducible refine Below.setCell ?_ ?_ _) | (with_reducible refine belowStep (by assumption) ?_ ?_) | (with_reducible exact Below.size (by assumption)) | go_size))))
            have TV := Lib.hid (TwoAt.new w35 (p3) (q3) 27)
            have TK := Lib.hid (TK.out.below ((Below.refl _ _).alloc (Nat.le_refl _) (.cells #[.int .i64 p3, .int .i64 q3] 27)))
            have hbw35 : Below w.heap.size w w35 := by (repeat' (first | (with_reducible exact Below.refl _ _) | (with_reducible assumption) | (with_reducible refine Below.drew ?_) | (with_reducible refine belowDrewN ?_ _) | (with_reducible refine Below.alloc ?_ ?_ _) | (with_reducible refine Below.setCell ?_ ?_ _) | (with_reducible refine belowStep (by assumption) ?_ ?_) | (with_reducible exact Below.size (by assumption)) | go_size))
            obtain ⟨oK1, oK2, oK3, oK4, oK5⟩ := TK.out
            go_wp2_with fail
            refine (LO3.out _).mono ?_; rintro e w36 ⟨rfl, hb36⟩; have hz36 := hb36.size; (try simp only [World.size_alloc] at hz36)
            clear oK1 oK2 oK3 oK4 oK5
            have TK := Lib.hid (TK.out.below hb36)
            have TV := Lib.hid (TV.out.below hb36)
            obtain ⟨oK1, oK2, oK3, oK4, oK5⟩ := TK.out
            obtain ⟨oV1, oV2, oV3, oV4, oV5⟩ := TV.out
            go_wp2
            go_ret
            exact ⟨by first | rfl | simp, by (repeat' (first | (with_reducible exact Below.refl _ _) | (with_reducible assumption) | (with_reducible refine Below.drew ?_) | (with_reducible refine belowDrewN ?_ _) | (with_reducible refine Below.alloc ?_ ?_ _) | (with_reducible refine Below.setCell ?_ ?_ _) | (with_reducible refine belowStep (by assumption) ?_ ?_) | (with_reducible exact Below.size (by assumption)) | go_size))⟩
        | some m =>
          obtain ⟨m1, m2, ts2, ho2, f1, f2⟩ := loO_facts hlo
          rw [hlo] at LO1 LO2
          unfold nxV at LO1 LO2
          simp only [Option.getD_some, Option.isSome_some] at LO1 LO2
          have EX2 : Hid (∀ w, Calls Try.prog 11 #[.agg #[.int .i64 p2, .int .i64 q2], .int .i64 (m : Int)] w (RetLB ts2 true w)) := Lib.hid fun w => by
            have := expandOver_any p2 q2 (m : Int) w hp2 hq2
            rwa [ho2] at this
          have hl2 := expB_len f1
          obtain ⟨r, c1, c2, c3, c4⟩ := com_facts f1 f2 m1 m2
          have CM2 : Hid (∀ w A c, Reads w A ts2 → Calls Try.prog 24 #[.slice A ts2.length c] w (Ret (.tuple #[.int .i64 (r : Int), .bool true]) w)) := Lib.hid fun w A c h => by
            have := common_any w A c ts2 h (by omega) (fun i x hx => by have := expB_small f1 x (List.mem_of_getElem? hx); omega)
            rwa [c1, c2] at this
          obtain ⟨e1, e2, _, _⟩ := @remv2 m r
          rw [c4] at e1 e2
          have hrz : (r : Int) ≠ 0 := by omega
          clear hlo ho2 f1 f2 c1 c2 c4
          obtain ⟨oH1, oH2, oH3, oH4, oH5⟩ := TH.out
          go_wp2_with fail
          refine (LO1.out _).mono ?_; rintro e w22 ⟨rfl, hb22⟩; have hz22 := hb22.size; (try simp only [World.size_alloc] at hz22)
          clear oH1 oH2 oH3 oH4 oH5
          have TH := Lib.hid (TH.out.below hb22)
          obtain ⟨oH1, oH2, oH3, oH4, oH5⟩ := TH.out
          go_wp2_with fail
          refine (LO2.out _).mono ?_; rintro e w23 ⟨rfl, hb23⟩; have hz23 := hb23.size; (try simp only [World.size_alloc, World.size_setCell, World.size_drew, World.heap_drewN] at hz23)
          clear oH1 oH2 oH3 oH4 oH5
          have TH := Lib.hid (TH.out.below hb23)
          obtain ⟨oH1, oH2, oH3, oH4, oH5⟩ := TH.out
          go_wp2_with fail
          refine (EX2.out _).mono ?_; rintro e w24 ⟨v24, rfl, ho24, hb24⟩; have hz24 := hb24.size; (try simp only [World.size_alloc, World.size_setCell, World.size_drew, World.heap_drewN] at hz24)
          clear oH1 oH2 oH3 oH4 oH5
          obtain ⟨A24, c24, rfl, hr24⟩ := ho24.form
          have R24 := Lib.hid hr24
          clear ho24 hr24
          go_wp2_with fail
          refine (CM2.out _ _ _ R24.out).mono ?_; rintro e w25 ⟨rfl, hb25⟩; have hz25 := hb25.size; (try simp only [World.size_alloc, World.size_setCell, World.size_drew, World.heap_drewN] at hz25)
          have hbw25 : Below w.heap.size w w25 := by (repeat' (first | (with_reducible exact Below.refl _ _) | (with_reducible assumption) | (with_reducible refine Below.drew ?_) | (with_reducible refine belowDrewN ?_ _) | (with_reducible refine Below.alloc ?_ ?_ _) | (with_reducible refine Below.setCell ?_ ?_ _) | (with_reducible refine belowStep (by assumption) ?_ ?_) | (with_reducible exact Below.size (by assumption)) | go_size))
          go_wp2_with fail
          refine (HDR3.out _ (by (repeat' (first | (with_reducible exact Below.refl _ _) | (with_reducible assumption) | (with_reducible refine Below.drew ?_) | (with_reducible refine belowDrewN ?_ _) | (with_reducible refine Below.alloc ?_ ?_ _) | (with_reducible refine Below.setCell ?_ ?_ _) | (with_reducible refine belowStep (by assumption) ?_ ?_) | (with_reducible exact Below.size (by assumption)) | go_size)))).mono ?_; rintro e w31 ⟨p3, q3, rfl, hp3, hq3, hb31⟩
          have hz31 := hb31.size; (try simp only [World.size_alloc, World.size_setCell, World.size_drew, World.heap_drewN] at hz31)
          have hbw31 : Below w.heap.size w w31 := by (repeat' (first | (with_reducible exact Below.refl _ _) | (with_reducible assumption) | (with_reducible refine Below.drew ?_) | (with_reducible refine belowDrewN ?_ _) | (with_reducible refine Below.alloc ?_ ?_ _) | (with_reducible refine Below.setCell ?_ ?_ _) | (with_reducible refine belowStep (by assumption) ?_ ?_) | (with_reducible exact Below.size (by assumption)) | go_size))
          have TK := Lib.hid (TwoAt.new w31 (p3) (q3) 27)
          have hlp := peO_len p3 q3
          have PX1 : Hid (∀ w, Calls Try.prog 18 #[.agg #[.int .i64 p3, .int .i64 q3]] w (RetLB ((peO p3 q3).getD []) (peO p3 q3).isSome w)) := Lib.hid fun w => practicalExpansion_any p3 q3 w hp3 hq3
          have PX2 : Hid (∀ w, Calls Try.prog 17 #[.agg #[.int .i64 p3, .int .i64 q3]] w (RetRB ((peO p3 q3).getD []) (peO p3 q3).isSome w)) := Lib.hid fun w => spec_practicalExpansion_any p3 q3 w
          have LO3 := Lib.hid fun (w : World) => leastOver_any p3 q3 w hp3 hq3
          cases hpe : peO p3 q3 with
          | none =>
            rw [hpe] at PX1 PX2
            simp only [Option.getD_none, Option.isSome_none] at PX1 PX2
            clear hpe hlp LO3
            obtain ⟨oK1, oK2, oK3, oK4, oK5⟩ := TK.out
            go_wp2_with fail
            refine (PX1.out _).mono ?_; rintro e w32 ⟨v32, rfl, ho32, hb32⟩; have hz32 := hb32.size; (try simp only [World.size_alloc] at hz32)
            clear oK1 oK2 oK3 oK4 oK5
            have TK := Lib.hid (TK.out.below hb32)
            obtain ⟨A32, c32, rfl, hr32⟩ := ho32.form
            have R32 := Lib.hid hr32
            clear ho32 hr32
            obtain ⟨oK1, oK2, oK3, oK4, oK5⟩ := TK.out
            go_wp2_with fail
            refine (PX2.out _).mono ?_; rintro e w33 ⟨A33, c33, rfl, hr33, hb33⟩; have hz33 := hb33.size; (try simp only [World.size_alloc, World.size_setCell, World.size_drew, World.heap_drewN] at hz33)
            clear oK1 oK2 oK3 oK4 oK5
            go_wp2_with fail
            refine (zSame_any _ A32 A33 c32 c33 [] [] Reads.nil Reads.nil (by simp) (by simp)).mono ?_; rintro e w34 ⟨rfl, k34, rfl⟩
            go_wp2
            go_ret
            exact ⟨rfl, by (repeat' (first | (with_reducible exact Below.refl _ _) | (with_reducible assumption) | (with_reducible refine Below.drew ?_) | (with_reducible refine belowDrewN ?_ _) | (with_reducible refine Below.alloc ?_ ?_ _) | (with_reducible refine Below.setCell ?_ ?_ _) | (with_reducible refine belowStep (by assumption) ?_ ?_) | (with_reducible exact Below.size (by assumption)) | go_size))⟩
          | some ts =>
            obtain ⟨f1, f2, f3, f4⟩ := peO_facts hpe
            rw [hpe] at PX1 PX2 hlp
            rw [nxV_some f4] at LO3
            simp only [Option.getD_some, Option.isSome_some] at PX1 PX2 hlp
            have h64 := Lib.hid (fun (i : Nat) (x : Int) (hx : ts[i]? = some x) => by have := expB_small f1 x (List.mem_of_getElem? hx); exact (show -9223372036854775808 ≤ x ∧ x ≤ 9223372036854775807 by omega))
            have SU : Hid (∀ w A c, Reads w A ts → Calls Try.prog 22 #[.slice A ts.length c] w (Ret (.tuple #[.agg #[.int .i64 p3, .int .i64 q3], .bool true]) w)) := Lib.hid fun w A c h => by
              have := sumOf_any w A c ts h (by omega) h64.out
              rwa [f2, f3, f1] at this
            have HZ : Hid (∀ w A B c d, Reads w A ts → Reads w B ts → Calls Try.prog 21 #[.slice A ts.length c, .slice B ts.length d] w (RetQ (.bool true) w)) := Lib.hid fun w A B c d h h' => by
              have := zSame_any w A B c d ts ts h h' (by omega) (by omega)
              rwa [decide_eq_true rfl] at this
            clear hpe f1 f2 f3 f4 h64
            generalize (((loO p3 q3).getD 0 : Nat) : Int) = lo3 at *
            obtain ⟨oK1, oK2, oK3, oK4, oK5⟩ := TK.out
            go_wp2_with fail
            refine (PX1.out _).mono ?_; rintro e w32 ⟨v32, rfl, ho32, hb32⟩; have hz32 := hb32.size; (try simp only [World.size_alloc] at hz32)
            clear oK1 oK2 oK3 oK4 oK5
            have TK := Lib.hid (TK.out.below hb32)
            obtain ⟨A32, c32, rfl, hr32⟩ := ho32.form
            have R32 := Lib.hid hr32
            clear ho32 hr32
            obtain ⟨oK1, oK2, oK3, oK4, oK5⟩ := TK.out
            go_wp2_with fail
            refine (PX2.out _).mono ?_; rintro e w33 ⟨A33, c33, rfl, hr33, hb33⟩; have hz33 := hb33.size; (try simp only [World.size_alloc, World.size_setCell, World.size_drew, World.heap_drewN] at hz33)
            clear oK1 oK2 oK3 oK4 oK5
            have TK := Lib.hid (TK.out.below hb33)
            have R33 := Lib.hid hr33
            clear hr33
            go_wp2_with fail
            refine (HZ.out _ _ _ _ _ (R32.out.below (by (repeat' (first | (with_reducible exact Below.refl _ _) | (with_reducible assumption) | (with_reducible refine Below.drew ?_) | (with_reducible refine belowDrewN ?_ _) | (with_reducible refine Below.alloc ?_ ?_ _) | (with_reducible refine Below.setCell ?_ ?_ _) | (with_reducible refine belowStep (by assumption) ?_ ?_) | (with_reducible exact Below.size (by assumption)) | go_size)))) R33.out).mono ?_; rintro e w34 ⟨rfl, k34, rfl⟩
            go_wp2_with fail
            refine (SU.out _ _ _ (R32.out.below (by (repeat' (first | (with_reducible exact Below.refl _ _) | (with_reducible assumption) | (with_reducible refine Below.drew ?_) | (with_reducible refine belowDrewN ?_ _) | (with_reducible refine Below.alloc ?_ ?_ _) | (with_reducible refine Below.setCell ?_ ?_ _) | (with_reducible refine belowStep (by assumption) ?_ ?_) | (with_reducible exact Below.size (by assumption)) | go_size))))).mono ?_; rintro e w35 ⟨rfl, hb35⟩; have hz35 := hb35.size; (try simp only [World.heap_drewN] at hz35)
            have TK := Lib.hid (TK.out.below (show Below w33.heap.size w33 w35 by (repeat' (first | (with_reducible exact Below.refl _ _) | (with_reducible assumption) | (with_reducible refine Below.drew ?_) | (with_reducible refine belowDrewN ?_ _) | (with_reducible refine Below.alloc ?_ ?_ _) | (with_reducible refine Below.setCell ?_ ?_ _) | (with_reducible refine belowStep (by assumption) ?_ ?_) | (with_reducible exact Below.size (by assumption)) | go_size))))
            have TV := Lib.hid (TwoAt.new w35 (p3) (q3) 27)
            have TK := Lib.hid (TK.out.below ((Below.refl _ _).alloc (Nat.le_refl _) (.cells #[.int .i64 p3, .int .i64 q3] 27)))
            have hbw35 : Below w.heap.size w w35 := by (repeat' (first | (with_reducible exact Below.refl _ _) | (with_reducible assumption) | (with_reducible refine Below.drew ?_) | (with_reducible refine belowDrewN ?_ _) | (with_reducible refine Below.alloc ?_ ?_ _) | (with_reducible refine Below.setCell ?_ ?_ _) | (with_reducible refine belowStep (by assumption) ?_ ?_) | (with_reducible exact Below.size (by assumption)) | go_size))
            obtain ⟨oK1, oK2, oK3, oK4, oK5⟩ := TK.out
            go_wp2_with fail
            refine (LO3.out _).mono ?_; rintro e w36 ⟨rfl, hb36⟩; have hz36 := hb36.size; (try simp only [World.size_alloc] at hz36)
            clear oK1 oK2 oK3 oK4 oK5
            have TK := Lib.hid (TK.out.below hb36)
            have TV := Lib.hid (TV.out.below hb36)
            obtain ⟨oK1, oK2, oK3, oK4, oK5⟩ := TK.out
            obtain ⟨oV1, oV2, oV3, oV4, oV5⟩ := TV.out
            go_wp2
            go_ret
            exact ⟨by first | rfl | simp, by (repeat' (first | (with_reducible exact Below.refl _ _) | (with_reducible assumption) | (with_reducible refine Below.drew ?_) | (with_reducible refine belowDrewN ?_ _) | (with_reducible refine Below.alloc ?_ ?_ _) | (with_reducible refine Below.setCell ?_ ?_ _) | (with_reducible refine belowStep (by assumption) ?_ ?_) | (with_reducible exact Below.size (by assumption)) | go_size))⟩
set_option maxRecDepth 100000 in
set_option maxHeartbeats 8000000 in
theorem FnExpansionsOverNumbers_walk (w : World) (A : Option Addr) (c n : Nat) (B : Option Addr) (d m' : Nat) (hA : ReadsB w A n ∧ n ≤ 9223372036854775807) (hB : ReadsB w B m' ∧ m' ≤ 9223372036854775807) :
    Calls Try.prog 6 #[.slice A n c, .slice B m' d] w (Ret (.bool true) w) := by
  obtain ⟨hA, hn⟩ := hA
  obtain ⟨hB, hm'⟩ := hB
  have HA := Lib.hid hA
  have HB := Lib.hid hB
  clear hA hB
  cases hbig : bigB n m' with
  | true =>
    go_enter Try.func6, Try.ntmps6
    go_wp2_with fail
    refine (big_any _ _ _ _ _ _ _ hn hm').mono ?_; rintro e w1 ⟨rfl, k1, rfl⟩
    rw [hbig]
    go_wp2
    go_ret
    exact ⟨rfl, by (repeat' (first | (with_reducible exact Below.refl _ _) | (with_reducible assumption) | (with_reducible refine Below.drew ?_) | (with_reducible refine belowDrewN ?_ _) | (with_reducible refine Below.alloc ?_ ?_ _) | (with_reducible refine Below.setCell ?_ ?_ _) | (with_reducible refine belowStep (by assumption) ?_ ?_) | (with_reducible exact Below.size (by assumption)) | go_size))⟩
  | false =>
    have hn2 : n ≤ 1048576 ∧ m' ≤ 1048576 := by
      simp only [bigB, Bool.or_eq_false_iff, decide_eq_false_iff_not] at hbig
      omega
    exact eo_whole w A c n B d m' hbig hn2.1 hn2.2 (fun w' hb => drawExpandOver_any w' A n c (HA.out.below hb) hn2.1) (fun w' hb => drawLeastOver_any w' B m' d (HB.out.below hb) hn2.2) (fun w' hb => drawPractical_any w' B m' d (HB.out.below hb) hn2.2)

set_option maxRecDepth 100000 in
theorem FnExpansionsOverNumbers_lifted (os : Os) (started : os.Started) (H : Type) (enc : TypeId × Value → H) :
    ReturnsInHanded {} Try.checked os 6 .any (Rows.fnExpansionsOverNumbersSpec.pre6 enc Try.prog Try.f6 Rows.fnExpansionsOverNumbersRow.domain false) (Rows.fnExpansionsOverNumbersSpec.post enc Try.prog Try.f6 false true false false) := by
  refine returnsInHanded_of_change (C := Try.checked) own started (by kernel_rfl) Try.func6
    (ChangeSpec.witness6 (enc := enc) (C := Try.checked) false ⟨#[], #[.slice none 0 0, .slice none 0 0], []⟩ 8 (by kernel_rfl) (by kernel_rfl) (by kernel_rfl) (by kernel_rfl)) ?_
  intro W base args ds gs before hval0 hW hcnd _
  have hval : ∀ (j : Nat) t v, Try.f6.params[j]? = some t → args[j]? = some v → Value.okWide Try.prog W .any base t v := hval0
  have hW' := hW
  have hlt : ∀ p ∈ before, p.block < W.heap.size := fun p hp => hW'.lt p hp
  obtain ⟨p, q, hA0, hV, rfl, hfz, hnd⟩ := hW
  have hA : DataW.TrodAll enc Try.prog W 0 (fun _ => true) true Try.f6.params.toList args.toList ds p := hA0
  rw [Try.params6] at hA hval
  obtain ⟨v0, vs0, d0, ds0, p0, q0, hargs, rfl, rfl, h0, r0⟩ := trodAll_cons hA
  obtain ⟨v1, vs1, d1, ds1, p1, q1, rfl, rfl, rfl, h1, r1⟩ := trodAll_cons r0
  obtain ⟨rfl, rfl, rfl⟩ := trodAll_nil r1
  obtain rfl : args = #[v0, v1] := by cases args; simp_all
  obtain ⟨rfl, rfl⟩ := trodVars_none hV
  obtain ⟨Aa, ca, na, rfl, ha⟩ := open_bytes_reads Try.underlying36 Try.underlying5 (by kernel_rfl) (hval 0 36 v0 rfl rfl) h0 (fun y hy => hlt y (by simp [hy]))
  obtain ⟨Ab, cb, nb, rfl, hb⟩ := open_bytes_reads Try.underlying36 Try.underlying5 (by kernel_rfl) (hval 1 36 v1 rfl rfl) h1 (fun y hy => hlt y (by simp [hy]))
  refine (FnExpansionsOverNumbers_walk W Aa ca na Ab cb nb ha hb).mono fun e W' ⟨he, hg⟩ => ?_
  subst he
  exact ⟨_, rfl, law_post laidOut (by rw [Try.params6]; intro t ht; simp only [List.mem_cons, List.not_mem_nil, or_false] at ht; rcases ht with rfl | rfl <;> exact ⟨by kernel_rfl, of_decide_eq_true (by kernel_rfl)⟩) (by kernel_rfl) Try.underlying4 rfl hW' rfl hg⟩

theorem FnExpansionsOverNumbers_closed : joinedFacts Try.prog 6 Try.f6 Rows.fnExpansionsOverNumbersSpec Rows.fnExpansionsOverNumbersRow = true := by
  unfold joinedFacts
  rw [mayEnter_eq, lifts_eq, make_eq]
  kernel_rfl

theorem FnExpansionsOverNumbers_holds : Rows.FnExpansionsOverNumbersSaid :=
  OpenClaim.holds_of_wide 6 Try.f6 rfl rfl rfl rfl rfl rfl rfl ⟨rfl, rfl, rfl, rfl, rfl⟩ rfl rfl rfl rfl rfl (by kernel_rfl) Try.func6 FnExpansionsOverNumbers_closed
    (of_decide_eq_true (by kernel_rfl)) (by unfold Func.isWrapper; first | (rw [if_pos (by decide +kernel)]; kernel_rfl) | (rw [if_neg (by decide +kernel)]; exact ⟨rfl, rfl⟩))
    (fun os started H enc _ => FnExpansionsOverNumbers_lifted os started H enc)

end Go.Proofs.Ytbjblkfibinenad
