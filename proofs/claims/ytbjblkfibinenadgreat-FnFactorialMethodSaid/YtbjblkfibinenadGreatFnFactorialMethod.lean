import Derived.Test.YtbjblkfibinenadGreatRows
import Derived.JoinedOf
import Derived.KernelRfl
import Derived.Test.YtbjblkfibinenadGreatPure
import Derived.Lib.SmallJoins
import Derived.Carry
import Derived.Test.YtbjblkfibinenadGreatList
import Derived.Test.YtbjblkfibinenadGreatDraw
import Derived.Test.YtbjblkfibinenadGreatSum2
import Derived.Test.YtbjblkfibinenadGreatHas
import Derived.Test.YtbjblkfibinenadGreatDrawF
import Derived.Test.YtbjblkfibinenadGreatFacL

/-
  Closed facts on this seat's program, shared by all of its laws.
-/
namespace Go.Proofs.YtbjblkfibinenadGreat
theorem mayEnter_eq : Tryz.prog.mayEnter = true := by kernel_rfl
theorem lifts_eq : Tryz.prog.liftsFinal = false := by kernel_rfl
theorem make_eq : Tryz.prog.make = some .cut := by kernel_rfl
end Go.Proofs.YtbjblkfibinenadGreat


/-
  The common last step of every law of this seat: a law's walk (it returns true, old memory is as it was) gives the law's row.
-/
namespace Go.Proofs.YtbjblkfibinenadGreat
open Go.ChangeShapes Go.WideShapes Go.ChangeAt Go.RowKit Go.Joins Go.Deep

theorem own : ownKnob Tryz.prog.godebug = none := by kernel_rfl
theorem laidOut : laidOutB Tryz.prog = true := by kernel_rfl

section
variable {H : Type} {enc : TypeId × Value → H} {P : Program}
theorem trodAll_stays {ts : List TypeId} (hl : laidOutB P = true) {W W' : World} {sp' : Nat → Bool} (hb : Below W.heap.size W W') :
    ∀ {vs : List Value} {ds : List (DataW H)} {ps : List MemPlace}, (∀ t ∈ ts, P.readableRec t = true ∧ t < P.types.size) →
      DataW.TrodAll enc P W 0 (fun _ => true) true ts vs ds ps → (∀ x ∈ ps, x.block < W.heap.size) → (∀ x ∈ ps, sp' x.block = true) → DataW.TrodAll enc P W' 0 sp' true ts vs ds ps := by
  induction ts with
  | nil =>
    intro vs ds ps _ h _ _
    match vs, ds, h with
    | [], [], h => exact h
  | cons t ts ih =>
    intro vs ds ps hr h hlt hsp
    match vs, ds, h with
    | v :: vs, d :: ds, ⟨p, q, h1, h2, e⟩ =>
      subst e
      exact ⟨p, q, WideElems.Trod_stays hl (hr t (by simp)).1 (hr t (by simp)).2 h1 (fun x hx => hb.same (hlt x (by simp [hx]))) (fun x hx => hsp x (by simp [hx])),
        ih (fun t' ht' => hr t' (by simp [ht'])) h2 (fun x hx => hlt x (by simp [hx])) (fun x hx => hsp x (by simp [hx])), rfl⟩

/-- The law's post: it returned true, and of old memory nothing has turned. -/
theorem law_post {f : Func} {s : ChangeSpec} {W W' : World} {args : Array Value} {ds gs : List (DataW H)} {before : List MemPlace} {tb : TypeId}
    (hl : laidOutB P = true) (hr : ∀ t ∈ f.params.toList, P.readableRec t = true ∧ t < P.types.size) (hrt : f.resultTypes = #[tb]) (htb : P.underlying tb = some .bool)
    (hvars : s.vars = []) (hW : DataW.Whole enc P f.params.toList s.vars false W args.toList ds gs before)
    (hfn : s.fn H (ds ++ gs) = { results := [.lit (.bool true)], args := ds }) (hb : Below W.heap.size W W') :
    s.post enc P f false true false false W args (.bool true) W' := by
  have hlt : ∀ p ∈ before, p.block < W.heap.size := fun p hp => hW.lt p hp
  have hold : ∀ p ∈ before, (fun b => decide (b < W.heap.size)) p.block = true := fun p hp => by simpa using hlt p hp
  obtain ⟨p, q, hA, hV, e, hz, hn⟩ := hW
  have hV' := hV
  rw [hvars] at hV'
  obtain ⟨rfl, rfl⟩ := trodVars_none hV'
  have hW : DataW.Whole enc P f.params.toList s.vars false W args.toList ds [] before := ⟨p, [], hA, hV, e, hz, hn⟩
  simp only [List.append_nil] at e
  subst e
  have hres : ∀ (b : Nat) (sp : Nat → Bool) (hd : Bool), DataW.TrodAll enc P W' b sp hd f.resultTypes.toList ((Value.bool true).resultList f.resultTypes.size) (s.fn H (ds ++ [])).results [] := by
    intro b sp hd
    rw [hfn, hrt]
    exact trodAll_cons_mk (shut_bool htb _) trodAll_mk0
  have hargs : ∀ sp : Nat → Bool, (∀ x ∈ before, sp x.block = true) → DataW.TrodAll enc P W' 0 sp true f.params.toList args.toList (s.fn H (ds ++ [])).args before := by
    intro sp hsp
    rw [hfn]
    exact trodAll_stays hl hb hr hA hlt hsp
  have hvs : ∀ sp : Nat → Bool, (∀ x ∈ before, sp x.block = true) → DataW.TrodVars enc P W' sp s.vars (s.fn H (ds ++ [])).vars [] := by
    intro sp _
    rw [hfn, hvars]
    rfl
  have hok : ∀ (j : Nat) (t : TypeId) (r : Value), f.resultTypes[j]? = some t → ((Value.bool true).resultList f.resultTypes.size)[j]? = some r → Value.okWide P W' .any 0 t r :=
    ok_one hrt rfl (okWide_bool_mk htb _)
  refine ⟨ds, [], before, [], before, [], hW, hres _ _ _, hargs _ hold, hvs _ hold, World.keptBut_mono (fun p hp => ⟨hp, ?_⟩) (hb.frame (· ∈ before)), fun h => by cases h⟩
  exact Or.inr (Or.inl hp)

/-- A struct of two ints, by value. -/
theorem open_two {W : World} {base : Nat} {r : Reach} {b0 : Nat} {t ti : TypeId} {v : Value} {d : DataW H} {p : List MemPlace} {sp : Nat → Bool} {held : Bool} {f0 f1 : Field} (ht : P.underlying t = some (.struct #[f0, f1])) (h0 : f0.type = ti) (h1 : f1.type = ti)
    (hone : oneCellFields P #[f0, f1] = true) (hC : P.cellsOf t = 2) (hti : P.underlying ti = some (.int .i64))
    (hv : Value.okWide P W r b0 t v) (h : DataW.Trod enc P W base sp held t v d p) :
    ∃ n m : Int, v = .agg #[.int .i64 n, .int .i64 m] ∧ -9223372036854775808 ≤ n ∧ n ≤ 9223372036854775807 ∧ -9223372036854775808 ≤ m ∧ m ≤ 9223372036854775807 := by
  obtain ⟨v0, v1, y0, y1, k, rfl, _, _, e0, e1⟩ := open_agg2 ht hone hC hv h
  rw [h0] at e0
  rw [h1] at e1
  obtain ⟨n, hn1, _, hn2⟩ := DataW.trod_int hti e0
  obtain ⟨m, hm1, _, hm2⟩ := DataW.trod_int hti e1
  simp only [List.cons.injEq, and_true] at hn1 hm1
  subst hn1
  subst hm1
  have a := bounds_i64 hn2
  have b := bounds_i64 hm2
  exact ⟨n, m, rfl, a.1, a.2, b.1, b.2⟩
/-- A slice of ints: nil, empty or not, one way. -/
theorem open_ints_reads {W : World} {r : Reach} {b0 : Nat} {t ti : TypeId} {v : Value} {d : DataW H} {p : List MemPlace} (ht : P.underlying t = some (.slice ti)) (hti : P.underlying ti = some (.int .i64)) (hC : P.cellsOf ti = 1)
    (hv : Value.okWide P W r b0 t v) (h : DataW.Trod enc P W 0 (fun _ => true) true t v d p) (hlt : ∀ y ∈ p, y.block < W.heap.size) :
    ∃ (A : Option Addr) (c : Nat) (xs : List Int), v = .slice A xs.length c ∧ Reads W A xs ∧ (∀ (i : Nat) (x : Int), xs[i]? = some x → -9223372036854775808 ≤ x ∧ x ≤ 9223372036854775807) := by
  obtain ⟨a0, len, cap, rfl⟩ := okWide_slice ht hv
  obtain ⟨fuel, hf⟩ := h
  rcases open_ints ht hti hC hf with ⟨hcs, _⟩ | ⟨a, len', cap', zs, hcs, _, hl, hm, hz, hx, hcell, hw⟩
  · simp [Value.cells] at hcs
    obtain ⟨rfl, rfl, rfl⟩ := hcs
    exact ⟨none, 0, [], rfl, Reads.nil, fun i x h => by simp at h⟩
  · simp [Value.cells] at hcs
    obtain ⟨rfl, rfl, rfl⟩ := hcs
    simp only [if_true] at hz
    have hll : (zs.take len).length = len := by rw [List.length_take]; omega
    refine ⟨some a, cap, zs.take len, by rw [hll], fun h0 => ?_, fun i x h => ?_⟩
    · obtain ⟨b, o, spot⟩ := a
      have hspot : spot = none := by simpa [Addr.add] using World.cell?_spot (hcell 0 (by omega))
      subst hspot
      refine ⟨b, o, rfl, ?_, fun i x h => ?_⟩
      · simp only [Prod.mk.injEq] at hx
        have := hlt (.cell b o) (by rw [hx.2]; exact MemPlace.mem_row.2 ⟨0, by omega, by simp⟩)
        exact this
      · have hi : i < len := by have := (List.getElem?_eq_some_iff.1 h).1; omega
        have hc := hcell i (by omega)
        rw [List.getElem?_take, if_pos hi] at h
        rw [List.getD, h] at hc
        simpa [add_plain] using hc
    · have hi : i < len := by have := (List.getElem?_eq_some_iff.1 h).1; omega
      rw [List.getElem?_take, if_pos hi] at h
      exact bounds_i64 (hw x (List.mem_of_getElem? h))
end
end Go.Proofs.YtbjblkfibinenadGreat


/-
  Contracts of the laws' own helpers.
-/
namespace Go.Proofs.YtbjblkfibinenadGreat
open Go.RowKit
def bigB (n m : Nat) : Bool := decide (1048576 < n) || decide (1048576 < n + m)
theorem big_any (w : World) (A B : Option Addr) (n m c d : Nat) (hn : n ≤ 9223372036854775807) (_ : m ≤ 9223372036854775807) : Calls Tryz.prog 6 #[.slice A n c, .slice B m d] w (RetQ (.bool (bigB n m)) w) := by
  by_cases h : 1048576 < n
  · have h1 : 1048576 < (n : Int) := by omega
    have E : Hid (bigB n m = true) := by show bigB n m = true; simp [bigB, h]
    go_enter Tryz.func6, Tryz.ntmps6
    go_wp2
    go_ret
    exact ⟨ret_bool (by first | (rw [E.out]; done) | (rw [E.out]; simp; done) | (rw [E.out]; simp; omega)), 0, rfl⟩
  · have h1 : ¬ 1048576 < (n : Int) := by omega
    have h2 : (n : Int) ≤ 1048576 := by omega
    have E : Hid (bigB n m = decide (1048576 - (n : Int) < m)) := by
      show bigB n m = _
      rw [Bool.eq_iff_iff]; simp [bigB, h]; omega
    go_enter Tryz.func6, Tryz.ntmps6
    go_wp2
    go_ret
    exact ⟨ret_bool (by first | (rw [E.out]; done) | (rw [E.out]; simp; done) | (rw [E.out]; simp; omega)), 0, rfl⟩
set_option maxHeartbeats 1000000 in
theorem pSame_same (w : World) (A B : Option Addr) (c d : Nat) (xs : List Int) (ha : Reads w A xs) (hb : Reads w B xs) (hl : xs.length ≤ 1048576) :
    Calls Tryz.prog 12 #[.slice A xs.length c, .slice B xs.length d] w (RetQ (.bool true) w) := by
  go_enter Tryz.func12, Tryz.ntmps12
  go_wp2
  go_loopw [13] (fun v5 wr => ∃ k : Nat, k ≤ xs.length ∧ v5 = .int .i64 k ∧ ∃ n, wr = w.drewN n) (fun v5 _ => xs.length - (intOf v5).toNat)
  case atStart => exact ⟨0, Nat.zero_le _, rfl, 0, rfl⟩
  case round =>
    obtain ⟨k, hk, rfl, n, rfl⟩ := hrel
    by_cases hlt : k < xs.length
    · obtain ⟨b, o, x, rfl, _, hx, hcell⟩ := ha.at_ hlt
      obtain ⟨b', o', x', rfl, _, hx', hcell'⟩ := hb.at_ hlt
      obtain rfl : x = x' := by rw [hx] at hx'; injection hx'
      have hki : (k : Int) < (xs.length : Int) := by omega
      clear hx hx' ha hb
      go_wp2
      go_quiet (fail)
      go_wp2
      go_roundw
      case rel => exact ⟨k + 1, by omega, by go_num, _, rfl⟩
      case measure => simp [intOf]; omega
    · go_wp2
      go_ret
      exact ⟨rfl, n, rfl⟩
set_option maxHeartbeats 1000000 in
theorem pHas_any (w : World) (v : Int) (Axs : Option Addr) (cxs : Nat) (xs : List Int) (hxs : Reads w Axs xs) (lxs : xs.length ≤ 1048576) : Calls Tryz.prog 15 #[.slice Axs xs.length cxs, .int .i64 v] w (RetQ (.bool (hasB xs v)) w) := by
  go_enter Tryz.func15, Tryz.ntmps15
  go_wp2
  go_loopw [9] (fun v8 wr => ∃ k : Nat, k ≤ xs.length ∧ v8 = .int .i64 k ∧ hasB xs v = hasB (xs.drop k) v ∧ ∃ n, wr = w.drewN n) (fun v8 _ => xs.length - (intOf v8).toNat)
  case atStart => exact ⟨0, Nat.zero_le _, rfl, rfl, 0, rfl⟩
  case round =>
    obtain ⟨k, hk, rfl, hr, n, rfl⟩ := hrel
    have Hr := Lib.hid hr
    clear hr
    by_cases hlt : k < xs.length
    · obtain ⟨b, o, x, rfl, hb, hx, hcell⟩ := hxs.at_ hlt
      have Hx := Lib.hid hx
      clear hx
      by_cases he : x = v
      · have hee : (x == v) = true := by simp [he]
        have He := Lib.hid he
        clear he
        go_wp2
        go_ret
        exact ⟨ret_bool (by rw [Hr.out, drop_at Hx.out, has_hit He.out]), n, rfl⟩
      · have hee : (x == v) = false := by simp; omega
        have He := Lib.hid he
        clear he
        go_wp2
        go_roundw
        case rel => exact ⟨k + 1, by omega, by go_num, by rw [Hr.out, drop_at Hx.out, has_miss He.out], n, rfl⟩
        case measure => simp [intOf]; omega
    · obtain rfl : k = xs.length := by omega
      go_wp2
      go_ret
      exact ⟨ret_bool (by rw [Hr.out, drop_all]; rfl), n, rfl⟩
theorem pSums_yes (w : World) (n d : Int) (Axs : Option Addr) (cxs : Nat) (xs : List Int) (hxs : Reads w Axs xs) (lxs : xs.length ≤ 1048576) (r64 : ∀ (i : Nat) (x : Int), xs[i]? = some x → -9223372036854775808 ≤ x ∧ x ≤ 9223372036854775807) (h : expB xs = true) (hn : eN xs = n) (hd : eD xs = d) : Calls Tryz.prog 13 #[.slice Axs xs.length cxs, .agg #[.int .i64 n, .int .i64 d]] w (Ret (.bool true) w) := by
  have Hxs := Lib.hid hxs
  have Hr64 := Lib.hid r64
  have Hn := Lib.hid hn
  have Hd := Lib.hid hd
  have H := Lib.hid h
  clear hxs r64 hn hd h
  go_enter Tryz.func13, Tryz.ntmps13
  go_wp2_with fail
  refine (sumOf_any _ _ _ _ (Hxs.out.below (by (repeat' (first | (with_reducible exact Below.refl _ _) | (with_reducible assumption) | (with_reducible refine Below.drew ?_) | (with_reducible refine belowDrewN ?_ _) | (with_reducible refine Below.alloc ?_ ?_ _) | (with_reducible refine Below.setCell ?_ ?_ _) | (with_reducible refine belowStep (by assumption) ?_ ?_) | (with_reducible exact Below.size (by assumption)) | go_size)))) lxs Hr64.out).mono ?_; rintro e w1 ⟨rfl, hb1⟩; have hz1 := hb1.size; (try simp only [World.size_alloc] at hz1)
  rw [Hn.out, Hd.out, H.out]
  obtain ⟨hc1, hf1⟩ := bcellB hb1; have hz1 := hb1.size; (try simp only [World.size_alloc] at hc1 hf1 hz1); (try have hy1_r_0 : wr.heap.size < w1.heap.size := by omega); (try have hn1_r_0 : wr.heap.size ≠ w1.heap.size := by omega); (try have hm1_r_0 : w1.heap.size ≠ wr.heap.size := by omega); (try have hy1_r_1 : wr.heap.size + 1 < w1.heap.size := by omega); (try have hn1_r_1 : wr.heap.size + 1 ≠ w1.heap.size := by omega); (try have hm1_r_1 : w1.heap.size ≠ wr.heap.size + 1 := by omega); (try have hy1_r_2 : wr.heap.size + 1 + 1 < w1.heap.size := by omega); (try have hp1_r_1 : wr.heap.size < w1.heap.size + 1 := by omega); (try have hp1_r_2 : wr.heap.size < w1.heap.size + 1 + 1 := by omega); (try have hy1_0_0 : w.heap.size < w1.heap.size := by omega); (try have hn1_0_0 : w.heap.size ≠ w1.heap.size := by omega); (try have hm1_0_0 : w1.heap.size ≠ w.heap.size := by omega); (try have hy1_0_1 : w.heap.size + 1 < w1.heap.size := by omega); (try have hn1_0_1 : w.heap.size + 1 ≠ w1.heap.size := by omega); (try have hm1_0_1 : w1.heap.size ≠ w.heap.size + 1 := by omega); (try have hy1_0_2 : w.heap.size + 1 + 1 < w1.heap.size := by omega); (try have hp1_0_1 : w.heap.size < w1.heap.size + 1 := by omega); (try have hp1_0_2 : w.heap.size < w1.heap.size + 1 + 1 := by omega); (try have hg1_g1 : g1 < w1.heap.size := by omega); (try have hi1_g1 : g1 ≠ w1.heap.size := by omega); (try have hj1_g1 : w1.heap.size ≠ g1 := by omega); (try have hk1_g1 : g1 < w1.heap.size + 1 := by omega); (try have hg1_g2 : g2 < w1.heap.size := by omega); (try have hi1_g2 : g2 ≠ w1.heap.size := by omega); (try have hj1_g2 : w1.heap.size ≠ g2 := by omega); (try have hk1_g2 : g2 < w1.heap.size + 1 := by omega)
  go_wp2
  go_ret
  exact ⟨rfl, by (repeat' (first | (with_reducible exact Below.refl _ _) | (with_reducible assumption) | (with_reducible refine Below.drew ?_) | (with_reducible refine belowDrewN ?_ _) | (with_reducible refine Below.alloc ?_ ?_ _) | (with_reducible refine Below.setCell ?_ ?_ _) | (with_reducible refine belowStep (by assumption) ?_ ?_) | (with_reducible exact Below.size (by assumption)) | go_size))⟩
open Go.ChangeShapes Go.WideShapes Go.ChangeAt Go.Joins Go.Deep
section
variable {H : Type} {enc : TypeId × Value → H} {P : Program}
/-- A slice of bytes: nil, empty or not, one way. -/
theorem open_bytes_reads {W : World} {r : Reach} {b0 : Nat} {t ti : TypeId} {v : Value} {d : DataW H} {p : List MemPlace} (ht : P.underlying t = some (.slice ti)) (hti : P.underlying ti = some (.int .u8)) (hC : P.cellsOf ti = 1)
    (hv : Value.okWide P W r b0 t v) (h : DataW.Trod enc P W 0 (fun _ => true) true t v d p) (hlt : ∀ y ∈ p, y.block < W.heap.size) :
    ∃ (A : Option Addr) (c : Nat) (n : Nat), v = .slice A n c ∧ (ReadsB W A n ∧ n ≤ 9223372036854775807) := by
  obtain ⟨a0, len, cap, rfl⟩ := okWide_slice ht hv
  obtain ⟨fuel, hf⟩ := h
  rcases open_ints ht hti hC hf with ⟨hcs, _⟩ | ⟨a, len', cap', zs, hcs, _, hl, hm, hz, hx, hcell, hw⟩
  · simp [Value.cells] at hcs
    obtain ⟨rfl, rfl, rfl⟩ := hcs
    exact ⟨none, 0, 0, rfl, fun h0 => by omega, by omega⟩
  · simp [Value.cells] at hcs
    obtain ⟨rfl, rfl, rfl⟩ := hcs
    simp only [if_true] at hz
    unfold maxLen at hm
    refine ⟨some a, cap, len, rfl, fun h0 => ?_, by omega⟩
    obtain ⟨b, o, spot⟩ := a
    have hspot : spot = none := by simpa [Addr.add] using World.cell?_spot (hcell 0 (by omega))
    subst hspot
    refine ⟨b, o, rfl, ?_, fun i hi => ?_⟩
    · simp only [Prod.mk.injEq] at hx
      exact hlt (.cell b o) (by rw [hx.2]; exact MemPlace.mem_row.2 ⟨0, by omega, by simp⟩)
    · have hc := hcell i (by omega)
      have hb := range_u8 hw i
      refine ⟨zs.getD i 0, by simpa [Go.WideShapes.add_plain] using hc, ?_⟩
      simpa [List.getD] using hb
end
end Go.Proofs.YtbjblkfibinenadGreat


/-
  For all bytes: a fraction and digits are drawn; the fraction's digits by factorials are the model's and give it back, drawn digits are got back from their fraction, and there is a term for each digit that is no 0, with the fraction as their sum. No condition.
-/
namespace Go.Proofs.YtbjblkfibinenadGreat
open Go.ChangeShapes Go.WideShapes Go.ChangeAt Go.RowKit Go.Joins Go.Deep
theorem RetQ.retL {v : Value} {w : World} {e : Ending} {w' : World} (h : RetQ v w e w') : Ret v w e w' := by
  obtain ⟨rfl, k, rfl⟩ := h
  exact ⟨rfl, by (repeat' (first | (with_reducible exact Below.refl _ _) | (with_reducible assumption) | (with_reducible refine Below.drew ?_) | (with_reducible refine belowDrewN ?_ _) | (with_reducible refine Below.alloc ?_ ?_ _) | (with_reducible refine Below.setCell ?_ ?_ _) | (with_reducible refine belowStep (by assumption) ?_ ?_) | (with_reducible exact Below.size (by assumption)) | go_size))⟩
theorem pSame_n (w : World) (A B : Option Addr) (c d n m : Nat) (ys : List Int) (hn : ys.length = n) (hm : ys.length = m) (ha : Reads w A ys) (hb : Reads w B ys) (hl : n ≤ 1048576) :
    Calls Tryz.prog 12 #[.slice A n c, .slice B m d] w (RetQ (.bool true) w) := by
  subst hn
  rw [← hm]
  exact pSame_same w A B c d ys ha hb hl
/-- whether digits are asked to be got back -/
def ffL (zs : List Int) : Bool := ffB zs && (match zs.getLast? with | some x => decide (0 < x) | none => false) && decide (ffRN zs < ffRD zs)
theorem ffL_yes {zs : List Int} (h : ffL zs = true) : ffB zs = true ∧ ffRN zs < ffRD zs ∧ ∃ k x, zs.length = k + 1 ∧ zs[k]? = some x ∧ 0 < x := by
  unfold ffL at h
  simp only [Bool.and_eq_true, decide_eq_true_eq] at h
  obtain ⟨⟨h1, h2⟩, h3⟩ := h
  refine ⟨h1, h3, ?_⟩
  cases hl : zs.getLast? with
  | none => rw [hl] at h2; cases h2
  | some x =>
    rw [hl] at h2
    rw [List.getLast?_eq_getElem?] at hl
    have hp : zs.length - 1 < zs.length := (List.getElem?_eq_some_iff.1 hl).1
    exact ⟨zs.length - 1, x, by omega, hl, by simpa using h2⟩
theorem ffL_at {zs : List Int} {k : Nat} {x : Int} (hk : zs.length = k + 1) (hx : zs[k]? = some x) : ffL zs = (ffB zs && decide (0 < x) && decide (ffRN zs < ffRD zs)) := by
  unfold ffL
  rw [List.getLast?_eq_getElem?, hk, Nat.add_sub_cancel, hx]
theorem ffL_nil {zs : List Int} (h : zs.length = 0) : ffL zs = false := by
  obtain rfl := List.eq_nil_of_length_eq_zero h
  unfold ffL
  simp
set_option maxRecDepth 100000 in
set_option maxHeartbeats 32000000 in
theorem FnFactorialMethod_walk (w : World) (A : Option Addr) (c n : Nat) (B : Option Addr) (d m' : Nat) (hA : ReadsB w A n ∧ n ≤ 9223372036854775807) (hB : ReadsB w B m' ∧ m' ≤ 9223372036854775807) :
    Calls Tryz.prog 4 #[.slice A n c, .slice B m' d] w (Ret (.bool true) w) := by
  obtain ⟨hA, hn⟩ := hA
  obtain ⟨hB, hm'⟩ := hB
  have HA := Lib.hid hA
  have HB := Lib.hid hB
  clear hA hB
  cases hbig : bigB n m' with
  | true =>
    go_enter Tryz.func4, Tryz.ntmps4
    go_wp2_with fail
    refine (big_any _ _ _ _ _ _ _ hn hm').mono ?_; rintro e w1 ⟨rfl, k1, rfl⟩
    go_wp2
    go_ret
    exact ⟨rfl, by (repeat' (first | (with_reducible exact Below.refl _ _) | (with_reducible assumption) | (with_reducible refine Below.drew ?_) | (with_reducible refine belowDrewN ?_ _) | (with_reducible refine Below.alloc ?_ ?_ _) | (with_reducible refine Below.setCell ?_ ?_ _) | (with_reducible refine belowStep (by assumption) ?_ ?_) | (with_reducible exact Below.size (by assumption)) | go_size))⟩
  | false =>
    have hn2 : n ≤ 1048576 ∧ m' ≤ 1048576 := by
      simp only [bigB, Bool.or_eq_false_iff, decide_eq_false_iff_not] at hbig
      omega
    go_enter Tryz.func4, Tryz.ntmps4
    go_wp2_with fail
    refine (big_any _ _ _ _ _ _ _ hn hm').mono ?_; rintro e w1 ⟨rfl, k1, rfl⟩
    go_wp2_with fail
    refine (drawFactored_any _ A n c (HA.out.below (by (repeat' (first | (with_reducible exact Below.refl _ _) | (with_reducible assumption) | (with_reducible refine Below.drew ?_) | (with_reducible refine belowDrewN ?_ _) | (with_reducible refine Below.alloc ?_ ?_ _) | (with_reducible refine Below.setCell ?_ ?_ _) | (with_reducible refine belowStep (by assumption) ?_ ?_) | (with_reducible exact Below.size (by assumption)) | go_size)))) hn2.1).mono ?_; rintro e w2 ⟨a, b, rfl, ha, hb, hb2⟩
    have hz2 := hb2.size
    (try simp only [World.heap_drewN] at hz2)
    clear hbig
    have TG := Lib.hid (TwoAt.new w2 (a) (b) 25)
    obtain ⟨oG1, oG2, oG3, oG4, oG5⟩ := TG.out
    go_wp2_with fail
    refine (factorialDigits_any a b _ ha hb).mono ?_; rintro e w3 ⟨v3, rfl, ho3, hb3⟩; have hz3 := hb3.size; (try simp only [World.size_alloc] at hz3)
    clear oG1 oG2 oG3 oG4 oG5
    have TG := Lib.hid (TG.out.below hb3)
    obtain ⟨A3, c3, rfl, hr3⟩ := ho3.form
    have HD3 := Lib.hid hr3
    clear ho3 hr3
    obtain ⟨oG1, oG2, oG3, oG4, oG5⟩ := TG.out
    go_wp2_with fail
    refine (spec_factorialDigits_any a b _).mono ?_; rintro e w4 ⟨A4, c4, rfl, hr4, hb4⟩; have hz4 := hb4.size; (try simp only [World.size_alloc, World.size_setCell, World.size_drew, World.heap_drewN] at hz4)
    clear oG1 oG2 oG3 oG4 oG5
    have TG := Lib.hid (TG.out.below hb4)
    have HD4 := Lib.hid hr4
    have HD3 := Lib.hid (HD3.out.below hb4)
    have hdl := fdO_len a b
    clear hr4
    obtain ⟨oG1, oG2, oG3, oG4, oG5⟩ := TG.out
    go_wp2_with fail
    refine ((pSame_same _ _ _ _ _ _ HD3.out HD4.out (by omega)).mono fun _ _ h => h.retL).mono ?_; rintro e w5 ⟨rfl, hb5⟩
    have hz5 := hb5.size
    clear oG1 oG2 oG3 oG4 oG5
    have TG := Lib.hid (TG.out.below hb5)
    have HDa := Lib.hid (HD3.out.below hb5)
    clear HD3 HD4
    obtain ⟨oG1, oG2, oG3, oG4, oG5⟩ := TG.out
    go_wp2_with fail
    refine (factorialExp_any a b _ ha hb).mono ?_; rintro e w6 ⟨v6, rfl, ho6, hb6⟩; have hz6 := hb6.size; (try simp only [World.size_alloc, World.size_setCell, World.size_drew, World.heap_drewN] at hz6)
    clear oG1 oG2 oG3 oG4 oG5
    have TG := Lib.hid (TG.out.below hb6)
    have HDb := Lib.hid (HDa.out.below hb6)
    obtain ⟨A6, c6, rfl, hr6⟩ := ho6.form
    have HR6 := Lib.hid hr6
    clear ho6 hr6 HDa
    obtain ⟨oG1, oG2, oG3, oG4, oG5⟩ := TG.out
    go_wp2_with fail
    refine (spec_factorialExp_any a b _).mono ?_; rintro e w7 ⟨A7, c7, rfl, hr7, hb7⟩; have hz7 := hb7.size; (try simp only [World.size_alloc, World.size_setCell, World.size_drew, World.heap_drewN] at hz7)
    clear oG1 oG2 oG3 oG4 oG5
    have TG := Lib.hid (TG.out.below hb7)
    have HDc := Lib.hid (HDb.out.below hb7)
    have HR7 := Lib.hid hr7
    have HRb := Lib.hid (HR6.out.below hb7)
    have hxl := fxO_len a b
    clear hr7 HDb HR6
    obtain ⟨oG1, oG2, oG3, oG4, oG5⟩ := TG.out
    go_wp2_with fail
    refine ((pSame_same _ _ _ _ _ _ HRb.out HR7.out (by omega)).mono fun _ _ h => h.retL).mono ?_; rintro e w8 ⟨rfl, hb8⟩
    have hz8 := hb8.size
    clear oG1 oG2 oG3 oG4 oG5
    have TG := Lib.hid (TG.out.below hb8)
    have HDd := Lib.hid (HDc.out.below hb8)
    have HRd := Lib.hid (HRb.out.below hb8)
    have hbw8 : Below w.heap.size w w8 := by (repeat' (first | (with_reducible exact Below.refl _ _) | (with_reducible assumption) | (with_reducible refine Below.drew ?_) | (with_reducible refine belowDrewN ?_ _) | (with_reducible refine Below.alloc ?_ ?_ _) | (with_reducible refine Below.setCell ?_ ?_ _) | (with_reducible refine belowStep (by assumption) ?_ ?_) | (with_reducible exact Below.size (by assumption)) | go_size))
    clear HDc HRb HR7
    obtain ⟨oG1, oG2, oG3, oG4, oG5⟩ := TG.out
    go_wp2_with fail
    refine (drawFromFactorial_any _ B m' d ((HB.out.below hbw8).below (by (repeat' (first | (with_reducible exact Below.refl _ _) | (with_reducible assumption) | (with_reducible refine Below.drew ?_) | (with_reducible refine belowDrewN ?_ _) | (with_reducible refine Below.alloc ?_ ?_ _) | (with_reducible refine Below.setCell ?_ ?_ _) | (with_reducible refine belowStep (by assumption) ?_ ?_) | (with_reducible exact Below.size (by assumption)) | go_size)))) hn2.2).mono ?_; rintro e w9 ⟨v9, zs, rfl, ho9, hl9, h64, hb9⟩
    have hz9 := hb9.size
    (try simp only [World.size_alloc, World.heap_drewN] at hz9)
    clear oG1 oG2 oG3 oG4 oG5
    have TG := Lib.hid (TG.out.below hb9)
    have HDe := Lib.hid (HDd.out.below (w' := w9) (by (repeat' (first | (with_reducible exact Below.refl _ _) | (with_reducible assumption) | (with_reducible refine Below.drew ?_) | (with_reducible refine belowDrewN ?_ _) | (with_reducible refine Below.alloc ?_ ?_ _) | (with_reducible refine Below.setCell ?_ ?_ _) | (with_reducible refine belowStep (by assumption) ?_ ?_) | (with_reducible exact Below.size (by assumption)) | go_size))))
    have HRe := Lib.hid (HRd.out.below (w' := w9) (by (repeat' (first | (with_reducible exact Below.refl _ _) | (with_reducible assumption) | (with_reducible refine Below.drew ?_) | (with_reducible refine belowDrewN ?_ _) | (with_reducible refine Below.alloc ?_ ?_ _) | (with_reducible refine Below.setCell ?_ ?_ _) | (with_reducible refine belowStep (by assumption) ?_ ?_) | (with_reducible exact Below.size (by assumption)) | go_size))))
    obtain ⟨A9, c9, rfl, hr9⟩ := ho9.form
    have hcap9 := ho9.cap_
    have HZ := Lib.hid hr9
    have hzl : zs.length ≤ 1048576 := by omega
    clear ho9 hr9 h64 HDd HRd
    obtain ⟨oG1, oG2, oG3, oG4, oG5⟩ := TG.out
    go_wp2_with fail
    refine (fromFactorial_any _ _ _ _ (HZ.out.below (by (repeat' (first | (with_reducible exact Below.refl _ _) | (with_reducible assumption) | (with_reducible refine Below.drew ?_) | (with_reducible refine belowDrewN ?_ _) | (with_reducible refine Below.alloc ?_ ?_ _) | (with_reducible refine Below.setCell ?_ ?_ _) | (with_reducible refine belowStep (by assumption) ?_ ?_) | (with_reducible exact Below.size (by assumption)) | go_size)))) hzl).mono ?_; rintro e w10 ⟨rfl, hb10⟩; have hz10 := hb10.size; (try simp only [World.size_alloc, World.size_setCell, World.size_drew, World.heap_drewN] at hz10)
    clear oG1 oG2 oG3 oG4 oG5
    have TG := Lib.hid (TG.out.below hb10)
    have TH := Lib.hid (TwoAt.new w10 (ffRN zs) (ffRD zs) 25)
    have TG := Lib.hid (TG.out.below ((Below.refl _ _).alloc (Nat.le_refl _) (.cells #[.int .i64 (ffRN zs), .int .i64 (ffRD zs)] 25)))
    go_wp2_with fail
    refine (spec_fromFactorial_any _ _ _ _ (HZ.out.below (by (repeat' (first | (with_reducible exact Below.refl _ _) | (with_reducible assumption) | (with_reducible refine Below.drew ?_) | (with_reducible refine belowDrewN ?_ _) | (with_reducible refine Below.alloc ?_ ?_ _) | (with_reducible refine Below.setCell ?_ ?_ _) | (with_reducible refine belowStep (by assumption) ?_ ?_) | (with_reducible exact Below.size (by assumption)) | go_size)))) hzl).mono ?_; rintro e w11 ⟨rfl, hb11⟩; have hz11 := hb11.size; (try simp only [World.size_alloc] at hz11)
    have TG := Lib.hid (TG.out.below hb11)
    have TH := Lib.hid (TH.out.below hb11)
    have TI := Lib.hid (TwoAt.new w11 (ffRN zs) (ffRD zs) 25)
    have TG := Lib.hid (TG.out.below ((Below.refl _ _).alloc (Nat.le_refl _) (.cells #[.int .i64 (ffRN zs), .int .i64 (ffRD zs)] 25)))
    have TH := Lib.hid (TH.out.below ((Below.refl _ _).alloc (Nat.le_refl _) (.cells #[.int .i64 (ffRN zs), .int .i64 (ffRD zs)] 25)))
    have hbw11 : Below w.heap.size w (w11.alloc (.cells #[.int .i64 (ffRN zs), .int .i64 (ffRD zs)] 25)) := by (repeat' (first | (with_reducible exact Below.refl _ _) | (with_reducible assumption) | (with_reducible refine Below.drew ?_) | (with_reducible refine belowDrewN ?_ _) | (with_reducible refine Below.alloc ?_ ?_ _) | (with_reducible refine Below.setCell ?_ ?_ _) | (with_reducible refine belowStep (by assumption) ?_ ?_) | (with_reducible exact Below.size (by assumption)) | go_size))
    obtain ⟨w12, hw12⟩ : ∃ w12, w12 = w11.alloc (.cells #[.int .i64 (ffRN zs), .int .i64 (ffRD zs)] 25) := ⟨_, rfl⟩
    have HZm := Lib.hid (HZ.out.below (w' := w12) (by rw [hw12]; (repeat' (first | (with_reducible exact Below.refl _ _) | (with_reducible assumption) | (with_reducible refine Below.drew ?_) | (with_reducible refine belowDrewN ?_ _) | (with_reducible refine Below.alloc ?_ ?_ _) | (with_reducible refine Below.setCell ?_ ?_ _) | (with_reducible refine belowStep (by assumption) ?_ ?_) | (with_reducible exact Below.size (by assumption)) | go_size))))
    have HDm := Lib.hid (HDe.out.below (w' := w12) (by rw [hw12]; (repeat' (first | (with_reducible exact Below.refl _ _) | (with_reducible assumption) | (with_reducible refine Below.drew ?_) | (with_reducible refine belowDrewN ?_ _) | (with_reducible refine Below.alloc ?_ ?_ _) | (with_reducible refine Below.setCell ?_ ?_ _) | (with_reducible refine belowStep (by assumption) ?_ ?_) | (with_reducible exact Below.size (by assumption)) | go_size))))
    have HRm := Lib.hid (HRe.out.below (w' := w12) (by rw [hw12]; (repeat' (first | (with_reducible exact Below.refl _ _) | (with_reducible assumption) | (with_reducible refine Below.drew ?_) | (with_reducible refine belowDrewN ?_ _) | (with_reducible refine Below.alloc ?_ ?_ _) | (with_reducible refine Below.setCell ?_ ?_ _) | (with_reducible refine belowStep (by assumption) ?_ ?_) | (with_reducible exact Below.size (by assumption)) | go_size))))
    have hz12 : w12.heap.size = w11.heap.size + 1 := by rw [hw12]; simp
    obtain ⟨oH1, oH2, oH3, oH4, oH5⟩ := TH.out
    obtain ⟨oI1, oI2, oI3, oI4, oI5⟩ := TI.out
    have hne : w10.heap.size ≠ w11.heap.size := by omega
    clear HDe HRe HZ
    obtain ⟨rb, hrb⟩ : ∃ rb, ffB zs = rb := ⟨_, rfl⟩
    have HRB := Lib.hid hrb
    rw [hrb]
    clear hrb
    go_upto_region 17 with fail
    clear oH1 oH2 oH3 oH4 oH5
    clear oI1 oI2 oI3 oI4 oI5
    rw [← hw12] at TG TH hbw11 ⊢
    have TGm := Lib.hid TG.out
    have THm := Lib.hid TH.out
    clear hw12
    go_cut [112] (fun s112 wx => s112 = .bool (ffL zs) ∧ wx = w12)
    case first =>
      obtain ⟨oH1, oH2, oH3, oH4, oH5⟩ := THm.out
      cases rb with
      | false =>
        have E : Hid (ffL zs = false) := Lib.hid (by unfold ffL; rw [HRB.out]; rfl)
        go_wp2_with fail
        go_meet
        exact ⟨by rw [E.out], rfl⟩
      | true =>
        by_cases h0 : zs.length = 0
        · obtain rfl := List.eq_nil_of_length_eq_zero h0
          have E := Lib.hid (ffL_nil h0)
          clear h0
          go_wp2_with fail
          go_meet
          exact ⟨by rw [E.out], rfl⟩
        · obtain ⟨k, hk⟩ : ∃ k, zs.length = k + 1 := ⟨zs.length - 1, by omega⟩
          have hk1 : zs.length ≤ k + 1 := by omega
          have hk2 : k + 1 ≤ zs.length := by omega
          obtain ⟨bz, oz, x, eA, hbz, hxz, hcz⟩ := HZm.out.at_ (k := k) (by omega)
          have E0 := Lib.hid (ffL_at hk hxz)
          have hidx : ((zs.length : Nat) : Int) - 1 = (k : Int) := by omega
          have hidw : IntKind.i64.wrap (((zs.length : Nat) : Int) - 1) = (k : Int) := by rw [hidx]; exact IntWalk.i64_in _ (by omega)
          have hkl : (k : Int) < ((zs.length : Nat) : Int) := by omega
          have hl0 : (0 : Int) < ((zs.length : Nat) : Int) := by omega
          subst eA
          clear hk h0 hxz
          by_cases hx0 : 0 < x
          · by_cases hlt : ffRN zs < ffRD zs
            · have E : Hid (ffL zs = true) := Lib.hid (by rw [E0.out, HRB.out, decide_eq_true hx0, decide_eq_true hlt]; rfl)
              go_wp2_with fail
              go_meet
              exact ⟨by rw [E.out], rfl⟩
            · have E : Hid (ffL zs = false) := Lib.hid (by rw [E0.out, HRB.out, decide_eq_true hx0, decide_eq_false hlt]; rfl)
              have hltd : decide (ffRN zs < ffRD zs) = false := decide_eq_false hlt
              go_wp2_with fail
              go_meet
              exact ⟨by rw [E.out], rfl⟩
          · have E : Hid (ffL zs = false) := Lib.hid (by rw [E0.out, HRB.out, decide_eq_false hx0]; rfl)
            have hxd : decide (0 < x) = false := decide_eq_false hx0
            go_wp2_with fail
            go_meet
            exact ⟨by rw [E.out], rfl⟩
    case rest =>
      obtain ⟨rfl, hwc⟩ := hcut
      obtain rfl : w12 = wc := hwc.symm
      clear hwc
      cases hL : ffL zs with
      | false =>
        cases hE : fdO a b with
        | none =>
          clear hE
          go_wp2
          go_ret
          exact ⟨rfl, hbw11⟩
        | some ds =>
          have F := Lib.hid (fdO_back hE)
          have HQ0 := HDm
          rw [hE] at HQ0
          have HQ := Lib.hid (show Reads w12 A3 ds from HQ0.out)
          have HP0 := HRm
          rw [F.out.told] at HP0 ⊢
          have HP := Lib.hid (show Reads w12 A6 (facT 0 ds) from HP0.out)
          simp only [Option.getD_some, Option.isSome_some]
          have hd11 := F.out.l11
          have hft := facT_len 0 ds
          clear hE hxl hdl HQ0 HP0
          obtain ⟨oG1, oG2, oG3, oG4, oG5⟩ := (TGm).out
          go_wp2_with fail
          refine (leastFactorial_any b _ hb).mono ?_; rintro e w20 ⟨rfl, k20, rfl⟩
          rw [F.out.lf.1, F.out.lf.2]
          go_wp2_with fail
          refine (fromFactorial_any _ A3 c3 ds (HQ.out.below (by (repeat' (first | (with_reducible exact Below.refl _ _) | (with_reducible assumption) | (with_reducible refine Below.drew ?_) | (with_reducible refine belowDrewN ?_ _) | (with_reducible refine Below.alloc ?_ ?_ _) | (with_reducible refine Below.setCell ?_ ?_ _) | (with_reducible refine belowStep (by assumption) ?_ ?_) | (with_reducible exact Below.size (by assumption)) | go_size)))) (by omega)).mono ?_; rintro e w21 ⟨rfl, hb21⟩; have hz21 := hb21.size; (try simp only [World.heap_drewN] at hz21)
          rw [F.out.back.1, F.out.back.2.1, F.out.back.2.2]
          clear oG1 oG2 oG3 oG4 oG5
          have TG21 := Lib.hid (((TGm).out.below (show Below (w12).heap.size w12 w21 by (repeat' (first | (with_reducible exact Below.refl _ _) | (with_reducible assumption) | (with_reducible refine Below.drew ?_) | (with_reducible refine belowDrewN ?_ _) | (with_reducible refine Below.alloc ?_ ?_ _) | (with_reducible refine Below.setCell ?_ ?_ _) | (with_reducible refine belowStep (by assumption) ?_ ?_) | (with_reducible exact Below.size (by assumption)) | go_size)))).below ((Below.refl _ _).alloc (Nat.le_refl _) (.cells #[.int .i64 (a), .int .i64 (b)] 25)))
          have TJ := Lib.hid (TwoAt.new w21 (a) (b) 25)
          have HQ := Lib.hid (HQ.out.below (w' := w21.alloc (.cells #[.int .i64 (a), .int .i64 (b)] 25)) (by (repeat' (first | (with_reducible exact Below.refl _ _) | (with_reducible assumption) | (with_reducible refine Below.drew ?_) | (with_reducible refine belowDrewN ?_ _) | (with_reducible refine Below.alloc ?_ ?_ _) | (with_reducible refine Below.setCell ?_ ?_ _) | (with_reducible refine belowStep (by assumption) ?_ ?_) | (with_reducible exact Below.size (by assumption)) | go_size))))
          have HP := Lib.hid (HP.out.below (w' := w21.alloc (.cells #[.int .i64 (a), .int .i64 (b)] 25)) (by (repeat' (first | (with_reducible exact Below.refl _ _) | (with_reducible assumption) | (with_reducible refine Below.drew ?_) | (with_reducible refine belowDrewN ?_ _) | (with_reducible refine Below.alloc ?_ ?_ _) | (with_reducible refine Below.setCell ?_ ?_ _) | (with_reducible refine belowStep (by assumption) ?_ ?_) | (with_reducible exact Below.size (by assumption)) | go_size))))
          have hbw21 : Below w.heap.size w (w21.alloc (.cells #[.int .i64 (a), .int .i64 (b)] 25)) := (hbw11).trans ((show Below (w12).heap.size w12 (w21.alloc (.cells #[.int .i64 (a), .int .i64 (b)] 25)) by (repeat' (first | (with_reducible exact Below.refl _ _) | (with_reducible assumption) | (with_reducible refine Below.drew ?_) | (with_reducible refine belowDrewN ?_ _) | (with_reducible refine Below.alloc ?_ ?_ _) | (with_reducible refine Below.setCell ?_ ?_ _) | (with_reducible refine belowStep (by assumption) ?_ ?_) | (with_reducible exact Below.size (by assumption)) | go_size))).mono (by have := (hbw11).size; omega))
          obtain ⟨oG1, oG2, oG3, oG4, oG5⟩ := TG21.out
          obtain ⟨oJ1, oJ2, oJ3, oJ4, oJ5⟩ := TJ.out
          have hw1 : IntKind.i64.wrap ((ds.length : Int) + 1 - 1) = (ds.length : Int) := by rw [show (ds.length : Int) + 1 - 1 = (ds.length : Int) by omega]; exact IntWalk.i64_in _ (by omega)
          have hw2 : ((ds.length : Int) != (ds.length : Int) + 1 - 1) = false := by simp
          have hg2l : w2.heap.size < w21.heap.size := by have := (TGm).out.2.2.2.2; omega
          have hne21 : w2.heap.size ≠ w21.heap.size := by omega
          go_wp2
          go_loopw [25, 169] (fun vc vi wr => ∃ k : Nat, k ≤ ds.length ∧ vi = .int .i64 (k : Int) ∧ vc = .int .i64 (((facT 0 (ds.take k)).length : Nat) : Int) ∧ ∃ n, wr = (w21.alloc (.cells #[.int .i64 (a), .int .i64 (b)] 25)).drewN n) (fun _ vi _ => ds.length - (intOf vi).toNat)
          case atStart => exact ⟨0, Nat.zero_le _, rfl, rfl, 0, rfl⟩
          case round =>
            obtain ⟨k, hk, rfl, rfl, nn, rfl⟩ := hrel
            have hfk := facT_len 0 (ds.take k)
            rw [List.length_take] at hfk
            by_cases hlt : k < ds.length
            · obtain ⟨b1, o1, x, eA1, hb1, hx, hcell⟩ := HQ.out.at_ hlt
              have Hn := Lib.hid (facT_next hlt hx)
              have hki : (k : Int) < (ds.length : Int) := by omega
              subst eA1
              clear hx
              by_cases hp : 0 < x
              · have hq : (facT 0 (ds.take (k + 1))).length = (facT 0 (ds.take k)).length + 1 := by rw [Hn.out, if_pos hp]; simp
                have Hq := Lib.hid hq
                clear hq
                go_wp2
                go_roundw
                case rel => exact ⟨k + 1, by omega, by go_num, congrArg (Value.int .i64) (by rw [Hq.out]; omega), _, rfl⟩
                case measure => simp [intOf]; omega
              · have hq : (facT 0 (ds.take (k + 1))).length = (facT 0 (ds.take k)).length := by rw [Hn.out, if_neg hp]; simp
                have Hq := Lib.hid hq
                have hpd : decide (0 < x) = false := decide_eq_false hp
                clear hq
                go_wp2
                go_roundw
                case rel => exact ⟨k + 1, by omega, by go_num, by rw [Hq.out], _, rfl⟩
                case measure => simp [intOf]; omega
            · obtain rfl : k = ds.length := by omega
              rw [List.take_length]
              have HPS := Lib.hid fun (w : World) (h : Reads w A6 (facT 0 ds)) => pSums_yes w a b A6 c6 (facT 0 ds) h (by omega) F.out.t64 F.out.exp F.out.sum.1 F.out.sum.2
              go_wp2_with fail
              refine (HPS.out _ (HP.out.below (by (repeat' (first | (with_reducible exact Below.refl _ _) | (with_reducible assumption) | (with_reducible refine Below.drew ?_) | (with_reducible refine belowDrewN ?_ _) | (with_reducible refine Below.alloc ?_ ?_ _) | (with_reducible refine Below.setCell ?_ ?_ _) | (with_reducible refine belowStep (by assumption) ?_ ?_) | (with_reducible exact Below.size (by assumption)) | go_size))))).mono ?_; rintro e w22 ⟨rfl, hb22⟩; have hz22 := hb22.size; (try simp only [World.size_alloc, World.heap_drewN] at hz22)
              have hbw22 : Below w.heap.size w w22 := (hbw21.trans ((show Below (w21.alloc (.cells #[.int .i64 (a), .int .i64 (b)] 25)).heap.size (w21.alloc (.cells #[.int .i64 (a), .int .i64 (b)] 25)) w22 by (repeat' (first | (with_reducible exact Below.refl _ _) | (with_reducible assumption) | (with_reducible refine Below.drew ?_) | (with_reducible refine belowDrewN ?_ _) | (with_reducible refine Below.alloc ?_ ?_ _) | (with_reducible refine Below.setCell ?_ ?_ _) | (with_reducible refine belowStep (by assumption) ?_ ?_) | (with_reducible exact Below.size (by assumption)) | go_size))).mono (hbw21.size)))
              go_wp2
              go_ret
              exact ⟨ret_bool (by simp), hbw22⟩
      | true =>
        obtain ⟨h1, h2, k, x, h3, h4, h5⟩ := ffL_yes hL
        have HAG := Lib.hid (fdO_again h1 h3 h4 h5 h2)
        have hsm := ffR_small zs
        clear h1 h2 h3 h4 h5
        obtain ⟨oH1, oH2, oH3, oH4, oH5⟩ := THm.out
        go_wp2_with fail
        refine (factorialDigits_any (ffRN zs) (ffRD zs) _ hsm.1 hsm.2).mono ?_; rintro e w13 ⟨v13, rfl, ho13, hb13⟩; have hz13 := hb13.size; (try simp only [World.size_alloc, World.size_setCell, World.size_drew, World.heap_drewN] at hz13)
        rw [HAG.out] at ho13 ⊢
        obtain ⟨A13, c13, rfl, hr13⟩ := (show OwnI w13 _ v13 zs from ho13).form
        have H13 := Lib.hid hr13
        clear oH1 oH2 oH3 oH4 oH5
        have HZn := Lib.hid (HZm.out.below hb13)
        have HDn := Lib.hid (HDm.out.below hb13)
        have HRn := Lib.hid (HRm.out.below hb13)
        have TGn := Lib.hid (TGm.out.below hb13)
        clear ho13 hr13
        simp only [Option.isSome_some]
        have hcz : ((zs.length : Nat) : Int) ≤ (c9 : Int) := by omega
        go_wp2_with fail
        refine ((pSame_same _ _ _ _ _ _ H13.out HZn.out hzl).mono fun _ _ h => h.retL).mono ?_; rintro e w15 ⟨rfl, hb15⟩
        have hz15 := hb15.size
        have HDo := Lib.hid (HDn.out.below hb15)
        have HRo := Lib.hid (HRn.out.below hb15)
        have TGo := Lib.hid (TGn.out.below hb15)
        have hbw15 : Below w.heap.size w w15 := (hbw11.trans (hb13.mono (by have := hbw11.size; omega))).trans (hb15.mono (by have := hbw11.size; omega))
        cases hE : fdO a b with
        | none =>
          clear hE
          go_wp2
          go_ret
          exact ⟨rfl, hbw15⟩
        | some ds =>
          have F := Lib.hid (fdO_back hE)
          have HQ0 := HDo
          rw [hE] at HQ0
          have HQ := Lib.hid (show Reads w15 A3 ds from HQ0.out)
          have HP0 := HRo
          rw [F.out.told] at HP0 ⊢
          have HP := Lib.hid (show Reads w15 A6 (facT 0 ds) from HP0.out)
          simp only [Option.getD_some, Option.isSome_some]
          have hd11 := F.out.l11
          have hft := facT_len 0 ds
          clear hE hxl hdl HQ0 HP0
          obtain ⟨oG1, oG2, oG3, oG4, oG5⟩ := (TGo).out
          go_wp2_with fail
          refine (leastFactorial_any b _ hb).mono ?_; rintro e w20 ⟨rfl, k20, rfl⟩
          rw [F.out.lf.1, F.out.lf.2]
          go_wp2_with fail
          refine (fromFactorial_any _ A3 c3 ds (HQ.out.below (by (repeat' (first | (with_reducible exact Below.refl _ _) | (with_reducible assumption) | (with_reducible refine Below.drew ?_) | (with_reducible refine belowDrewN ?_ _) | (with_reducible refine Below.alloc ?_ ?_ _) | (with_reducible refine Below.setCell ?_ ?_ _) | (with_reducible refine belowStep (by assumption) ?_ ?_) | (with_reducible exact Below.size (by assumption)) | go_size)))) (by omega)).mono ?_; rintro e w21 ⟨rfl, hb21⟩; have hz21 := hb21.size; (try simp only [World.heap_drewN] at hz21)
          rw [F.out.back.1, F.out.back.2.1, F.out.back.2.2]
          clear oG1 oG2 oG3 oG4 oG5
          have TG21 := Lib.hid (((TGo).out.below (show Below (w15).heap.size w15 w21 by (repeat' (first | (with_reducible exact Below.refl _ _) | (with_reducible assumption) | (with_reducible refine Below.drew ?_) | (with_reducible refine belowDrewN ?_ _) | (with_reducible refine Below.alloc ?_ ?_ _) | (with_reducible refine Below.setCell ?_ ?_ _) | (with_reducible refine belowStep (by assumption) ?_ ?_) | (with_reducible exact Below.size (by assumption)) | go_size)))).below ((Below.refl _ _).alloc (Nat.le_refl _) (.cells #[.int .i64 (a), .int .i64 (b)] 25)))
          have TJ := Lib.hid (TwoAt.new w21 (a) (b) 25)
          have HQ := Lib.hid (HQ.out.below (w' := w21.alloc (.cells #[.int .i64 (a), .int .i64 (b)] 25)) (by (repeat' (first | (with_reducible exact Below.refl _ _) | (with_reducible assumption) | (with_reducible refine Below.drew ?_) | (with_reducible refine belowDrewN ?_ _) | (with_reducible refine Below.alloc ?_ ?_ _) | (with_reducible refine Below.setCell ?_ ?_ _) | (with_reducible refine belowStep (by assumption) ?_ ?_) | (with_reducible exact Below.size (by assumption)) | go_size))))
          have HP := Lib.hid (HP.out.below (w' := w21.alloc (.cells #[.int .i64 (a), .int .i64 (b)] 25)) (by (repeat' (first | (with_reducible exact Below.refl _ _) | (with_reducible assumption) | (with_reducible refine Below.drew ?_) | (with_reducible refine belowDrewN ?_ _) | (with_reducible refine Below.alloc ?_ ?_ _) | (with_reducible refine Below.setCell ?_ ?_ _) | (with_reducible refine belowStep (by assumption) ?_ ?_) | (with_reducible exact Below.size (by assumption)) | go_size))))
          have hbw21 : Below w.heap.size w (w21.alloc (.cells #[.int .i64 (a), .int .i64 (b)] 25)) := (hbw15).trans ((show Below (w15).heap.size w15 (w21.alloc (.cells #[.int .i64 (a), .int .i64 (b)] 25)) by (repeat' (first | (with_reducible exact Below.refl _ _) | (with_reducible assumption) | (with_reducible refine Below.drew ?_) | (with_reducible refine belowDrewN ?_ _) | (with_reducible refine Below.alloc ?_ ?_ _) | (with_reducible refine Below.setCell ?_ ?_ _) | (with_reducible refine belowStep (by assumption) ?_ ?_) | (with_reducible exact Below.size (by assumption)) | go_size))).mono (by have := (hbw15).size; omega))
          obtain ⟨oG1, oG2, oG3, oG4, oG5⟩ := TG21.out
          obtain ⟨oJ1, oJ2, oJ3, oJ4, oJ5⟩ := TJ.out
          have hw1 : IntKind.i64.wrap ((ds.length : Int) + 1 - 1) = (ds.length : Int) := by rw [show (ds.length : Int) + 1 - 1 = (ds.length : Int) by omega]; exact IntWalk.i64_in _ (by omega)
          have hw2 : ((ds.length : Int) != (ds.length : Int) + 1 - 1) = false := by simp
          have hg2l : w2.heap.size < w21.heap.size := by have := (TGo).out.2.2.2.2; omega
          have hne21 : w2.heap.size ≠ w21.heap.size := by omega
          go_wp2
          go_loopw [25, 169] (fun vc vi wr => ∃ k : Nat, k ≤ ds.length ∧ vi = .int .i64 (k : Int) ∧ vc = .int .i64 (((facT 0 (ds.take k)).length : Nat) : Int) ∧ ∃ n, wr = (w21.alloc (.cells #[.int .i64 (a), .int .i64 (b)] 25)).drewN n) (fun _ vi _ => ds.length - (intOf vi).toNat)
          case atStart => exact ⟨0, Nat.zero_le _, rfl, rfl, 0, rfl⟩
          case round =>
            obtain ⟨k, hk, rfl, rfl, nn, rfl⟩ := hrel
            have hfk := facT_len 0 (ds.take k)
            rw [List.length_take] at hfk
            by_cases hlt : k < ds.length
            · obtain ⟨b1, o1, x, eA1, hb1, hx, hcell⟩ := HQ.out.at_ hlt
              have Hn := Lib.hid (facT_next hlt hx)
              have hki : (k : Int) < (ds.length : Int) := by omega
              subst eA1
              clear hx
              by_cases hp : 0 < x
              · have hq : (facT 0 (ds.take (k + 1))).length = (facT 0 (ds.take k)).length + 1 := by rw [Hn.out, if_pos hp]; simp
                have Hq := Lib.hid hq
                clear hq
                go_wp2
                go_roundw
                case rel => exact ⟨k + 1, by omega, by go_num, congrArg (Value.int .i64) (by rw [Hq.out]; omega), _, rfl⟩
                case measure => simp [intOf]; omega
              · have hq : (facT 0 (ds.take (k + 1))).length = (facT 0 (ds.take k)).length := by rw [Hn.out, if_neg hp]; simp
                have Hq := Lib.hid hq
                have hpd : decide (0 < x) = false := decide_eq_false hp
                clear hq
                go_wp2
                go_roundw
                case rel => exact ⟨k + 1, by omega, by go_num, by rw [Hq.out], _, rfl⟩
                case measure => simp [intOf]; omega
            · obtain rfl : k = ds.length := by omega
              rw [List.take_length]
              have HPS := Lib.hid fun (w : World) (h : Reads w A6 (facT 0 ds)) => pSums_yes w a b A6 c6 (facT 0 ds) h (by omega) F.out.t64 F.out.exp F.out.sum.1 F.out.sum.2
              go_wp2_with fail
              refine (HPS.out _ (HP.out.below (by (repeat' (first | (with_reducible exact Below.refl _ _) | (with_reducible assumption) | (with_reducible refine Below.drew ?_) | (with_reducible refine belowDrewN ?_ _) | (with_reducible refine Below.alloc ?_ ?_ _) | (with_reducible refine Below.setCell ?_ ?_ _) | (with_reducible refine belowStep (by assumption) ?_ ?_) | (with_reducible exact Below.size (by assumption)) | go_size))))).mono ?_; rintro e w22 ⟨rfl, hb22⟩; have hz22 := hb22.size; (try simp only [World.size_alloc, World.heap_drewN] at hz22)
              have hbw22 : Below w.heap.size w w22 := (hbw21.trans ((show Below (w21.alloc (.cells #[.int .i64 (a), .int .i64 (b)] 25)).heap.size (w21.alloc (.cells #[.int .i64 (a), .int .i64 (b)] 25)) w22 by (repeat' (first | (with_reducible exact Below.refl _ _) | (with_reducible assumption) | (with_reducible refine Below.drew ?_) | (with_reducible refine belowDrewN ?_ _) | (with_reducible refine Below.alloc ?_ ?_ _) | (with_reducible refine Below.setCell ?_ ?_ _) | (with_reducible refine belowStep (by assumption) ?_ ?_) | (with_reducible exact Below.size (by assumption)) | go_size))).mono (hbw21.size)))
              go_wp2
              go_ret
              exact ⟨ret_bool (by simp), hbw22⟩

set_option maxRecDepth 100000 in
theorem FnFactorialMethod_lifted (os : Os) (started : os.Started) (H : Type) (enc : TypeId × Value → H) :
    ReturnsInHanded {} Tryz.checked os 4 .any (Rows.fnFactorialMethodSpec.pre6 enc Tryz.prog Tryz.f4 Rows.fnFactorialMethodRow.domain false) (Rows.fnFactorialMethodSpec.post enc Tryz.prog Tryz.f4 false true false false) := by
  refine returnsInHanded_of_change (C := Tryz.checked) own started (by kernel_rfl) Tryz.func4
    (ChangeSpec.witness6 (enc := enc) (C := Tryz.checked) false ⟨#[], #[.slice none 0 0, .slice none 0 0], []⟩ 8 (by kernel_rfl) (by kernel_rfl) (by kernel_rfl) (by kernel_rfl)) ?_
  intro W base args ds gs before hval0 hW hcnd _
  have hval : ∀ (j : Nat) t v, Tryz.f4.params[j]? = some t → args[j]? = some v → Value.okWide Tryz.prog W .any base t v := hval0
  have hW' := hW
  have hlt : ∀ p ∈ before, p.block < W.heap.size := fun p hp => hW'.lt p hp
  obtain ⟨p, q, hA0, hV, rfl, hfz, hnd⟩ := hW
  have hA : DataW.TrodAll enc Tryz.prog W 0 (fun _ => true) true Tryz.f4.params.toList args.toList ds p := hA0
  rw [Tryz.params4] at hA hval
  obtain ⟨v0, vs0, d0, ds0, p0, q0, hargs, rfl, rfl, h0, r0⟩ := trodAll_cons hA
  obtain ⟨v1, vs1, d1, ds1, p1, q1, rfl, rfl, rfl, h1, r1⟩ := trodAll_cons r0
  obtain ⟨rfl, rfl, rfl⟩ := trodAll_nil r1
  obtain rfl : args = #[v0, v1] := by cases args; simp_all
  obtain ⟨rfl, rfl⟩ := trodVars_none hV
  obtain ⟨Aa, ca, na, rfl, ha⟩ := open_bytes_reads Tryz.underlying22 Tryz.underlying5 (by kernel_rfl) (hval 0 22 v0 rfl rfl) h0 (fun y hy => hlt y (by simp [hy]))
  obtain ⟨Ab, cb, nb, rfl, hb⟩ := open_bytes_reads Tryz.underlying22 Tryz.underlying5 (by kernel_rfl) (hval 1 22 v1 rfl rfl) h1 (fun y hy => hlt y (by simp [hy]))
  refine (FnFactorialMethod_walk W Aa ca na Ab cb nb ha hb).mono fun e W' ⟨he, hg⟩ => ?_
  subst he
  exact ⟨_, rfl, law_post laidOut (by rw [Tryz.params4]; intro t ht; simp only [List.mem_cons, List.not_mem_nil, or_false] at ht; rcases ht with rfl | rfl <;> exact ⟨by kernel_rfl, of_decide_eq_true (by kernel_rfl)⟩) (by kernel_rfl) Tryz.underlying4 rfl hW' rfl hg⟩

theorem FnFactorialMethod_closed : joinedFacts Tryz.prog 4 Tryz.f4 Rows.fnFactorialMethodSpec Rows.fnFactorialMethodRow = true := by
  unfold joinedFacts
  rw [mayEnter_eq, lifts_eq, make_eq]
  kernel_rfl

theorem FnFactorialMethod_holds : Rows.FnFactorialMethodSaid :=
  OpenClaim.holds_of_wide 4 Tryz.f4 rfl rfl rfl rfl rfl rfl rfl ⟨rfl, rfl, rfl, rfl, rfl⟩ rfl rfl rfl rfl rfl (by kernel_rfl) Tryz.func4 FnFactorialMethod_closed
    (of_decide_eq_true (by kernel_rfl)) (by unfold Func.isWrapper; first | (rw [if_pos (by decide +kernel)]; kernel_rfl) | (rw [if_neg (by decide +kernel)]; exact ⟨rfl, rfl⟩))
    (fun os started H enc _ => FnFactorialMethod_lifted os started H enc)

end Go.Proofs.YtbjblkfibinenadGreat
