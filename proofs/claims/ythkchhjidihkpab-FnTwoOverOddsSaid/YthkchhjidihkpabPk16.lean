import Derived.Test.YthkchhjidihkpabPk15
import Derived.Test.YthkchhjidihkpabPk9
import Derived.Test.YthkchhjidihkpabPk3
import Derived.Test.YthkchhjidihkpabPk11
import Derived.IntWalk
import Derived.Deep.RegionLaw

/-
  Contracts of putting a number into a rising list.
-/
namespace Go.Proofs.Ythkchhjidihkpab
open Go.RowKit
set_option maxHeartbeats 2000000 in
theorem putIn_no (w : World) (v : Int) (Axs : Option Addr) (cxs : Nat) (xs : List Int) (hxs : Reads w Axs xs) (lxs : xs.length ≤ 1048576) (hcap : xs.length ≤ cxs) (hs : Rising xs) (hf : hasB xs v = false) :
    Calls Try.prog 90 #[.slice Axs xs.length cxs, .int .i64 v] w (RetLB (insAt xs (pos xs v) v) true w) := by
  have hnf : decide (xs[pos xs v]? = some v) = false := by
    rw [decide_eq_false_iff_not, found_iff hs, hf]; simp
  obtain ⟨i0, hi, hz0, hz1, hz2⟩ := info_parts intInfo
  have hpl := pos_le xs v
  have Hs := Lib.hid hs
  have Hxs := Lib.hid hxs
  clear hs hxs
  generalize hp : pos xs v = p at *
  have Hp := Lib.hid hp
  clear hp
  by_cases hcp : cxs = p
  · obtain rfl : p = xs.length := by omega
    subst hcp
    go_enter Try.func90, Try.ntmps90
    go_wp2_with fail
    refine (search_any _ _ _ _ _ Hxs.out lxs Hs.out).mono ?_; rintro e w1 ⟨rfl, k1, rfl⟩
    rw [Hp.out]
    go_wp2_with (first
      | (at_make; refine wpList_make_own _ rfl _ _ 22 rfl w.heap.size 3 i0 (.int .i64 0) 1 Try.underlying22 hi hz0 hz1 .i64 .i64 _ (xs.length + 1) rfl rfl (by simp) (by rw [hz2]; omega) (by unfold maxLen; omega) (Nat.le_refl _) ?_; intro w2 hown2 hgrow2; have hb2 : Below w.heap.size w w2 := (belowDrewN (Below.refl _ _) k1).grown hgrow2 (Nat.le_refl _) (by simp); have ho2 : OwnI w2 w.heap.size (.slice (some ⟨w.heap.size, 0, none⟩) 0 (xs.length + 1)) [] := hown2; clear hown2 hgrow2; have hz2' := hb2.size)
      | (at_builtin; refine wpList_app _ (o := ⟨some 24, _, _, _, _, _⟩) (ys := xs.take xs.length) rfl _ _ rfl rfl (ho2) (xs.length) (xs.length) (by first | (simp; done) | (simp; omega)) rfl ((Hxs.out.below (by (repeat' (first | (with_reducible exact Below.refl _ _) | (with_reducible assumption) | (with_reducible refine Below.drew ?_) | (with_reducible refine belowDrewN ?_ _) | (with_reducible refine Below.alloc ?_ ?_ _) | (with_reducible refine Below.setCell ?_ ?_ _) | (with_reducible refine belowStep (by assumption) ?_ ?_) | (with_reducible exact Below.size (by assumption)) | go_size)))).cutTo xs.length) (by (try simp only [List.length_take, List.length_nil]); omega) (by first | exact Nat.le_refl _ | ((try simp only [World.size_alloc, World.size_setCell, World.size_drew, World.heap_drewN]); omega)) ?_; intro v3 w3 ho3 hb3 hg3 ht3; clear hg3 ht3; have hz3 := hb3.size; (try simp only [World.size_alloc, World.size_setCell, World.size_drew, World.heap_drewN] at hz3))
      | (at_builtin; refine wpList_app _ (o := ⟨some 28, _, _, _, _, _⟩) (ys := [v]) rfl _ _ rfl rfl (OwnI.below ho3 ((Below.refl _ _).alloc (Nat.le_refl _) _)) (1) (1) (by first | (simp; done) | (simp; omega)) rfl (Reads.one w3 v) (by (try simp only [List.length_append, List.length_take, List.length_nil, List.length_cons]); omega) (by first | exact Nat.le_refl _ | ((try simp only [World.size_alloc]); omega)) ?_; intro v4 w4 ho4 hb4 hg4 ht4; clear hg4 ht4; have hz4 := hb4.size; (try simp only [World.size_alloc] at hz4))
      | (at_builtin; refine wpList_app _ (o := ⟨some 33, _, _, _, _, _⟩) (ys := []) rfl _ _ rfl rfl (ho4) (0) (0) (by first | (simp; done) | (simp; omega)) rfl (Reads.nil) (by (try simp only [List.length_append, List.length_take, List.length_nil, List.length_cons]); omega) (by first | exact Nat.le_refl _ | ((try simp only [World.size_alloc, World.size_setCell, World.size_drew, World.heap_drewN]); omega)) ?_; intro v5 w5 ho5 hb5 hg5 ht5; clear hg5 ht5; have hz5 := hb5.size; (try simp only [World.size_alloc, World.size_setCell, World.size_drew, World.heap_drewN] at hz5)))
    go_ret2
    exact ⟨_, rfl, by simpa [insAt] using ho5, by (repeat' (first | (with_reducible exact Below.refl _ _) | (with_reducible assumption) | (with_reducible refine Below.drew ?_) | (with_reducible refine belowDrewN ?_ _) | (with_reducible refine Below.alloc ?_ ?_ _) | (with_reducible refine Below.setCell ?_ ?_ _) | (with_reducible refine belowStep (by assumption) ?_ ?_) | (with_reducible exact Below.size (by assumption)) | go_size))⟩
  · go_enter Try.func90, Try.ntmps90
    go_wp2_with fail
    refine (search_any _ _ _ _ _ Hxs.out lxs Hs.out).mono ?_; rintro e w1 ⟨rfl, k1, rfl⟩
    rw [Hp.out]
    go_wp2_with (first
      | (at_make; refine wpList_make_own _ rfl _ _ 22 rfl w.heap.size 3 i0 (.int .i64 0) 1 Try.underlying22 hi hz0 hz1 .i64 .i64 _ (xs.length + 1) rfl rfl (by simp) (by rw [hz2]; omega) (by unfold maxLen; omega) (Nat.le_refl _) ?_; intro w2 hown2 hgrow2; have hb2 : Below w.heap.size w w2 := (belowDrewN (Below.refl _ _) k1).grown hgrow2 (Nat.le_refl _) (by simp); have ho2 : OwnI w2 w.heap.size (.slice (some ⟨w.heap.size, 0, none⟩) 0 (xs.length + 1)) [] := hown2; clear hown2 hgrow2; have hz2' := hb2.size)
      | (at_builtin; refine wpList_app _ (o := ⟨some 24, _, _, _, _, _⟩) (ys := xs.take p) rfl _ _ rfl rfl (ho2) (p) (cxs) (by first | (simp; done) | (simp; omega)) rfl ((Hxs.out.below (by (repeat' (first | (with_reducible exact Below.refl _ _) | (with_reducible assumption) | (with_reducible refine Below.drew ?_) | (with_reducible refine belowDrewN ?_ _) | (with_reducible refine Below.alloc ?_ ?_ _) | (with_reducible refine Below.setCell ?_ ?_ _) | (with_reducible refine belowStep (by assumption) ?_ ?_) | (with_reducible exact Below.size (by assumption)) | go_size)))).cutTo p) (by (try simp only [List.length_take, List.length_nil]); omega) (by first | exact Nat.le_refl _ | ((try simp only [World.size_alloc, World.size_setCell, World.size_drew, World.heap_drewN]); omega)) ?_; intro v3 w3 ho3 hb3 hg3 ht3; clear hg3 ht3; have hz3 := hb3.size; (try simp only [World.size_alloc, World.size_setCell, World.size_drew, World.heap_drewN] at hz3))
      | (at_builtin; refine wpList_app _ (o := ⟨some 28, _, _, _, _, _⟩) (ys := [v]) rfl _ _ rfl rfl (OwnI.below ho3 ((Below.refl _ _).alloc (Nat.le_refl _) _)) (1) (1) (by first | (simp; done) | (simp; omega)) rfl (Reads.one w3 v) (by (try simp only [List.length_append, List.length_take, List.length_nil, List.length_cons]); omega) (by first | exact Nat.le_refl _ | ((try simp only [World.size_alloc]); omega)) ?_; intro v4 w4 ho4 hb4 hg4 ht4; clear hg4 ht4; have hz4 := hb4.size; (try simp only [World.size_alloc] at hz4))
      | (at_builtin; refine wpList_app _ (o := ⟨some 33, _, _, _, _, _⟩) (ys := xs.drop p) rfl _ _ rfl rfl (ho4) ((xs.length - p)) ((cxs - p)) (by first | (simp; done) | (simp; omega)) rfl (Reads.cutA (Hxs.out.below (by (repeat' (first | (with_reducible exact Below.refl _ _) | (with_reducible assumption) | (with_reducible refine Below.drew ?_) | (with_reducible refine belowDrewN ?_ _) | (with_reducible refine Below.alloc ?_ ?_ _) | (with_reducible refine Below.setCell ?_ ?_ _) | (with_reducible refine belowStep (by assumption) ?_ ?_) | (with_reducible exact Below.size (by assumption)) | go_size)))) hpl hcap hcp) (by (try simp only [List.length_append, List.length_take, List.length_drop, List.length_nil, List.length_cons]); omega) (by first | exact Nat.le_refl _ | ((try simp only [World.size_alloc, World.size_setCell, World.size_drew, World.heap_drewN]); omega)) ?_; intro v5 w5 ho5 hb5 hg5 ht5; clear hg5 ht5; have hz5 := hb5.size; (try simp only [World.size_alloc, World.size_setCell, World.size_drew, World.heap_drewN] at hz5)))
    go_ret2
    exact ⟨_, rfl, by simpa [insAt] using ho5, by (repeat' (first | (with_reducible exact Below.refl _ _) | (with_reducible assumption) | (with_reducible refine Below.drew ?_) | (with_reducible refine belowDrewN ?_ _) | (with_reducible refine Below.alloc ?_ ?_ _) | (with_reducible refine Below.setCell ?_ ?_ _) | (with_reducible refine belowStep (by assumption) ?_ ?_) | (with_reducible exact Below.size (by assumption)) | go_size))⟩
theorem putIn_yes (w : World) (v : Int) (Axs : Option Addr) (cxs : Nat) (xs : List Int) (hxs : Reads w Axs xs) (lxs : xs.length ≤ 1048576) (hs : Rising xs) (hf : hasB xs v = true) :
    Calls Try.prog 90 #[.slice Axs xs.length cxs, .int .i64 v] w (Ret (.tuple #[.slice none 0 0, .bool false]) w) := by
  have hnf : decide (xs[pos xs v]? = some v) = true := by
    rw [decide_eq_true_iff, found_iff hs, hf]
  have Hs := Lib.hid hs
  have Hxs := Lib.hid hxs
  clear hs hxs
  generalize hp : pos xs v = p at *
  have Hp := Lib.hid hp
  clear hp
  go_enter Try.func90, Try.ntmps90
  go_wp2_with fail
  refine (search_any _ _ _ _ _ Hxs.out lxs Hs.out).mono ?_; rintro e w1 ⟨rfl, k1, rfl⟩
  rw [Hp.out]
  go_wp2
  go_ret2
  exact ⟨rfl, by (repeat' (first | (with_reducible exact Below.refl _ _) | (with_reducible assumption) | (with_reducible refine Below.drew ?_) | (with_reducible refine belowDrewN ?_ _) | (with_reducible refine Below.alloc ?_ ?_ _) | (with_reducible refine Below.setCell ?_ ?_ _) | (with_reducible refine belowStep (by assumption) ?_ ?_) | (with_reducible exact Below.size (by assumption)) | go_size))⟩
end Go.Proofs.Ythkchhjidihkpab


/-
  Contracts of indices of a list: the test of one, and the list without some.
-/
namespace Go.Proofs.Ythkchhjidihkpab
open Go.RowKit
/-- the list without the numbers at the indices ls, the first one's index being k -/
def keepL (ls : List Int) : Nat → List Int → List Int
  | _, [] => []
  | k, x :: xs => if hasB ls k = true then keepL ls (k + 1) xs else x :: keepL ls (k + 1) xs
theorem keep_snoc (ls : List Int) (x : Int) : ∀ (ys : List Int) (k : Nat), keepL ls k (ys ++ [x]) = keepL ls k ys ++ (if hasB ls (k + ys.length : Nat) = true then [] else [x])
  | [], k => by simp [keepL]
  | y :: ys, k => by
    rw [List.cons_append, keepL, keepL, keep_snoc ls x ys (k + 1), show k + 1 + ys.length = k + (y :: ys).length by simp; omega]
    split <;> simp
theorem keep_len (ls : List Int) : ∀ (ys : List Int) (k : Nat), (keepL ls k ys).length ≤ ys.length
  | [], k => by simp [keepL]
  | y :: ys, k => by
    rw [keepL]
    have := keep_len ls ys (k + 1)
    split <;> simp <;> omega
theorem keep_mem (ls : List Int) : ∀ (ys : List Int) (k : Nat) (x : Int), x ∈ keepL ls k ys → x ∈ ys
  | [], k, x, h => by simp [keepL] at h
  | y :: ys, k, x, h => by
    rw [keepL] at h
    split at h
    · exact List.mem_cons_of_mem _ (keep_mem ls ys _ x h)
    · rcases List.mem_cons.1 h with rfl | h
      · exact List.mem_cons_self
      · exact List.mem_cons_of_mem _ (keep_mem ls ys _ x h)
theorem keep_take {xs ls : List Int} {k : Nat} {x : Int} (h : xs[k]? = some x) : keepL ls 0 (xs.take (k + 1)) = keepL ls 0 (xs.take k) ++ (if hasB ls k = true then [] else [x]) := by
  have hk : k < xs.length := (List.getElem?_eq_some_iff.1 h).1
  rw [List.take_succ_eq_append_getElem hk, (List.getElem?_eq_some_iff.1 h).2, keep_snoc]
  simp [List.length_take, Nat.min_eq_left (Nat.le_of_lt hk)]
/-- nothing is left out from an index on that is greater than all of these -/
theorem keep_all (ls : List Int) : ∀ (ys : List Int) (k : Nat), (∀ l ∈ ls, l < k) → keepL ls k ys = ys
  | [], k, _ => rfl
  | y :: ys, k, h => by
    rw [keepL, if_neg (fun e => by have := h _ ((hasB_iff _ _).1 e); omega), keep_all ls ys (k + 1) (fun l hl => by have := h l hl; omega)]
theorem keep_one (i : Nat) : ∀ (ys : List Int) (k : Nat), keepL [((k + i : Nat) : Int)] k ys = ys.take i ++ ys.drop (i + 1)
  | [], k => by simp [keepL]
  | y :: ys, k => by
    cases i with
    | zero =>
      rw [keepL, if_pos (by simp [hasB]), keep_all _ _ _ (by simp; omega)]
      simp
    | succ i =>
      have := keep_one i ys (k + 1)
      rw [show k + 1 + i = k + (i + 1) by omega] at this
      rw [keepL, if_neg (by simp [hasB]; omega), this]
      simp
theorem keep_at (ys : List Int) (i : Nat) : keepL [(i : Int)] 0 ys = ys.take i ++ ys.drop (i + 1) := by
  have := keep_one i ys 0
  rwa [Nat.zero_add] at this

end Go.Proofs.Ythkchhjidihkpab


/-
  The contract of putting fresh numbers into an expansion.
-/
namespace Go.Proofs.Ythkchhjidihkpab
open Go.RowKit
/-- the list with the fresh numbers in it, if none is there -/
def intoL : List Int → List Int → Option (List Int)
  | xs, [] => some xs
  | xs, f :: fs => if hasB xs f = true then none else intoL (insAt xs (pos xs f) f) fs
def intoB (xs fs : List Int) : Bool := match intoL xs fs with | some ys => expB ys | none => false
def intoR (xs fs : List Int) : List Int := match intoL xs fs with | some ys => if expB ys = true then ys else [] | none => []
theorem into_yes {xs fs : List Int} {f : Int} (h : hasB xs f = true) : intoL xs (f :: fs) = none := by rw [intoL, if_pos h]
theorem into_no {xs fs : List Int} {f : Int} (h : hasB xs f = false) : intoL xs (f :: fs) = intoL (insAt xs (pos xs f) f) fs := by rw [intoL, h]; rfl
theorem into_none {xs fs : List Int} (h : intoL xs fs = none) : intoB xs fs = false ∧ intoR xs fs = [] := by simp [intoB, intoR, h]
theorem into_some {xs fs ys : List Int} (h : intoL xs fs = some ys) : intoB xs fs = expB ys ∧ intoR xs fs = if expB ys = true then ys else [] := by simp [intoB, intoR, h]
theorem In64.ins {xs : List Int} {v : Int} (h : In64 xs) (hv : -9223372036854775808 ≤ v ∧ v ≤ 9223372036854775807) (p : Nat) : In64 (insAt xs p v) := In64.of_mem (fun x hx => by
  rcases ins_mem.1 hx with rfl | hx
  · exact hv
  · exact h.mem x hx)
theorem ret_lnil {w w' : World} (h : Below w.heap.size w w') : RetLB [] false w (.returned (.tuple #[.slice none 0 0, .bool false])) w' := ⟨_, rfl, OwnI.empty _ _, h⟩
set_option maxHeartbeats 2000000 in
theorem putInto_any (w : World) (Axs : Option Addr) (cxs : Nat) (xs : List Int) (hxs : Reads w Axs xs) (lxs : xs.length ≤ 1048576) (Afs : Option Addr) (cfs : Nat) (fs : List Int) (hfs : Reads w Afs fs) (lfs : fs.length ≤ 1048576) (hcap : xs.length ≤ cxs) (hs : Rising xs) (h64 : In64 xs) (f64 : In64 fs) (h24 : xs.length ≤ 24) (hf : fs.length ≤ 4) (hf0 : 0 < fs.length) :
    Calls Try.prog 102 #[.slice Axs xs.length cxs, .slice Afs fs.length cfs] w (RetLB (intoR xs fs) (intoB xs fs) w) := by
  have Hxs := Lib.hid hxs
  have Hfs := Lib.hid hfs
  have F64 := Lib.hid f64
  have H64 := Lib.hid h64
  have Hs := Lib.hid hs
  clear hxs hfs f64 h64 hs
  go_enter Try.func102, Try.ntmps102
  go_wp2
  go_loopw [0, 12] (fun v0 v12 wr => ∃ (k : Nat) (ys : List Int) (A' : Option Addr) (c' : Nat), k ≤ fs.length ∧ v12 = .int .i64 k ∧ v0 = .slice A' ys.length c' ∧ ys.length ≤ c' ∧ Reads wr A' ys ∧ Rising ys ∧ ys.length = xs.length + k ∧ In64 ys ∧ intoL xs fs = intoL ys (fs.drop k) ∧ (0 < k → OwnI wr w.heap.size v0 ys) ∧ Below w.heap.size w wr) (fun _ v12 _ => fs.length - (intOf v12).toNat)
  case atStart => exact ⟨0, xs, _, _, Nat.zero_le _, rfl, rfl, hcap, Hxs.out, Hs.out, rfl, H64.out, rfl, fun h => absurd h (by omega), by (repeat' (first | (with_reducible exact Below.refl _ _) | (with_reducible assumption) | (with_reducible refine Below.drew ?_) | (with_reducible refine belowDrewN ?_ _) | (with_reducible refine Below.alloc ?_ ?_ _) | (with_reducible refine Below.setCell ?_ ?_ _) | (with_reducible refine belowStep (by assumption) ?_ ?_) | (with_reducible exact Below.size (by assumption)) | go_size))⟩
  case round =>
    obtain ⟨k, ys, A', c', hk, rfl, rfl, hcy, hry, hsy, hly, hy64, hin, hoy, hbr⟩ := hrel
    have hly' : ys.length ≤ 1048576 := by omega
    have Hly := Lib.hid hly
    have Hry := Lib.hid hry
    have Hsy := Lib.hid hsy
    have Hy64 := Lib.hid hy64
    have Hin := Lib.hid hin
    have Hoy := Lib.hid hoy
    have hsz := hbr.size
    clear hly hry hsy hy64 hin hoy
    by_cases hlt : k < fs.length
    · obtain ⟨b, o, x, rfl, hb, hx, hcell⟩ := (Hfs.out.below hbr).at_ hlt
      have hx64 := F64.out k x hx
      have Hx := Lib.hid hx
      clear hx
      cases hh : hasB ys x with
      | true =>
        have Hn : Hid (intoL xs fs = none) := by
          show intoL xs fs = none
          rw [Hin.out, drop_at Hx.out, into_yes hh]
        go_wp2_with fail
        refine (putIn_yes _ _ _ _ _ Hry.out hly' Hsy.out hh).mono ?_; rintro e w1 ⟨rfl, hb1⟩
        go_wp2
        go_ret2
        rw [(into_none Hn.out).1, (into_none Hn.out).2]
        exact ret_lnil (by (repeat' (first | (with_reducible exact Below.refl _ _) | (with_reducible assumption) | (with_reducible refine Below.drew ?_) | (with_reducible refine belowDrewN ?_ _) | (with_reducible refine Below.alloc ?_ ?_ _) | (with_reducible refine Below.setCell ?_ ?_ _) | (with_reducible refine belowStep (by assumption) ?_ ?_) | (with_reducible exact Below.size (by assumption)) | go_size)))
      | false =>
        have Hn : Hid (intoL xs fs = intoL (insAt ys (pos ys x) x) (fs.drop (k + 1))) := by
          show intoL xs fs = _
          rw [Hin.out, drop_at Hx.out, into_no hh]
        have hi := pos_le ys x
        have Hil := Lib.hid (ins_len ys _ x hi)
        have Hir := Lib.hid (Hsy.out.ins (v := x) (by rw [hh]; simp))
        have Hi64 := Lib.hid (Hy64.out.ins hx64 (pos ys x))
        go_wp2_with fail
        refine (putIn_no _ _ _ _ _ Hry.out hly' hcy Hsy.out hh).mono ?_; rintro e w1 ⟨v1, rfl, ho1, hb1⟩
        obtain ⟨A1, c1, rfl, hr1⟩ := ho1.form
        have hc1 := ho1.cap_
        have Ho1 := Lib.hid ho1
        have Hr1 := Lib.hid hr1
        clear ho1 hr1
        go_wp2
        go_roundw
        case rel => exact ⟨k + 1, _, _, _, by omega, by go_num, rfl, hc1, Hr1.out, Hir.out, by rw [Hil.out, Hly.out]; omega, Hi64.out, Hn.out, fun _ => Ho1.out.mono hsz, by (repeat' (first | (with_reducible exact Below.refl _ _) | (with_reducible assumption) | (with_reducible refine Below.drew ?_) | (with_reducible refine belowDrewN ?_ _) | (with_reducible refine Below.alloc ?_ ?_ _) | (with_reducible refine Below.setCell ?_ ?_ _) | (with_reducible refine belowStep (by assumption) ?_ ?_) | (with_reducible exact Below.size (by assumption)) | go_size))⟩
        case measure => simp [intOf]; omega
    · obtain rfl : k = fs.length := by omega
      have Hn : Hid (intoL xs fs = some ys) := by
        show intoL xs fs = some ys
        rw [Hin.out, drop_all]; rfl
      cases he : expB ys with
      | true =>
        go_wp2_with fail
        refine (ifExp_yes _ _ _ _ Hry.out hly' Hy64.out he).mono ?_; rintro e w1 ⟨rfl, hb1⟩
        go_wp2
        go_ret2
        rw [(into_some Hn.out).1, (into_some Hn.out).2, he, if_pos rfl]
        exact ⟨_, rfl, (Hoy.out hf0).below hb1, by (repeat' (first | (with_reducible exact Below.refl _ _) | (with_reducible assumption) | (with_reducible refine Below.drew ?_) | (with_reducible refine belowDrewN ?_ _) | (with_reducible refine Below.alloc ?_ ?_ _) | (with_reducible refine Below.setCell ?_ ?_ _) | (with_reducible refine belowStep (by assumption) ?_ ?_) | (with_reducible exact Below.size (by assumption)) | go_size))⟩
      | false =>
        go_wp2_with fail
        refine (ifExp_no _ _ _ _ Hry.out hly' Hy64.out he).mono ?_; rintro e w1 ⟨rfl, hb1⟩
        go_wp2
        go_ret2
        rw [(into_some Hn.out).1, (into_some Hn.out).2, he]
        exact ret_lnil (by (repeat' (first | (with_reducible exact Below.refl _ _) | (with_reducible assumption) | (with_reducible refine Below.drew ?_) | (with_reducible refine belowDrewN ?_ _) | (with_reducible refine Below.alloc ?_ ?_ _) | (with_reducible refine Below.setCell ?_ ?_ _) | (with_reducible refine belowStep (by assumption) ?_ ?_) | (with_reducible exact Below.size (by assumption)) | go_size)))
end Go.Proofs.Ythkchhjidihkpab


/-
  The contract of the model's exchange of one term for two numbers.
-/
namespace Go.Proofs.Ythkchhjidihkpab
open Go.RowKit
/-- what stands in the list without the number at place i -/
def restL (xs : List Int) (i : Nat) : List Int := xs.take i ++ xs.drop (i + 1)
def replB (xs : List Int) (i : Nat) (a b : Int) : Bool := !hasB (restL xs i) a && !hasB (restL xs i) b && expB (putL (putL (restL xs i) a) b)
def replL (xs : List Int) (i : Nat) (a b : Int) : List Int := if replB xs i a b = true then putL (putL (restL xs i) a) b else []
theorem repl_no {xs : List Int} {i : Nat} {a b : Int} (h : replB xs i a b = false) : replL xs i a b = [] := by rw [replL, h]; rfl
theorem repl_a {xs : List Int} {i : Nat} {a b : Int} (h : hasB (restL xs i) a = true) : replB xs i a b = false := by simp [replB, h]
theorem repl_b {xs : List Int} {i : Nat} {a b : Int} (h : hasB (restL xs i) b = true) : replB xs i a b = false := by simp [replB, h]
theorem repl_c {xs : List Int} {i : Nat} {a b : Int} (h : hasB (restL xs i) a = false) (h2 : hasB (restL xs i) b = false) : replB xs i a b = expB (putL (putL (restL xs i) a) b) := by simp [replB, h, h2]
theorem put_len (xs : List Int) (v : Int) : (putL xs v).length ≤ xs.length + 1 := by
  unfold putL
  split
  · omega
  · rw [ins_len _ _ _ (pos_le xs v)]; omega
theorem rest_len (xs : List Int) (i : Nat) : (restL xs i).length ≤ xs.length := by simp [restL]; omega
theorem ret_rnil' {w w' : World} (h : Below w.heap.size w w') : RetRB [] false w (.returned (.tuple #[.slice none 0 0, .bool false])) w' := ⟨none, 0, rfl, Reads.nil, h⟩
end Go.Proofs.Ythkchhjidihkpab


/-
  Plain facts on splits of a term, and their contracts.
-/
namespace Go.Proofs.Ythkchhjidihkpab
open Go.RowKit
theorem has_ins (xs : List Int) (a b : Int) : hasB (insAt xs (pos xs a) a) b = (decide (b = a) || hasB xs b) := by
  rw [Bool.eq_iff_iff, hasB_iff, Bool.or_eq_true, hasB_iff, ins_mem, decide_eq_true_iff]
theorem into_two {rs : List Int} (hs : Rising rs) {a b : Int} (hne : b ≠ a) : intoB rs [a, b] = (!hasB rs a && !hasB rs b && expB (putL (putL rs a) b)) ∧ intoR rs [a, b] = if (!hasB rs a && !hasB rs b && expB (putL (putL rs a) b)) = true then putL (putL rs a) b else [] := by
  cases ha : hasB rs a with
  | true =>
    have := into_none (into_yes (fs := [b]) ha)
    simpa using this
  | false =>
    have hna : ¬ hasB rs a = true := by rw [ha]; simp
    have h1 := into_no (fs := [b]) ha
    have hp := put_no hs hna
    cases hb : hasB rs b with
    | true =>
      have h2 : hasB (insAt rs (pos rs a) a) b = true := by rw [has_ins, hb]; simp
      rw [into_yes h2] at h1
      simpa using into_none h1
    | false =>
      have h2 : hasB (insAt rs (pos rs a) a) b = false := by rw [has_ins, hb]; simp [hne]
      rw [into_no h2] at h1
      have h3 : intoL rs [a, b] = some (putL (putL rs a) b) := by
        rw [h1, hp, put_no (hs.ins hna) (by rw [h2]; simp)]; rfl
      simpa using into_some h3
theorem into_twice {rs : List Int} (a : Int) : intoB rs [a, a] = false ∧ intoR rs [a, a] = [] := by
  cases ha : hasB rs a with
  | true => exact into_none (into_yes ha)
  | false =>
    have h1 := into_no (fs := [a]) ha
    have h2 : hasB (insAt rs (pos rs a) a) a = true := by rw [has_ins]; simp
    rw [into_yes h2] at h1
    exact into_none h1
theorem keep_sub (ls : List Int) : ∀ (ys : List Int) (k : Nat), List.Sublist (keepL ls k ys) ys
  | [], k => List.Sublist.slnil
  | y :: ys, k => by
    rw [keepL]
    split
    · exact (keep_sub ls ys (k + 1)).cons y
    · exact (keep_sub ls ys (k + 1)).cons_cons y
theorem Rising.keep {ys : List Int} (h : Rising ys) (ls : List Int) (k : Nat) : Rising (keepL ls k ys) := h.sublist (keep_sub ls ys k)
theorem Rising.rest {xs : List Int} (h : Rising xs) (i : Nat) : Rising (restL xs i) := by
  unfold restL
  rw [← List.eraseIdx_eq_take_drop_succ]
  exact h.sublist (List.eraseIdx_sublist xs i)
theorem rest_mem {xs : List Int} {i : Nat} {x : Int} (h : x ∈ restL xs i) : x ∈ xs := by
  unfold restL at h
  rcases List.mem_append.1 h with h | h
  · exact List.mem_of_mem_take h
  · exact List.mem_of_mem_drop h
theorem In64.rest {xs : List Int} (h : In64 xs) (i : Nat) : In64 (restL xs i) := In64.of_mem (fun x hx => h.mem x (rest_mem hx))
theorem Reads.two (w : World) (x y : Int) : Reads (w.alloc (.cells #[.int .i64 x, .int .i64 y] 3)) (some ⟨w.heap.size, 0, none⟩) [x, y] := fun _ =>
  ⟨w.heap.size, 0, rfl, by simp, fun i z h => by
    match i, h with
    | 0, h =>
      simp only [List.getElem?_cons_zero, Option.some.injEq] at h
      subst h
      simp
    | 1, h =>
      simp only [List.getElem?_cons_succ, List.getElem?_cons_zero, Option.some.injEq] at h
      subst h
      simp⟩
theorem cellNew {W : World} {b k : Nat} {vs : Array Value} {T : TypeId} {v : Value} (hb : b = W.heap.size) (h : vs[k]? = some v) : (W.alloc (.cells vs T)).cell? ⟨b, k, none⟩ = some v := by
  subst hb
  simp [h]
theorem cellOld {W : World} {p : Addr} {v : Value} (o : Obj) (h : W.cell? p = some v) : (W.alloc o).cell? p = some v := by
  rw [World.cell?_alloc_some W p o (by rw [h]; rfl), h]
theorem Reads.of1 {w : World} {b : Nat} {x : Int} (hb : b < w.heap.size) (h0 : w.cell? ⟨b, 0, none⟩ = some (.int .i64 x)) : Reads w (some ⟨b, 0, none⟩) [x] := fun _ =>
  ⟨b, 0, rfl, hb, fun i z h => by
    match i, h with
    | 0, h =>
      simp only [List.getElem?_cons_zero, Option.some.injEq] at h
      subst h
      exact h0⟩
theorem Reads.of2 {w : World} {b : Nat} {x y : Int} (hb : b < w.heap.size) (h0 : w.cell? ⟨b, 0, none⟩ = some (.int .i64 x)) (h1 : w.cell? ⟨b, 1, none⟩ = some (.int .i64 y)) : Reads w (some ⟨b, 0, none⟩) [x, y] := fun _ =>
  ⟨b, 0, rfl, hb, fun i z h => by
    match i, h with
    | 0, h =>
      simp only [List.getElem?_cons_zero, Option.some.injEq] at h
      subst h
      exact h0
    | 1, h =>
      simp only [List.getElem?_cons_succ, List.getElem?_cons_zero, Option.some.injEq] at h
      subst h
      exact h1⟩
/-- the term at an index, 0 where there is none -/
def termAt (xs : List Int) (i : Int) : Int := (xs[i.toNat]?).getD 0
def idxB (xs : List Int) (i : Int) : Bool := expB xs && decide (0 ≤ i) && decide (i < xs.length)
def stB (xs : List Int) (i : Int) : Bool := idxB xs i && !decide (termAt xs i = 1) && replB xs i.toNat (termAt xs i + 1) (termAt xs i * (termAt xs i + 1))
def stL (xs : List Int) (i : Int) : List Int := if stB xs i = true then replL xs i.toNat (termAt xs i + 1) (termAt xs i * (termAt xs i + 1)) else []
theorem st_no {xs : List Int} {i : Int} (h : stB xs i = false) : stL xs i = [] := by rw [stL, h]; rfl
theorem idx_exp {xs : List Int} {i : Int} (h : expB xs = false) : idxB xs i = false := by simp [idxB, h]
theorem idx_out {xs : List Int} {i : Int} (h : ¬ (0 ≤ i ∧ i < xs.length)) : idxB xs i = false := by
  unfold idxB
  by_cases h1 : 0 ≤ i
  · have : ¬ i < xs.length := fun h2 => h ⟨h1, h2⟩
    simp [this]
  · simp [h1]
theorem idx_in {xs : List Int} {i : Nat} (h : expB xs = true) (hi : i < xs.length) : idxB xs i = true := by simp [idxB, h, hi]
theorem term_at {xs : List Int} {i : Nat} {x : Int} (h : xs[i]? = some x) : termAt xs i = x := by simp [termAt, h]
theorem st_idx {xs : List Int} {i : Int} (h : idxB xs i = false) : stB xs i = false := by simp [stB, h]
theorem st_one {xs : List Int} {i : Nat} (h : xs[i]? = some 1) : stB xs i = false := by simp [stB, term_at h]
theorem st_in {xs : List Int} {i : Nat} {x : Int} (h : expB xs = true) (hx : xs[i]? = some x) (h1 : x ≠ 1) : stB xs i = replB xs i (x + 1) (x * (x + 1)) ∧ stL xs i = replL xs i (x + 1) (x * (x + 1)) := by
  have hi : i < xs.length := (List.getElem?_eq_some_iff.1 hx).1
  have e : stB xs i = replB xs i (x + 1) (x * (x + 1)) := by simp [stB, idx_in h hi, term_at hx, h1]
  refine ⟨e, ?_⟩
  rw [stL, e, term_at hx]
  cases hr : replB xs i (x + 1) (x * (x + 1)) with
  | true => simp
  | false => rw [repl_no hr]; rfl
theorem into_repl {xs : List Int} (hs : Rising xs) (i : Nat) {a b : Int} (hne : b ≠ a) : intoB (restL xs i) [a, b] = replB xs i a b ∧ intoR (restL xs i) [a, b] = replL xs i a b := into_two (hs.rest i) hne
def sbB (xs : List Int) (i p q : Int) : Bool := idxB xs i && decide (1 ≤ p) && decide (p < q) && decide (q ≤ 1000) && decide (termAt xs i * (p + q) % p = 0) && decide (termAt xs i * (p + q) % q = 0) && replB xs i.toNat (termAt xs i * (p + q) / p) (termAt xs i * (p + q) / q)
def sbL (xs : List Int) (i p q : Int) : List Int := if sbB xs i p q = true then replL xs i.toNat (termAt xs i * (p + q) / p) (termAt xs i * (p + q) / q) else []
theorem sb_no {xs : List Int} {i p q : Int} (h : sbB xs i p q = false) : sbL xs i p q = [] := by rw [sbL, h]; rfl
theorem sb_idx {xs : List Int} {i p q : Int} (h : idxB xs i = false) : sbB xs i p q = false := by simp [sbB, h]
theorem sb_pq {xs : List Int} {i p q : Int} (h : ¬ (1 ≤ p ∧ p < q ∧ q ≤ 1000)) : sbB xs i p q = false := by
  unfold sbB
  by_cases h1 : 1 ≤ p
  · by_cases h2 : p < q
    · have : ¬ q ≤ 1000 := fun h3 => h ⟨h1, h2, h3⟩
      simp [this]
    · simp [h2]
  · simp [h1]
theorem sb_rp {xs : List Int} {i : Nat} {p q x : Int} (hx : xs[i]? = some x) (h : ¬ x * (p + q) % p = 0) : sbB xs i p q = false := by
  unfold sbB
  rw [term_at hx]
  simp only [h, decide_false, Bool.and_false, Bool.false_and]
theorem sb_rq {xs : List Int} {i : Nat} {p q x : Int} (hx : xs[i]? = some x) (h : ¬ x * (p + q) % q = 0) : sbB xs i p q = false := by
  unfold sbB
  rw [term_at hx]
  simp only [h, decide_false, Bool.and_false, Bool.false_and]
theorem sb_in {xs : List Int} {i : Nat} {p q x : Int} (h : expB xs = true) (hx : xs[i]? = some x) (h1 : 1 ≤ p) (h2 : p < q) (h3 : q ≤ 1000) (h4 : x * (p + q) % p = 0) (h5 : x * (p + q) % q = 0) : sbB xs i p q = replB xs i (x * (p + q) / p) (x * (p + q) / q) ∧ sbL xs i p q = replL xs i (x * (p + q) / p) (x * (p + q) / q) := by
  have hi : i < xs.length := (List.getElem?_eq_some_iff.1 hx).1
  have e : sbB xs i p q = replB xs i (x * (p + q) / p) (x * (p + q) / q) := by
    unfold sbB
    rw [idx_in h hi, term_at hx]
    simp only [h1, h2, h3, h4, h5, decide_true, Bool.and_self, Bool.true_and, Int.toNat_natCast]
  refine ⟨e, ?_⟩
  rw [sbL, e, term_at hx]
  cases hr : replB xs i (x * (p + q) / p) (x * (p + q) / q) with
  | true => simp
  | false => rw [repl_no hr]; rfl
/-- the two quotients are different -/
theorem sb_ne {r p q : Int} (h0 : 1 ≤ r) (h1 : 1 ≤ p) (h2 : p < q) (h4 : r % p = 0) (h5 : r % q = 0) : r / q ≠ r / p := fun e => by
  have a := Int.mul_ediv_add_emod r p
  have b := Int.mul_ediv_add_emod r q
  rw [h4] at a
  rw [h5, e] at b
  generalize r / p = t at a b
  have ht : 1 ≤ t := by
    rcases Int.lt_or_le 0 t with h | h
    · omega
    · have := Int.mul_nonneg (by omega : 0 ≤ p) (by omega : 0 ≤ -t)
      rw [Int.mul_neg] at this
      omega
  have := Int.mul_le_mul_of_nonneg_right (by omega : p + 1 ≤ q) (by omega : 0 ≤ t)
  rw [Int.add_mul] at this
  omega
theorem st_mul {x : Int} (h1 : 1 ≤ x) (h2 : x ≤ 1000000000) : 0 ≤ x * (x + 1) ∧ x * (x + 1) ≤ 1000000001000000000 ∧ (x ≠ 1 → x * (x + 1) ≠ x + 1) := by
  refine ⟨Int.mul_nonneg (by omega) (by omega), ?_, fun h e => ?_⟩
  · have := Int.mul_le_mul h2 (by omega : x + 1 ≤ 1000000001) (by omega) (by omega : (0 : Int) ≤ 1000000000); omega
  · have := Int.mul_le_mul_of_nonneg_right (by omega : 2 ≤ x) (by omega : 0 ≤ x + 1); omega
theorem sb_mul {x p q : Int} (h1 : 1 ≤ x) (h2 : x ≤ 1000000000) (h3 : 1 ≤ p) (h4 : p < q) (h5 : q ≤ 1000) : 1 ≤ x * (p + q) ∧ x * (p + q) ≤ 2000000000000 := by
  refine ⟨mul_pos1 h1 (by omega), ?_⟩
  have := Int.mul_le_mul h2 (by omega : p + q ≤ 2000) (by omega) (by omega : (0 : Int) ≤ 1000000000); omega
theorem st_len (xs : List Int) (i : Int) : (stL xs i).length ≤ 1048576 := by
  unfold stL
  split
  · rename_i h
    have h0 := h
    simp only [stB, Bool.and_eq_true] at h
    have h1 := h.2
    rw [replL, if_pos h1]
    simp only [replB, Bool.and_eq_true] at h1
    have := expB_len h1.2
    omega
  · simp
theorem sb_len (xs : List Int) (i p q : Int) : (sbL xs i p q).length ≤ 1048576 := by
  unfold sbL
  split
  · rename_i h
    have h0 := h
    simp only [sbB, Bool.and_eq_true] at h
    have h1 := h.2
    rw [replL, if_pos h1]
    simp only [replB, Bool.and_eq_true] at h1
    have := expB_len h1.2
    omega
  · simp
end Go.Proofs.Ythkchhjidihkpab
