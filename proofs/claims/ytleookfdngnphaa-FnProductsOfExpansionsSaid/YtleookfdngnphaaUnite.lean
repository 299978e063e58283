
/-
  Contracts of the union of two expansions, in the program and in the model, and of the library's Concat of two lists.
-/
import Derived.Test.YtleookfdngnphaaPut
import Derived.Test.YtleookfdngnphaaOwn
import Derived.Test.YtleookfdngnphaaSplitP
import Derived.Test.YtleookfdngnphaaConcat
namespace Go.Proofs.Ytleookfdngnphaa
open Go.RowKit
/-- numbers put into a list, one after the other -/
def putAll (xs : List Int) : List Int → List Int
  | [] => xs
  | y :: ys => putAll (putL xs y) ys
theorem putAll_snoc (ys : List Int) (y : Int) : ∀ xs : List Int, putAll xs (ys ++ [y]) = putL (putAll xs ys) y := by
  induction ys with
  | nil => intro xs; rfl
  | cons z zs ih => intro xs; exact ih _
theorem putAll_append (ys zs : List Int) : ∀ xs : List Int, putAll xs (ys ++ zs) = putAll (putAll xs ys) zs := by
  induction ys with
  | nil => intro xs; rfl
  | cons y ys ih => intro xs; exact ih _
theorem Rising.put {xs : List Int} (h : Rising xs) (v : Int) : Rising (putL xs v) := by
  by_cases hv : hasB xs v = true
  · rw [put_yes h hv]; exact h
  · rw [put_no h hv]; exact h.ins hv
theorem In64.put {xs : List Int} (h : In64 xs) {v : Int} (hv : -9223372036854775808 ≤ v ∧ v ≤ 9223372036854775807) : In64 (putL xs v) := by
  unfold putL
  split
  · exact h
  · exact h.ins hv _
theorem putAll_rising (ys : List Int) : ∀ {xs : List Int}, Rising xs → Rising (putAll xs ys) := by
  induction ys with
  | nil => intro xs h; exact h
  | cons y ys ih => intro xs h; exact ih (h.put y)
theorem putAll_len (ys : List Int) : ∀ xs : List Int, (putAll xs ys).length ≤ xs.length + ys.length := by
  induction ys with
  | nil => intro xs; simp [putAll]
  | cons y ys ih => intro xs; have := ih (putL xs y); have := put_len xs y; simp only [putAll, List.length_cons]; omega
theorem putAll_64 (ys : List Int) : ∀ {xs : List Int}, In64 xs → (∀ y ∈ ys, -9223372036854775808 ≤ y ∧ y ≤ 9223372036854775807) → In64 (putAll xs ys) := by
  induction ys with
  | nil => intro xs h _; exact h
  | cons y ys ih => intro xs h hy; exact ih (h.put (hy y (by simp))) (fun z hz => hy z (by simp [hz]))
theorem putAll_take {xs ys : List Int} {k : Nat} {y : Int} (h : ys[k]? = some y) : putAll xs (ys.take (k + 1)) = putL (putAll xs (ys.take k)) y := by
  have hk : k < ys.length := (List.getElem?_eq_some_iff.1 h).1
  rw [List.take_succ_eq_append_getElem hk, (List.getElem?_eq_some_iff.1 h).2, putAll_snoc]
theorem pos_end {xs : List Int} {v : Int} (h : ∀ x ∈ xs, x < v) : pos xs v = xs.length := pos_of (Nat.le_refl _) (fun i x _ hx => h x (List.mem_of_getElem? hx)) (fun x hx => by rw [List.getElem?_eq_none (Nat.le_refl _)] at hx; cases hx)
theorem put_end {xs : List Int} {v : Int} (h : ∀ x ∈ xs, x < v) : putL xs v = xs ++ [v] := by
  rw [putL, pos_end h, List.getElem?_eq_none (Nat.le_refl _), if_neg (by simp), insAt]
  simp
theorem putAll_end (ys : List Int) : ∀ {xs : List Int}, Rising (xs ++ ys) → putAll xs ys = xs ++ ys := by
  induction ys with
  | nil => intro xs _; simp [putAll]
  | cons y ys ih =>
    intro xs h
    have hlt : ∀ x ∈ xs, x < y := fun x hx => (List.pairwise_append.1 h).2.2 x hx y (by simp)
    rw [putAll, put_end hlt, ih (by simpa using h)]
    simp
theorem putAll_self {xs : List Int} (h : Rising xs) : putAll [] xs = xs := by simpa using putAll_end xs (xs := []) (by simpa using h)
def unB (xs ys : List Int) : Bool := expB xs && expB ys && expB (putAll xs ys)
def unL (xs ys : List Int) : List Int := if unB xs ys = true then putAll xs ys else []
theorem un_no {xs ys : List Int} (h : unB xs ys = false) : unL xs ys = [] := by rw [unL, h]; rfl
theorem un_x {xs ys : List Int} (h : expB xs = false) : unB xs ys = false := by simp [unB, h]
theorem un_y {xs ys : List Int} (h : expB ys = false) : unB xs ys = false := by simp [unB, h]
theorem un_in {xs ys : List Int} (h : expB xs = true) (h2 : expB ys = true) : unB xs ys = expB (putAll xs ys) ∧ unL xs ys = if expB (putAll xs ys) = true then putAll xs ys else [] := by
  have e : unB xs ys = expB (putAll xs ys) := by simp [unB, h, h2]
  exact ⟨e, by rw [unL, e]⟩
theorem un_len (xs ys : List Int) : (unL xs ys).length ≤ 1048576 := by
  unfold unL
  split
  · rename_i h
    simp only [unB, Bool.and_eq_true] at h
    have := expB_len h.2
    omega
  · simp
set_option maxHeartbeats 2000000 in
theorem unite_any (w : World) (Axs : Option Addr) (cxs : Nat) (xs : List Int) (hxs : Reads w Axs xs) (lxs : xs.length ≤ 1048576) (Ays : Option Addr) (cys : Nat) (ys : List Int) (hys : Reads w Ays ys) (lys : ys.length ≤ 1048576) (rx : In64 xs) (ry : In64 ys) : Calls Try.prog 42 #[.slice Axs xs.length cxs, .slice Ays ys.length cys] w (RetLB (unL xs ys) (unB xs ys) w) := by
  have Hxs := Lib.hid hxs
  have Hys := Lib.hid hys
  have Hrx := Lib.hid rx
  have Hry := Lib.hid ry
  clear hxs hys rx ry
  cases hx : expB xs with
  | false =>
    have E := un_x (ys := ys) hx
    rw [un_no E, E]
    go_enter Try.func42, Try.ntmps42
    go_wp2_with fail
    refine (isExpansion_any _ _ _ _ Hxs.out lxs Hrx.out).mono ?_; rintro e w1 ⟨rfl, hb1⟩; have hz1 := hb1.size; (try simp only [World.size_alloc, World.size_setCell, World.size_drew, World.heap_drewN] at hz1)
    go_wp2
    go_ret2
    exact ret_lnil (by (repeat' (first | (with_reducible exact Below.refl _ _) | (with_reducible assumption) | (with_reducible refine Below.drew ?_) | (with_reducible refine belowDrewN ?_ _) | (with_reducible refine Below.alloc ?_ ?_ _) | (with_reducible refine Below.setCell ?_ ?_ _) | (with_reducible refine belowStep (by assumption) ?_ ?_) | (with_reducible exact Below.size (by assumption)) | go_size)))
  | true =>
    cases hy : expB ys with
    | false =>
      have E := un_y (xs := xs) hy
      rw [un_no E, E]
      go_enter Try.func42, Try.ntmps42
      go_wp2_with fail
      refine (isExpansion_any _ _ _ _ Hxs.out lxs Hrx.out).mono ?_; rintro e w1 ⟨rfl, hb1⟩; have hz1 := hb1.size; (try simp only [World.size_alloc, World.size_setCell, World.size_drew, World.heap_drewN] at hz1)
      go_wp2_with fail
      refine (isExpansion_any _ _ _ _ (Hys.out.below (by (repeat' (first | (with_reducible exact Below.refl _ _) | (with_reducible assumption) | (with_reducible refine Below.drew ?_) | (with_reducible refine belowDrewN ?_ _) | (with_reducible refine Below.alloc ?_ ?_ _) | (with_reducible refine Below.setCell ?_ ?_ _) | (with_reducible refine belowStep (by assumption) ?_ ?_) | (with_reducible exact Below.size (by assumption)) | go_size)))) lys Hry.out).mono ?_; rintro e w2 ⟨rfl, hb2⟩; have hz2 := hb2.size; (try simp only [World.size_alloc, World.size_setCell, World.size_drew, World.heap_drewN] at hz2)
      go_wp2
      go_ret2
      exact ret_lnil (by (repeat' (first | (with_reducible exact Below.refl _ _) | (with_reducible assumption) | (with_reducible refine Below.drew ?_) | (with_reducible refine belowDrewN ?_ _) | (with_reducible refine Below.alloc ?_ ?_ _) | (with_reducible refine Below.setCell ?_ ?_ _) | (with_reducible refine belowStep (by assumption) ?_ ?_) | (with_reducible exact Below.size (by assumption)) | go_size)))
    | true =>
      have E := Lib.hid (un_in hx hy)
      have hlx := expB_len hx
      have hly := expB_len hy
      have Hrise := Lib.hid (expB_rising hx)
      go_enter Try.func42, Try.ntmps42
      go_wp2_with fail
      refine (isExpansion_any _ _ _ _ Hxs.out lxs Hrx.out).mono ?_; rintro e w1 ⟨rfl, hb1⟩; have hz1 := hb1.size; (try simp only [World.size_alloc, World.size_setCell, World.size_drew, World.heap_drewN] at hz1)
      go_wp2_with fail
      refine (isExpansion_any _ _ _ _ (Hys.out.below (by (repeat' (first | (with_reducible exact Below.refl _ _) | (with_reducible assumption) | (with_reducible refine Below.drew ?_) | (with_reducible refine belowDrewN ?_ _) | (with_reducible refine Below.alloc ?_ ?_ _) | (with_reducible refine Below.setCell ?_ ?_ _) | (with_reducible refine belowStep (by assumption) ?_ ?_) | (with_reducible exact Below.size (by assumption)) | go_size)))) lys Hry.out).mono ?_; rintro e w2 ⟨rfl, hb2⟩; have hz2 := hb2.size; (try simp only [World.size_alloc, World.size_setCell, World.size_drew, World.heap_drewN] at hz2)
      go_wp2_with fail
      refine (concat2_any _ _ _ (by (first | (go_size; done) | ((try simp only [World.size_alloc, World.size_setCell, World.size_drew, World.heap_drewN]); omega))) (cellNew (by (first | (go_size; done) | ((try simp only [World.size_alloc, World.size_setCell, World.size_drew, World.heap_drewN]); omega))) rfl) (cellNew (by (first | (go_size; done) | ((try simp only [World.size_alloc, World.size_setCell, World.size_drew, World.heap_drewN]); omega))) rfl) (Hxs.out.below (by (repeat' (first | (with_reducible exact Below.refl _ _) | (with_reducible assumption) | (with_reducible refine Below.drew ?_) | (with_reducible refine belowDrewN ?_ _) | (with_reducible refine Below.alloc ?_ ?_ _) | (with_reducible refine Below.setCell ?_ ?_ _) | (with_reducible refine belowStep (by assumption) ?_ ?_) | (with_reducible exact Below.size (by assumption)) | go_size)))) (Hys.out.below (by (repeat' (first | (with_reducible exact Below.refl _ _) | (with_reducible assumption) | (with_reducible refine Below.drew ?_) | (with_reducible refine belowDrewN ?_ _) | (with_reducible refine Below.alloc ?_ ?_ _) | (with_reducible refine Below.setCell ?_ ?_ _) | (with_reducible refine belowStep (by assumption) ?_ ?_) | (with_reducible exact Below.size (by assumption)) | go_size)))) (by omega)).mono ?_; rintro e w3 ⟨v3, rfl, ho3, hb3⟩; have hz3 := hb3.size; (try simp only [World.size_alloc] at hz3)
      have H64 : Hid (∀ y ∈ xs ++ ys, -9223372036854775808 ≤ y ∧ y ≤ 9223372036854775807) := fun y hy => by
        rcases List.mem_append.1 hy with h | h
        · exact Hrx.out.mem y h
        · exact Hry.out.mem y h
      have Hall : Hid (putAll [] (xs ++ ys) = putAll xs ys) := by show putAll [] (xs ++ ys) = _; rw [putAll_append, putAll_self Hrise.out]
      have hll : (xs ++ ys).length ≤ 48 := by simp; omega
      generalize xs ++ ys = ls at *
      obtain ⟨A3, c3, rfl, hr3⟩ := ho3.form
      have Hr3 := Lib.hid hr3
      clear ho3 hr3
      go_wp2
      go_loopw [6, 25] (fun v6 v25 wr => ∃ (k : Nat) (zs : List Int) (A' : Option Addr) (c' : Nat), k ≤ ls.length ∧ v25 = .int .i64 k ∧ v6 = .slice A' zs.length c' ∧ zs.length ≤ c' ∧ OwnI wr w.heap.size (.slice A' zs.length c') zs ∧ zs = putAll [] (ls.take k) ∧ Below w.heap.size w wr ∧ Below w3.heap.size w3 wr) (fun _ v25 _ => ls.length - (intOf v25).toNat)
      case atStart => exact ⟨0, [], _, _, Nat.zero_le _, rfl, rfl, Nat.zero_le _, (OwnI.zero _ _ (by (first | (go_size; done) | ((try simp only [World.size_alloc, World.size_setCell, World.size_drew, World.heap_drewN]); omega)))).below (by (repeat' (first | (with_reducible exact Below.refl _ _) | (with_reducible assumption) | (with_reducible refine Below.drew ?_) | (with_reducible refine belowDrewN ?_ _) | (with_reducible refine Below.alloc ?_ ?_ _) | (with_reducible refine Below.setCell ?_ ?_ _) | (with_reducible refine belowStep (by assumption) ?_ ?_) | (with_reducible exact Below.size (by assumption)) | go_size))), by simp [putAll], by (repeat' (first | (with_reducible exact Below.refl _ _) | (with_reducible assumption) | (with_reducible refine Below.drew ?_) | (with_reducible refine belowDrewN ?_ _) | (with_reducible refine Below.alloc ?_ ?_ _) | (with_reducible refine Below.setCell ?_ ?_ _) | (with_reducible refine belowStep (by assumption) ?_ ?_) | (with_reducible exact Below.size (by assumption)) | go_size)), Below.refl _ _⟩
      case round =>
        obtain ⟨k, zs, A', c', hk, rfl, rfl, hcz, hoz, hz, hbr, hbr3⟩ := hrel
        have hsz3 := hbr3.size
        have hzl : zs.length ≤ 48 := by have := putAll_len (ls.take k) []; rw [← hz, List.length_take] at this; simp at this; omega
        have hzr : Rising zs := by rw [hz]; exact putAll_rising _ List.Pairwise.nil
        have hz64 : In64 zs := by rw [hz]; exact putAll_64 _ (In64.of_mem (fun x hx => by cases hx)) (fun y hy => H64.out y (List.mem_of_mem_take hy))
        have Hz := Lib.hid hz
        have Hoz := Lib.hid hoz
        have Hzr := Lib.hid hzr
        have Hz64 := Lib.hid hz64
        have Hrz := Lib.hid hoz.reads.1
        have hsz := hbr.size
        clear hz hoz hzr hz64
        by_cases hlt : k < ls.length
        · obtain ⟨b, o, y, rfl, hb, hyk, hcell⟩ := (Hr3.out.below hbr3).at_ hlt
          have Hk := Lib.hid (putAll_take (xs := []) hyk)
          clear hyk
          cases hh : hasB zs y with
          | true =>
            have Hp := Lib.hid (put_yes Hzr.out hh)
            go_wp2_with fail
            refine (putIn_yes _ _ _ _ _ Hrz.out (by omega) Hzr.out hh).mono ?_; rintro e w4 ⟨rfl, hb4⟩; have hz4 := hb4.size; (try simp only [World.size_alloc, World.size_setCell, World.size_drew, World.heap_drewN] at hz4)
            go_wp2
            go_roundw
            case rel => exact ⟨k + 1, zs, _, _, by omega, by go_num, rfl, hcz, Hoz.out.below hb4, by rw [Hk.out, ← Hz.out, Hp.out], by (repeat' (first | (with_reducible exact Below.refl _ _) | (with_reducible assumption) | (with_reducible refine Below.drew ?_) | (with_reducible refine belowDrewN ?_ _) | (with_reducible refine Below.alloc ?_ ?_ _) | (with_reducible refine Below.setCell ?_ ?_ _) | (with_reducible refine belowStep (by assumption) ?_ ?_) | (with_reducible exact Below.size (by assumption)) | go_size)), hbr3.trans (hb4.mono (by omega))⟩
            case measure => simp [intOf]; omega
          | false =>
            have Hp := Lib.hid (put_no Hzr.out (v := y) (by rw [hh]; simp))
            go_wp2_with fail
            refine (putIn_no _ _ _ _ _ Hrz.out (by omega) hcz Hzr.out hh).mono ?_; rintro e w4 ⟨v4, rfl, ho4, hb4⟩; have hz4 := hb4.size; (try simp only [World.size_alloc, World.size_setCell, World.size_drew, World.heap_drewN] at hz4)
            obtain ⟨A4, c4, rfl, hr4⟩ := ho4.form
            have hc4 := ho4.cap_
            have Ho4 := Lib.hid ho4
            clear ho4 hr4
            go_wp2
            go_roundw
            case rel => exact ⟨k + 1, _, _, _, by omega, by go_num, rfl, hc4, Ho4.out.mono (by omega), by rw [Hk.out, ← Hz.out, Hp.out], by (repeat' (first | (with_reducible exact Below.refl _ _) | (with_reducible assumption) | (with_reducible refine Below.drew ?_) | (with_reducible refine belowDrewN ?_ _) | (with_reducible refine Below.alloc ?_ ?_ _) | (with_reducible refine Below.setCell ?_ ?_ _) | (with_reducible refine belowStep (by assumption) ?_ ?_) | (with_reducible exact Below.size (by assumption)) | go_size)), hbr3.trans (hb4.mono (by omega))⟩
            case measure => simp [intOf]; omega
        · obtain rfl : k = ls.length := by omega
          rw [List.take_length, Hall.out] at Hz
          cases he : expB zs with
          | true =>
            go_wp2_with fail
            refine (ifExp_yes _ _ _ _ Hrz.out (by omega) Hz64.out he).mono ?_; rintro e w5 ⟨rfl, hb5⟩; have hz5 := hb5.size; (try simp only [World.size_alloc, World.size_setCell, World.size_drew, World.heap_drewN] at hz5)
            go_wp2
            go_ret2
            rw [E.out.1, E.out.2, ← Hz.out, he, if_pos rfl]
            exact ⟨_, rfl, Hoz.out.below hb5, by (repeat' (first | (with_reducible exact Below.refl _ _) | (with_reducible assumption) | (with_reducible refine Below.drew ?_) | (with_reducible refine belowDrewN ?_ _) | (with_reducible refine Below.alloc ?_ ?_ _) | (with_reducible refine Below.setCell ?_ ?_ _) | (with_reducible refine belowStep (by assumption) ?_ ?_) | (with_reducible exact Below.size (by assumption)) | go_size))⟩
          | false =>
            go_wp2_with fail
            refine (ifExp_no _ _ _ _ Hrz.out (by omega) Hz64.out he).mono ?_; rintro e w5 ⟨rfl, hb5⟩; have hz5 := hb5.size; (try simp only [World.size_alloc, World.size_setCell, World.size_drew, World.heap_drewN] at hz5)
            go_wp2
            go_ret2
            rw [E.out.1, E.out.2, ← Hz.out, he]
            exact ret_lnil (by (repeat' (first | (with_reducible exact Below.refl _ _) | (with_reducible assumption) | (with_reducible refine Below.drew ?_) | (with_reducible refine belowDrewN ?_ _) | (with_reducible refine Below.alloc ?_ ?_ _) | (with_reducible refine Below.setCell ?_ ?_ _) | (with_reducible refine belowStep (by assumption) ?_ ?_) | (with_reducible exact Below.size (by assumption)) | go_size)))
end Go.Proofs.Ytleookfdngnphaa
