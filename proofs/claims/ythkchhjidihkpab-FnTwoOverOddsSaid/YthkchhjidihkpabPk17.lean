import Derived.Test.YthkchhjidihkpabPk16
import Derived.Test.YthkchhjidihkpabPk11
import Derived.Test.YthkchhjidihkpabPk14

/-
  Contracts of the union of two expansions, in the program and in the model, and of the library's Concat of two lists.
-/
namespace Go.Proofs.Ythkchhjidihkpab
open Go.RowKit
/-- numbers put into a list, one after the other -/
def putAll (xs : List Int) : List Int → List Int
  | [] => xs
  | y :: ys => putAll (putL xs y) ys
theorem putAll_snoc (ys : List Int) (y : Int) : ∀ xs : List Int, putAll xs (ys ++ [y]) = putL (putAll xs ys) y := by
  induction ys with
  | nil => intro xs; rfl
  | cons z zs ih => intro xs; exact ih _
theorem putAll_append (ys zs : List Int) : ∀ xs : List Int, putAll xs (ys ++ zs) = putAll (putAll xs ys) zs := by
  induction ys with
  | nil => intro xs; rfl
  | cons y ys ih => intro xs; exact ih _
theorem Rising.put {xs : List Int} (h : Rising xs) (v : Int) : Rising (putL xs v) := by
  by_cases hv : hasB xs v = true
  · rw [put_yes h hv]; exact h
  · rw [put_no h hv]; exact h.ins hv
theorem In64.put {xs : List Int} (h : In64 xs) {v : Int} (hv : -9223372036854775808 ≤ v ∧ v ≤ 9223372036854775807) : In64 (putL xs v) := by
  unfold putL
  split
  · exact h
  · exact h.ins hv _
theorem putAll_rising (ys : List Int) : ∀ {xs : List Int}, Rising xs → Rising (putAll xs ys) := by
  induction ys with
  | nil => intro xs h; exact h
  | cons y ys ih => intro xs h; exact ih (h.put y)
theorem putAll_len (ys : List Int) : ∀ xs : List Int, (putAll xs ys).length ≤ xs.length + ys.length := by
  induction ys with
  | nil => intro xs; simp [putAll]
  | cons y ys ih => intro xs; have := ih (putL xs y); have := put_len xs y; simp only [putAll, List.length_cons]; omega
theorem putAll_64 (ys : List Int) : ∀ {xs : List Int}, In64 xs → (∀ y ∈ ys, -9223372036854775808 ≤ y ∧ y ≤ 9223372036854775807) → In64 (putAll xs ys) := by
  induction ys with
  | nil => intro xs h _; exact h
  | cons y ys ih => intro xs h hy; exact ih (h.put (hy y (by simp))) (fun z hz => hy z (by simp [hz]))
theorem putAll_take {xs ys : List Int} {k : Nat} {y : Int} (h : ys[k]? = some y) : putAll xs (ys.take (k + 1)) = putL (putAll xs (ys.take k)) y := by
  have hk : k < ys.length := (List.getElem?_eq_some_iff.1 h).1
  rw [List.take_succ_eq_append_getElem hk, (List.getElem?_eq_some_iff.1 h).2, putAll_snoc]
theorem pos_end {xs : List Int} {v : Int} (h : ∀ x ∈ xs, x < v) : pos xs v = xs.length := pos_of (Nat.le_refl _) (fun i x _ hx => h x (List.mem_of_getElem? hx)) (fun x hx => by rw [List.getElem?_eq_none (Nat.le_refl _)] at hx; cases hx)
theorem put_end {xs : List Int} {v : Int} (h : ∀ x ∈ xs, x < v) : putL xs v = xs ++ [v] := by
  rw [putL, pos_end h, List.getElem?_eq_none (Nat.le_refl _), if_neg (by simp), insAt]
  simp
theorem putAll_end (ys : List Int) : ∀ {xs : List Int}, Rising (xs ++ ys) → putAll xs ys = xs ++ ys := by
  induction ys with
  | nil => intro xs _; simp [putAll]
  | cons y ys ih =>
    intro xs h
    have hlt : ∀ x ∈ xs, x < y := fun x hx => (List.pairwise_append.1 h).2.2 x hx y (by simp)
    rw [putAll, put_end hlt, ih (by simpa using h)]
    simp
theorem putAll_self {xs : List Int} (h : Rising xs) : putAll [] xs = xs := by simpa using putAll_end xs (xs := []) (by simpa using h)
def unB (xs ys : List Int) : Bool := expB xs && expB ys && expB (putAll xs ys)
def unL (xs ys : List Int) : List Int := if unB xs ys = true then putAll xs ys else []
theorem un_no {xs ys : List Int} (h : unB xs ys = false) : unL xs ys = [] := by rw [unL, h]; rfl
theorem un_x {xs ys : List Int} (h : expB xs = false) : unB xs ys = false := by simp [unB, h]
theorem un_y {xs ys : List Int} (h : expB ys = false) : unB xs ys = false := by simp [unB, h]
theorem un_in {xs ys : List Int} (h : expB xs = true) (h2 : expB ys = true) : unB xs ys = expB (putAll xs ys) ∧ unL xs ys = if expB (putAll xs ys) = true then putAll xs ys else [] := by
  have e : unB xs ys = expB (putAll xs ys) := by simp [unB, h, h2]
  exact ⟨e, by rw [unL, e]⟩
theorem un_len (xs ys : List Int) : (unL xs ys).length ≤ 1048576 := by
  unfold unL
  split
  · rename_i h
    simp only [unB, Bool.and_eq_true] at h
    have := expB_len h.2
    omega
  · simp
set_option maxHeartbeats 2000000 in
theorem unite_any (w : World) (Axs : Option Addr) (cxs : Nat) (xs : List Int) (hxs : Reads w Axs xs) (lxs : xs.length ≤ 1048576) (Ays : Option Addr) (cys : Nat) (ys : List Int) (hys : Reads w Ays ys) (lys : ys.length ≤ 1048576) (rx : In64 xs) (ry : In64 ys) : Calls Try.prog 43 #[.slice Axs xs.length cxs, .slice Ays ys.length cys] w (RetLB (unL xs ys) (unB xs ys) w) := by
  have Hxs := Lib.hid hxs
  have Hys := Lib.hid hys
  have Hrx := Lib.hid rx
  have Hry := Lib.hid ry
  clear hxs hys rx ry
  cases hx : expB xs with
  | false =>
    have E := un_x (ys := ys) hx
    rw [un_no E, E]
    go_enter Try.func43, Try.ntmps43
    go_wp2_with fail
    refine (isExpansion_any _ _ _ _ Hxs.out lxs Hrx.out).mono ?_; rintro e w1 ⟨rfl, hb1⟩; have hz1 := hb1.size; (try simp only [World.size_alloc, World.size_setCell, World.size_drew, World.heap_drewN] at hz1)
    go_wp2
    go_ret2
    exact ret_lnil (by (repeat' (first | (with_reducible exact Below.refl _ _) | (with_reducible assumption) | (with_reducible refine Below.drew ?_) | (with_reducible refine belowDrewN ?_ _) | (with_reducible refine Below.alloc ?_ ?_ _) | (with_reducible refine Below.setCell ?_ ?_ _) | (with_reducible refine belowStep (by assumption) ?_ ?_) | (with_reducible exact Below.size (by assumption)) | go_size)))
  | true =>
    cases hy : expB ys with
    | false =>
      have E := un_y (xs := xs) hy
      rw [un_no E, E]
      go_enter Try.func43, Try.ntmps43
      go_wp2_with fail
      refine (isExpansion_any _ _ _ _ Hxs.out lxs Hrx.out).mono ?_; rintro e w1 ⟨rfl, hb1⟩; have hz1 := hb1.size; (try simp only [World.size_alloc, World.size_setCell, World.size_drew, World.heap_drewN] at hz1)
      go_wp2_with fail
      refine (isExpansion_any _ _ _ _ (Hys.out.below (by (repeat' (first | (with_reducible exact Below.refl _ _) | (with_reducible assumption) | (with_reducible refine Below.drew ?_) | (with_reducible refine belowDrewN ?_ _) | (with_reducible refine Below.alloc ?_ ?_ _) | (with_reducible refine Below.setCell ?_ ?_ _) | (with_reducible refine belowStep (by assumption) ?_ ?_) | (with_reducible exact Below.size (by assumption)) | go_size)))) lys Hry.out).mono ?_; rintro e w2 ⟨rfl, hb2⟩; have hz2 := hb2.size; (try simp only [World.size_alloc, World.size_setCell, World.size_drew, World.heap_drewN] at hz2)
      go_wp2
      go_ret2
      exact ret_lnil (by (repeat' (first | (with_reducible exact Below.refl _ _) | (with_reducible assumption) | (with_reducible refine Below.drew ?_) | (with_reducible refine belowDrewN ?_ _) | (with_reducible refine Below.alloc ?_ ?_ _) | (with_reducible refine Below.setCell ?_ ?_ _) | (with_reducible refine belowStep (by assumption) ?_ ?_) | (with_reducible exact Below.size (by assumption)) | go_size)))
    | true =>
      have E := Lib.hid (un_in hx hy)
      have hlx := expB_len hx
      have hly := expB_len hy
      have Hrise := Lib.hid (expB_rising hx)
      go_enter Try.func43, Try.ntmps43
      go_wp2_with fail
      refine (isExpansion_any _ _ _ _ Hxs.out lxs Hrx.out).mono ?_; rintro e w1 ⟨rfl, hb1⟩; have hz1 := hb1.size; (try simp only [World.size_alloc, World.size_setCell, World.size_drew, World.heap_drewN] at hz1)
      go_wp2_with fail
      refine (isExpansion_any _ _ _ _ (Hys.out.below (by (repeat' (first | (with_reducible exact Below.refl _ _) | (with_reducible assumption) | (with_reducible refine Below.drew ?_) | (with_reducible refine belowDrewN ?_ _) | (with_reducible refine Below.alloc ?_ ?_ _) | (with_reducible refine Below.setCell ?_ ?_ _) | (with_reducible refine belowStep (by assumption) ?_ ?_) | (with_reducible exact Below.size (by assumption)) | go_size)))) lys Hry.out).mono ?_; rintro e w2 ⟨rfl, hb2⟩; have hz2 := hb2.size; (try simp only [World.size_alloc, World.size_setCell, World.size_drew, World.heap_drewN] at hz2)
      go_wp2_with fail
      refine (concat2_any _ _ _ (by (first | (go_size; done) | ((try simp only [World.size_alloc, World.size_setCell, World.size_drew, World.heap_drewN]); omega))) (cellNew (by (first | (go_size; done) | ((try simp only [World.size_alloc, World.size_setCell, World.size_drew, World.heap_drewN]); omega))) rfl) (cellNew (by (first | (go_size; done) | ((try simp only [World.size_alloc, World.size_setCell, World.size_drew, World.heap_drewN]); omega))) rfl) (Hxs.out.below (by (repeat' (first | (with_reducible exact Below.refl _ _) | (with_reducible assumption) | (with_reducible refine Below.drew ?_) | (with_reducible refine belowDrewN ?_ _) | (with_reducible refine Below.alloc ?_ ?_ _) | (with_reducible refine Below.setCell ?_ ?_ _) | (with_reducible refine belowStep (by assumption) ?_ ?_) | (with_reducible exact Below.size (by assumption)) | go_size)))) (Hys.out.below (by (repeat' (first | (with_reducible exact Below.refl _ _) | (with_reducible assumption) | (with_reducible refine Below.drew ?_) | (with_reducible refine belowDrewN ?_ _) | (with_reducible refine Below.alloc ?_ ?_ _) | (with_reducible refine Below.setCell ?_ ?_ _) | (with_reducible refine belowStep (by assumption) ?_ ?_) | (with_reducible exact Below.size (by assumption)) | go_size)))) (by omega)).mono ?_; rintro e w3 ⟨v3, rfl, ho3, hb3⟩; have hz3 := hb3.size; (try simp only [World.size_alloc] at hz3)
      have H64 : Hid (∀ y ∈ xs ++ ys, -9223372036854775808 ≤ y ∧ y ≤ 9223372036854775807) := fun y hy => by
        rcases List.mem_append.1 hy with h | h
        · exact Hrx.out.mem y h
        · exact Hry.out.mem y h
      have Hall : Hid (putAll [] (xs ++ ys) = putAll xs ys) := by show putAll [] (xs ++ ys) = _; rw [putAll_append, putAll_self Hrise.out]
      have hll : (xs ++ ys).length ≤ 48 := by simp; omega
      generalize xs ++ ys = ls at *
      obtain ⟨A3, c3, rfl, hr3⟩ := ho3.form
      have Hr3 := Lib.hid hr3
      clear ho3 hr3
      go_wp2
      go_loopw [6, 25] (fun v6 v25 wr => ∃ (k : Nat) (zs : List Int) (A' : Option Addr) (c' : Nat), k ≤ ls.length ∧ v25 = .int .i64 k ∧ v6 = .slice A' zs.length c' ∧ zs.length ≤ c' ∧ OwnI wr w.heap.size (.slice A' zs.length c') zs ∧ zs = putAll [] (ls.take k) ∧ Below w.heap.size w wr ∧ Below w3.heap.size w3 wr) (fun _ v25 _ => ls.length - (intOf v25).toNat)
      case atStart => exact ⟨0, [], _, _, Nat.zero_le _, rfl, rfl, Nat.zero_le _, (OwnI.zero _ _ (by (first | (go_size; done) | ((try simp only [World.size_alloc, World.size_setCell, World.size_drew, World.heap_drewN]); omega)))).below (by (repeat' (first | (with_reducible exact Below.refl _ _) | (with_reducible assumption) | (with_reducible refine Below.drew ?_) | (with_reducible refine belowDrewN ?_ _) | (with_reducible refine Below.alloc ?_ ?_ _) | (with_reducible refine Below.setCell ?_ ?_ _) | (with_reducible refine belowStep (by assumption) ?_ ?_) | (with_reducible exact Below.size (by assumption)) | go_size))), by simp [putAll], by (repeat' (first | (with_reducible exact Below.refl _ _) | (with_reducible assumption) | (with_reducible refine Below.drew ?_) | (with_reducible refine belowDrewN ?_ _) | (with_reducible refine Below.alloc ?_ ?_ _) | (with_reducible refine Below.setCell ?_ ?_ _) | (with_reducible refine belowStep (by assumption) ?_ ?_) | (with_reducible exact Below.size (by assumption)) | go_size)), Below.refl _ _⟩
      case round =>
        obtain ⟨k, zs, A', c', hk, rfl, rfl, hcz, hoz, hz, hbr, hbr3⟩ := hrel
        have hsz3 := hbr3.size
        have hzl : zs.length ≤ 48 := by have := putAll_len (ls.take k) []; rw [← hz, List.length_take] at this; simp at this; omega
        have hzr : Rising zs := by rw [hz]; exact putAll_rising _ List.Pairwise.nil
        have hz64 : In64 zs := by rw [hz]; exact putAll_64 _ (In64.of_mem (fun x hx => by cases hx)) (fun y hy => H64.out y (List.mem_of_mem_take hy))
        have Hz := Lib.hid hz
        have Hoz := Lib.hid hoz
        have Hzr := Lib.hid hzr
        have Hz64 := Lib.hid hz64
        have Hrz := Lib.hid hoz.reads.1
        have hsz := hbr.size
        clear hz hoz hzr hz64
        by_cases hlt : k < ls.length
        · obtain ⟨b, o, y, rfl, hb, hyk, hcell⟩ := (Hr3.out.below hbr3).at_ hlt
          have Hk := Lib.hid (putAll_take (xs := []) hyk)
          clear hyk
          cases hh : hasB zs y with
          | true =>
            have Hp := Lib.hid (put_yes Hzr.out hh)
            go_wp2_with fail
            refine (putIn_yes _ _ _ _ _ Hrz.out (by omega) Hzr.out hh).mono ?_; rintro e w4 ⟨rfl, hb4⟩; have hz4 := hb4.size; (try simp only [World.size_alloc, World.size_setCell, World.size_drew, World.heap_drewN] at hz4)
            go_wp2
            go_roundw
            case rel => exact ⟨k + 1, zs, _, _, by omega, by go_num, rfl, hcz, Hoz.out.below hb4, by rw [Hk.out, ← Hz.out, Hp.out], by (repeat' (first | (with_reducible exact Below.refl _ _) | (with_reducible assumption) | (with_reducible refine Below.drew ?_) | (with_reducible refine belowDrewN ?_ _) | (with_reducible refine Below.alloc ?_ ?_ _) | (with_reducible refine Below.setCell ?_ ?_ _) | (with_reducible refine belowStep (by assumption) ?_ ?_) | (with_reducible exact Below.size (by assumption)) | go_size)), hbr3.trans (hb4.mono (by omega))⟩
            case measure => simp [intOf]; omega
          | false =>
            have Hp := Lib.hid (put_no Hzr.out (v := y) (by rw [hh]; simp))
            go_wp2_with fail
            refine (putIn_no _ _ _ _ _ Hrz.out (by omega) hcz Hzr.out hh).mono ?_; rintro e w4 ⟨v4, rfl, ho4, hb4⟩; have hz4 := hb4.size; (try simp only [World.size_alloc, World.size_setCell, World.size_drew, World.heap_drewN] at hz4)
            obtain ⟨A4, c4, rfl, hr4⟩ := ho4.form
            have hc4 := ho4.cap_
            have Ho4 := Lib.hid ho4
            clear ho4 hr4
            go_wp2
            go_roundw
            case rel => exact ⟨k + 1, _, _, _, by omega, by go_num, rfl, hc4, Ho4.out.mono (by omega), by rw [Hk.out, ← Hz.out, Hp.out], by (repeat' (first | (with_reducible exact Below.refl _ _) | (with_reducible assumption) | (with_reducible refine Below.drew ?_) | (with_reducible refine belowDrewN ?_ _) | (with_reducible refine Below.alloc ?_ ?_ _) | (with_reducible refine Below.setCell ?_ ?_ _) | (with_reducible refine belowStep (by assumption) ?_ ?_) | (with_reducible exact Below.size (by assumption)) | go_size)), hbr3.trans (hb4.mono (by omega))⟩
            case measure => simp [intOf]; omega
        · obtain rfl : k = ls.length := by omega
          rw [List.take_length, Hall.out] at Hz
          cases he : expB zs with
          | true =>
            go_wp2_with fail
            refine (ifExp_yes _ _ _ _ Hrz.out (by omega) Hz64.out he).mono ?_; rintro e w5 ⟨rfl, hb5⟩; have hz5 := hb5.size; (try simp only [World.size_alloc, World.size_setCell, World.size_drew, World.heap_drewN] at hz5)
            go_wp2
            go_ret2
            rw [E.out.1, E.out.2, ← Hz.out, he, if_pos rfl]
            exact ⟨_, rfl, Hoz.out.below hb5, by (repeat' (first | (with_reducible exact Below.refl _ _) | (with_reducible assumption) | (with_reducible refine Below.drew ?_) | (with_reducible refine belowDrewN ?_ _) | (with_reducible refine Below.alloc ?_ ?_ _) | (with_reducible refine Below.setCell ?_ ?_ _) | (with_reducible refine belowStep (by assumption) ?_ ?_) | (with_reducible exact Below.size (by assumption)) | go_size))⟩
          | false =>
            go_wp2_with fail
            refine (ifExp_no _ _ _ _ Hrz.out (by omega) Hz64.out he).mono ?_; rintro e w5 ⟨rfl, hb5⟩; have hz5 := hb5.size; (try simp only [World.size_alloc, World.size_setCell, World.size_drew, World.heap_drewN] at hz5)
            go_wp2
            go_ret2
            rw [E.out.1, E.out.2, ← Hz.out, he]
            exact ret_lnil (by (repeat' (first | (with_reducible exact Below.refl _ _) | (with_reducible assumption) | (with_reducible refine Below.drew ?_) | (with_reducible refine belowDrewN ?_ _) | (with_reducible refine Below.alloc ?_ ?_ _) | (with_reducible refine Below.setCell ?_ ?_ _) | (with_reducible refine belowStep (by assumption) ?_ ?_) | (with_reducible exact Below.size (by assumption)) | go_size)))
end Go.Proofs.Ythkchhjidihkpab


/-
  Plain facts on sorted lists, and on numbers that are put into a list one by one.
-/
namespace Go.Proofs.Ythkchhjidihkpab
open Go.RowKit
def srt (xs : List Int) : List Int := xs.mergeSort fun x y => decide (x ≤ y)
theorem srt_perm (xs : List Int) : (srt xs).Perm xs := List.mergeSort_perm _ _
theorem srt_sorted (xs : List Int) : (srt xs).Pairwise (· ≤ ·) := by
  have := List.pairwise_mergeSort (le := fun x y : Int => decide (x ≤ y)) (by intro a b c; simp; omega) (by intro a b; simp; omega) xs
  exact this.imp (by simp)
theorem srt_len (xs : List Int) : (srt xs).length = xs.length := (srt_perm xs).length_eq
theorem srt_mem {xs : List Int} {x : Int} : x ∈ srt xs ↔ x ∈ xs := (srt_perm xs).mem_iff
theorem srt_of {xs ys : List Int} (hp : ys.Perm xs) (hs : ys.Pairwise (· ≤ ·)) : srt xs = ys :=
  List.Perm.eq_of_pairwise (le := (· ≤ ·)) (fun _ _ _ _ h1 h2 => Int.le_antisymm h1 h2) (srt_sorted xs) hs ((srt_perm xs).trans hp.symm)
theorem srt_rising {xs : List Int} (h : Rising xs) : srt xs = xs := srt_of (List.Perm.refl _) (h.imp (fun h => Int.le_of_lt h))
theorem srt_64 {xs : List Int} (h : In64 xs) : In64 (srt xs) := In64.of_mem fun x hx => h.mem x (srt_mem.1 hx)
theorem put_perm {xs : List Int} (hx : Rising xs) {v : Int} (h : v ∉ xs) : (putL xs v).Perm (v :: xs) := by
  rw [put_no hx (fun hb => h ((hasB_iff xs v).1 hb))]
  unfold insAt
  refine List.perm_middle.trans ?_
  rw [List.take_append_drop]
theorem putAll_perm : ∀ (ys : List Int) {xs : List Int}, Rising xs → (xs ++ ys).Nodup → (putAll xs ys).Perm (xs ++ ys)
  | [], xs, _, _ => by simp [putAll]
  | y :: ys, xs, hx, hn => by
    have h1 : ((y :: xs) ++ ys).Nodup := (List.perm_middle (a := y) (l₁ := xs) (l₂ := ys)).nodup_iff.1 hn
    have hy : y ∉ xs := fun h => (List.nodup_cons.1 h1).1 (List.mem_append_left _ h)
    have hp := put_perm hx hy
    have h2 : (putL xs y ++ ys).Nodup := ((hp.append_right ys).nodup_iff).2 h1
    exact (putAll_perm ys (hx.put y) h2).trans ((hp.append_right ys).trans (List.perm_middle (a := y) (l₁ := xs) (l₂ := ys)).symm)
/-- different numbers, put one by one, are the sorted list -/
theorem putAll_srt {ys : List Int} (h : ys.Nodup) : putAll [] ys = srt ys := by
  have hr : Rising (putAll [] ys) := putAll_rising ys List.Pairwise.nil
  exact (srt_of (by simpa using putAll_perm ys (xs := []) List.Pairwise.nil (by simpa using h)) (hr.imp (fun h => Int.le_of_lt h))).symm
/-- the least number first, falling: turned round it rises -/
theorem falling_nodup {xs : List Int} (h : xs.Pairwise (fun a b => b < a)) : xs.Nodup := h.imp (fun h => by omega)
end Go.Proofs.Ythkchhjidihkpab


/-
  Plain facts on the products of the terms of two expansions.
-/
namespace Go.Proofs.Ythkchhjidihkpab
open Go.RowKit
/-- all products, in the order in which they are made -/
def prd (a b : List Int) : List Int := a.flatMap (fun d => b.map (d * ·))
def poO (a b : List Int) : Option (List Int) := if expB a = true ∧ expB b = true ∧ expB (srt (prd a b)) = true then some (srt (prd a b)) else none
theorem poO_a {a b : List Int} (h : expB a = false) : poO a b = none := by unfold poO; rw [if_neg (fun e => by rw [h] at e; cases e.1)]
theorem poO_b {a b : List Int} (h : expB b = false) : poO a b = none := by unfold poO; rw [if_neg (fun e => by rw [h] at e; cases e.2.1)]
theorem poO_no {a b : List Int} (h : expB (srt (prd a b)) = false) : poO a b = none := by unfold poO; rw [if_neg (fun e => by rw [h] at e; cases e.2.2)]
theorem poO_yes {a b : List Int} (ha : expB a = true) (hb : expB b = true) (h : expB (srt (prd a b)) = true) : poO a b = some (srt (prd a b)) := by unfold poO; rw [if_pos ⟨ha, hb, h⟩]
theorem poO_len (a b : List Int) : ((poO a b).getD []).length ≤ 24 := by
  unfold poO
  split
  · rename_i h; exact expB_len h.2.2
  · simp
theorem prd_cons (d : Int) (a b : List Int) : prd (d :: a) b = b.map (d * ·) ++ prd a b := by simp [prd]
theorem prd_append (a c b : List Int) : prd (a ++ c) b = prd a b ++ prd c b := by simp [prd]
theorem prd_len (a b : List Int) : (prd a b).length = a.length * b.length := by
  induction a with
  | nil => simp [prd]
  | cons d a ih => rw [prd_cons, List.length_append, ih, List.length_map, List.length_cons, Nat.succ_mul]; omega
theorem prd_mem {a b : List Int} {x : Int} : x ∈ prd a b ↔ ∃ d ∈ a, ∃ e ∈ b, x = d * e := by
  unfold prd
  rw [List.mem_flatMap]
  constructor
  · rintro ⟨d, hd, hx⟩
    obtain ⟨e, he, rfl⟩ := List.mem_map.1 hx
    exact ⟨d, hd, e, he, rfl⟩
  · rintro ⟨d, hd, e, he, rfl⟩
    exact ⟨d, hd, List.mem_map.2 ⟨e, he, rfl⟩⟩
theorem prd_in {a b : List Int} (ha : expB a = true) (hb : expB b = true) : ∀ x ∈ prd a b, 1 ≤ x ∧ x ≤ 1000000000000000000 := fun x hx => by
  obtain ⟨d, hd, e, he, rfl⟩ := prd_mem.1 hx
  have h1 := expB_small ha d hd
  have h2 := expB_small hb e he
  have := mul_bounds (a := d) (b := e) (by omega) h1.2 (by omega) h2.2
  exact ⟨mul_pos1 h1.1 h2.1, this.2⟩
theorem prd_64 {a b : List Int} (ha : expB a = true) (hb : expB b = true) : In64 (prd a b) := In64.of_mem fun x hx => by have := prd_in ha hb x hx; omega
/-- the products up to a place in both lists -/
def prT (a b : List Int) (i : Nat) (d : Int) (j : Nat) : List Int := prd (a.take i) b ++ (b.take j).map (d * ·)
theorem prT_zero (a b : List Int) (i : Nat) (d : Int) : prT a b i d 0 = prd (a.take i) b := by simp [prT]
theorem prT_next {a b : List Int} {i j : Nat} {d e : Int} (h : b[j]? = some e) : prT a b i d (j + 1) = prT a b i d j ++ [d * e] := by
  unfold prT
  rw [List.take_add_one, h]
  simp
theorem prT_all {a b : List Int} {i : Nat} {d : Int} (h : a[i]? = some d) : prT a b i d b.length = prd (a.take (i + 1)) b := by
  unfold prT
  rw [List.take_add_one, h, List.take_length, prd_append]
  simp [prd]
theorem prT_len {a b : List Int} {i j : Nat} {d : Int} (ha : expB a = true) (hb : expB b = true) (hi : i ≤ a.length) (hj : j ≤ b.length) : (prT a b i d j).length ≤ 600 := by
  have h1 := expB_len ha
  have h2 := expB_len hb
  unfold prT
  rw [List.length_append, prd_len, List.length_map, List.length_take, List.length_take]
  have : min i a.length * b.length ≤ 24 * 24 := Nat.mul_le_mul (by omega) h2
  omega
theorem putAll_full : ∀ {ys xs : List Int}, Rising xs → (putAll xs ys).length = xs.length + ys.length → (xs ++ ys).Nodup
  | [], xs, hx, _ => by rw [List.append_nil]; exact hx.imp (fun h => by omega)
  | y :: ys, xs, hx, hl => by
    rw [putAll] at hl
    have h1 := putAll_len ys (putL xs y)
    have h2 := put_len xs y
    rw [List.length_cons] at hl
    have hy : y ∉ xs := fun h => by
      have := put_yes hx ((hasB_iff xs y).2 h)
      rw [this] at h1 hl
      omega
    have hp := put_perm hx hy
    have ih := putAll_full (ys := ys) (hx.put y) (by omega)
    exact ((hp.append_right ys).trans (List.perm_middle (a := y) (l₁ := xs) (l₂ := ys)).symm).nodup_iff.1 ih
theorem srt_nodup {xs : List Int} (h : expB (srt xs) = true) : xs.Nodup := (srt_perm xs).nodup_iff.1 ((expB_rising h).imp (fun h => by omega))
/-- what the model's puts come to -/
theorem put_srt {xs : List Int} (h : (putAll [] xs).length = xs.length) : putAll [] xs = srt xs := putAll_srt (by simpa using putAll_full (xs := []) (ys := xs) List.Pairwise.nil (by simpa using h))
theorem put_less {xs : List Int} (h : (putAll [] xs).length ≠ xs.length) : expB (srt xs) = false := by
  cases he : expB (srt xs) with
  | false => rfl
  | true =>
    exfalso
    apply h
    rw [putAll_srt (srt_nodup he), srt_len]
theorem srt_big {xs : List Int} {x : Int} (hx : x ∈ xs) (h : ¬ x ≤ 1000000000) : expB (srt xs) = false := by
  cases he : expB (srt xs) with
  | false => rfl
  | true => exact absurd (expB_small he x (srt_mem.2 hx)).2 h
theorem prd_two (xs : List Int) : prd xs [2] = xs.map (2 * ·) := by
  induction xs with
  | nil => rfl
  | cons x xs ih => rw [prd_cons, ih]; simp; omega
theorem rising_two {xs : List Int} (h : Rising xs) : Rising (xs.map (2 * ·)) := by
  unfold Rising at h ⊢
  rw [List.pairwise_map]
  exact h.imp (fun h => by omega)
theorem expB_two : expB [2] = true := by decide +kernel
theorem expB_26 : expB [2, 6] = true := by decide +kernel
end Go.Proofs.Ythkchhjidihkpab


/-
  Plain facts on quotients by divisors, and on the expansions of two parts of an odd number.
-/
namespace Go.Proofs.Ythkchhjidihkpab
open Go.RowKit
theorem ovT_qL (N : Nat) (l : List Nat) : ovT N l = qL (N : Int) (ints l) := by
  unfold ovT qL ints
  rw [List.map_map, List.map_map]
  exact List.map_congr_left fun x _ => Int.natCast_ediv N x
/-- the quotients by falling divisors rise -/
theorem qL_rise {n : Int} (hn : 1 ≤ n) : ∀ {ds : List Int}, ds.Pairwise (fun a b => b < a) → (∀ d ∈ ds, 1 ≤ d ∧ n % d = 0) → Rising (qL n ds)
  | [], _, _ => List.Pairwise.nil
  | d :: ds, hp, h => by
    rw [List.pairwise_cons] at hp
    refine List.pairwise_cons.2 ⟨fun x hx => ?_, qL_rise hn hp.2 (fun y hy => h y (by simp [hy]))⟩
    obtain ⟨e, he, rfl⟩ := List.mem_map.1 hx
    obtain ⟨d1, d2⟩ := h d (by simp)
    obtain ⟨e1, e2⟩ := h e (by simp [he])
    have hlt := hp.1 e he
    obtain ⟨x, rfl⟩ := Int.dvd_of_emod_eq_zero d2
    obtain ⟨y, hy⟩ := Int.dvd_of_emod_eq_zero e2
    have ex : d * x / d = x := Int.mul_ediv_cancel_left _ (by omega)
    have ey : d * x / e = y := by rw [hy]; exact Int.mul_ediv_cancel_left _ (by omega)
    show d * x / d < d * x / e
    rw [ex, ey]
    have hx0 : 0 < x := by
      rcases Int.lt_or_le 0 x with h | h
      · exact h
      · have := Int.mul_nonpos_of_nonneg_of_nonpos (show (0 : Int) ≤ d by omega) h; omega
    rcases Int.lt_or_le x y with h | h
    · exact h
    · exfalso
      have h1 : e * y ≤ e * x := Int.mul_le_mul_of_nonneg_left h (by omega)
      have h2 : e * x < d * x := Int.mul_lt_mul_of_pos_right hlt hx0
      omega
/-- the expansion of 2 / n that is made of m -/
def toQ (n m : Int) (l : List Nat) : List Int := qL (m * n) (ints l)
def toO (n m : Int) : Option (List Int) := (dfO m (2 * m - n)).bind fun l => if hasB (toQ n m l) m = false ∧ expB (putL (toQ n m l) m) = true then some (putL (toQ n m l) m) else none
theorem toO_none {n m : Int} (h : dfO m (2 * m - n) = none) : toO n m = none := by unfold toO; rw [h]; rfl
theorem toO_some {n m : Int} {l : List Nat} (h : dfO m (2 * m - n) = some l) : toO n m = if hasB (toQ n m l) m = false ∧ expB (putL (toQ n m l) m) = true then some (putL (toQ n m l) m) else none := by unfold toO; rw [h]; rfl
theorem toO_exp {n m : Int} {ts : List Int} (h : toO n m = some ts) : expB ts = true := by
  unfold toO at h
  cases hd : dfO m (2 * m - n) with
  | none => rw [hd] at h; cases h
  | some l =>
    rw [hd, Option.bind_some] at h
    split at h
    · rename_i hc; injection h with h; rw [← h]; exact hc.2
    · cases h
theorem toO_len (n m : Int) : ((toO n m).getD []).length ≤ 24 := by
  cases h : toO n m with
  | none => simp
  | some ts => exact expB_len (toO_exp h)
/-- what the divisors are -/
theorem dfO_says {m s : Int} {l : List Nat} (h : dfO m s = some l) : ∃ M S : Nat, m = (M : Int) ∧ s = (S : Int) ∧ 1 ≤ M ∧ M ≤ 2000 ∧ S ≤ 100000 ∧ l = pick (dsc M M) S ∧ l.sum = S ∧ (∀ d ∈ l, 1 ≤ d ∧ d ≤ M ∧ M % d = 0) ∧ l.Pairwise (fun a b => b < a) := by
  have h0 := h
  unfold dfO at h
  split at h
  · rename_i hc
    obtain ⟨hn, hs, hw⟩ := hc
    obtain ⟨M, rfl, m1, m2⟩ := numB_nat hn
    obtain ⟨S, rfl, hS⟩ := askB_nat hs
    injection h with h
    subst h
    refine ⟨M, S, rfl, rfl, m1, m2, hS, rfl, pick_sum _ hw, fun d hd => (dsc_mem M M d).1 ((pick_sub _ _).subset hd), (dsc_fall M M).sublist (pick_sub _ _)⟩
  · cases h
theorem few24 : ∀ m, m < 202 → (dsc m m).length ≤ 20 := by decide +kernel
/-- what TwoOver needs of its divisors -/
theorem two_divs {n m : Int} {l : List Nat} (hn : 1 ≤ n) (hm : m ≤ 201) (h : dfO m (2 * m - n) = some l) : (∀ d ∈ ints l, 1 ≤ d ∧ (m * n) % d = 0) ∧ Rising (toQ n m l) ∧ l.length ≤ 20 ∧ 1 ≤ m ∧ (∀ d ∈ ints l, d ≤ m) ∧ ((l.sum : Nat) : Int) = 2 * m - n := by
  obtain ⟨M, S, rfl, hS, m1, m2, s1, hl, hsum, hmem, hp⟩ := dfO_says h
  have hd : ∀ d ∈ ints l, 1 ≤ d ∧ ((M : Int) * n) % d = 0 := fun d hd => by
    obtain ⟨x, hx, rfl⟩ := List.mem_map.1 hd
    obtain ⟨x1, x2, x3⟩ := hmem x hx
    have hdv : (x : Int) ∣ (M : Int) := by exact_mod_cast Nat.dvd_of_mod_eq_zero x3
    exact ⟨by omega, Int.emod_eq_zero_of_dvd (Int.dvd_trans hdv (Int.dvd_mul_right _ _))⟩
  have hpi : (ints l).Pairwise (fun a b => b < a) := by
    unfold ints
    rw [List.pairwise_map]
    exact hp.imp (fun h => by omega)
  refine ⟨hd, qL_rise (by have := mul_pos1 (show (1 : Int) ≤ (M : Int) by omega) hn; omega) hpi hd, ?_, by omega, fun d hd => ?_, by rw [hsum]; omega⟩
  · have h1 := (pick_sub (dsc M M) S).length_le
    have h2 := few24 M (by omega)
    rw [hl]; omega
  · obtain ⟨x, hx, rfl⟩ := List.mem_map.1 hd
    have := (hmem x hx).2.1
    omega
/-- the model's puts -/
theorem put_two {xs : List Int} {m : Int} (h : Rising xs) : (hasB xs m = false → (putAll [m] xs).length = xs.length + 1 ∧ putAll [m] xs = putL xs m) ∧ (hasB xs m = true → (putAll [m] xs).length ≠ xs.length + 1) := by
  have hr : Rising [m] := List.pairwise_singleton _ _
  constructor
  · intro hm
    have hmn : m ∉ xs := fun e => by rw [(hasB_iff xs m).2 e] at hm; cases hm
    have hnd : ([m] ++ xs).Nodup := List.nodup_cons.2 ⟨hmn, h.imp (fun h => by omega)⟩
    have hp := putAll_perm xs hr hnd
    have hp2 := put_perm h hmn
    refine ⟨by rw [hp.length_eq]; simp, ?_⟩
    exact List.Perm.eq_of_pairwise (le := (· ≤ ·)) (fun _ _ _ _ h1 h2 => Int.le_antisymm h1 h2) ((putAll_rising xs hr).imp (fun h => Int.le_of_lt h)) ((h.put m).imp (fun h => Int.le_of_lt h)) (hp.trans hp2.symm)
  · intro hm hl
    have hnd := putAll_full (xs := [m]) (ys := xs) hr (by rw [hl, List.length_singleton]; omega)
    exact (List.nodup_cons.1 hnd).1 ((hasB_iff xs m).1 hm)
theorem into_one {xs : List Int} {m : Int} (h : Rising xs) : intoB xs [m] = (decide (hasB xs m = false) && expB (putL xs m)) ∧ intoR xs [m] = if hasB xs m = false ∧ expB (putL xs m) = true then putL xs m else [] := by
  cases hm : hasB xs m with
  | true =>
    obtain ⟨a, b⟩ := into_none (into_yes (fs := []) hm)
    rw [a, b, if_neg (by intro e; cases e.1)]
    exact ⟨rfl, rfl⟩
  | false =>
    have hp := put_no h (v := m) (by rw [hm]; decide)
    obtain ⟨a, b⟩ := into_some (xs := xs) (fs := [m]) (ys := putL xs m) (by rw [into_no hm, hp]; rfl)
    rw [a, b]
    refine ⟨by simp, ?_⟩
    by_cases he : expB (putL xs m) = true
    · rw [if_pos he, if_pos ⟨rfl, he⟩]
    · rw [if_neg he, if_neg (fun e => he e.2)]
/-- the better one of two lists -/
def lastT (l : List Int) : Int := l.getLast?.getD 0
def lessL (l m : List Int) : Bool := if l.length = m.length then decide (lastT l < lastT m) else decide (l.length < m.length)
abbrev Bst := Option (Int × List Int)
def bsStep (n : Int) (b : Bst) (m : Int) : Bst := match toO n m with
  | none => b
  | some l => match b with
    | none => some (m, l)
    | some p => if lessL l p.2 = true then some (m, l) else some p
/-- the best one of the first k bases -/
def bsF (n : Int) : Nat → Bst
  | 0 => none
  | k + 1 => bsStep n (bsF n k) (n / 2 + 1 + k)
def oddB (n : Int) : Bool := decide (3 ≤ n) && decide (n ≤ 201) && decide (n % 2 = 1)
def bsA (n : Int) : Bst := bsF n (n - 1 - n / 2).toNat
def baO (n : Int) : Option Int := if oddB n = true then (bsA n).map (·.1) else none
def twO (n : Int) : Option (List Int) := if oddB n = true then (bsA n).map (·.2) else none
theorem oddB_iff (n : Int) : oddB n = true ↔ 3 ≤ n ∧ n ≤ 201 ∧ n % 2 = 1 := by simp [oddB, and_assoc]
theorem bsStep_none {n m : Int} {b : Bst} (h : toO n m = none) : bsStep n b m = b := by unfold bsStep; rw [h]
theorem bsStep_first {n m : Int} {l : List Int} (h : toO n m = some l) : bsStep n none m = some (m, l) := by unfold bsStep; rw [h]
theorem bsStep_some {n m : Int} {l : List Int} {p : Int × List Int} (h : toO n m = some l) : bsStep n (some p) m = if lessL l p.2 = true then some (m, l) else some p := by unfold bsStep; rw [h]
/-- what the best one is -/
theorem bsF_says {n : Int} : ∀ {k : Nat} {p : Int × List Int}, bsF n k = some p → toO n p.1 = some p.2 ∧ n / 2 + 1 ≤ p.1 ∧ p.1 < n / 2 + 1 + k
  | 0, p, h => by cases h
  | k + 1, p, h => by
    rw [bsF] at h
    cases ht : toO n (n / 2 + 1 + k) with
    | none =>
      rw [bsStep_none ht] at h
      obtain ⟨a, b, c⟩ := bsF_says h
      exact ⟨a, b, by omega⟩
    | some l =>
      cases hb : bsF n k with
      | none =>
        rw [hb, bsStep_first ht] at h
        injection h with h
        subst h
        exact ⟨ht, by omega, by omega⟩
      | some q =>
        rw [hb, bsStep_some ht] at h
        split at h
        · injection h with h
          subst h
          exact ⟨ht, by omega, by omega⟩
        · injection h with h
          subst h
          obtain ⟨a, b, c⟩ := bsF_says hb
          exact ⟨a, b, by omega⟩
theorem twO_len (n : Int) : ((twO n).getD []).length ≤ 24 := by
  unfold twO
  split
  · cases hb : bsA n with
    | none => simp
    | some p => exact expB_len (toO_exp (bsF_says hb).1)
  · simp
/-- a list that is no greater than all others ends with its greatest number -/
theorem last_of {l : List Int} {k : Nat} (h : l.length = k + 1) : ∃ x, l[k]? = some x ∧ lastT l = x := by
  have hk : k < l.length := by omega
  refine ⟨l[k], List.getElem?_eq_getElem hk, ?_⟩
  unfold lastT
  rw [List.getLast?_eq_getElem?, h, Nat.add_sub_cancel, List.getElem?_eq_getElem hk]
  rfl
theorem exp_ne {l : List Int} {n m : Int} (h : toO n m = some l) : 0 < l.length := by
  unfold toO at h
  cases hd : dfO m (2 * m - n) with
  | none => rw [hd] at h; cases h
  | some ls =>
    rw [hd, Option.bind_some] at h
    split at h
    · rename_i hc
      injection h with h
      rw [← h]
      unfold putL
      split
      · rename_i e
        exact Nat.lt_of_le_of_lt (Nat.zero_le _) (List.getElem?_eq_some_iff.1 e).1
      · simp [insAt]; omega
    · cases h
end Go.Proofs.Ythkchhjidihkpab
