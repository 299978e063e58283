import Derived.Test.YthkchhjidihkpabPk2
import Derived.Test.YthkchhjidihkpabPk5
import Derived.Test.YthkchhjidihkpabPk1
import Derived.Test.YthkchhjidihkpabPk4

/-
  Contract of DivisorsFor in the model.
-/
namespace Go.Proofs.Ythkchhjidihkpab
open Go.RowKit
theorem ints_take (l : List Nat) (k : Nat) : (ints l).take k = ints (l.take k) := by unfold ints; rw [List.map_take]
/-- what DivisorsFor tells -/
def dfO (n s : Int) : Option (List Nat) := if numB n = true ∧ askB s = true ∧ 0 < ways (dsc n.toNat n.toNat) s.toNat then some (pick (dsc n.toNat n.toNat) s.toNat) else none
theorem dfO_n {n s : Int} (h : numB n = false) : dfO n s = none := by unfold dfO; rw [if_neg (fun e => by rw [h] at e; cases e.1)]
theorem dfO_s {n s : Int} (h : askB s = false) : dfO n s = none := by unfold dfO; rw [if_neg (fun e => by rw [h] at e; cases e.2.1)]
theorem dfO_no {N S : Nat} (h : ¬ 0 < ways (dsc N N) S) : dfO (N : Int) (S : Int) = none := by unfold dfO; rw [if_neg (fun e => h (by simpa using e.2.2))]
theorem dfO_yes {N S : Nat} (hn : numB (N : Int) = true) (hs : askB (S : Int) = true) (h : 0 < ways (dsc N N) S) : dfO (N : Int) (S : Int) = some (pick (dsc N N) S) := by
  unfold dfO
  rw [if_pos ⟨hn, hs, by simpa using h⟩]
  rfl
theorem pick_len (l : List Nat) (s : Nat) : (pick l s).length ≤ l.length := (pick_sub l s).length_le
theorem dfO_len (n s : Int) : ((dfO n s).getD []).length ≤ 2000 := by
  unfold dfO
  split
  · rename_i h
    have h1 := (numB_iff n).1 h.1
    have h2 := pick_len (dsc n.toNat n.toNat) s.toNat
    have h3 := dsc_len n.toNat n.toNat
    rw [Option.getD_some]
    omega
  · simp
/-- the loop's facts: k divisors are still to come -/
structure Pf (ds : List Nat) (S k s : Nat) (xs : List Nat) : Prop where
  all : pick ds.reverse S = xs ++ pick (ds.take k).reverse s
  told : 0 < ways ds.reverse S ↔ 0 < ways (ds.take k).reverse s
  le : s ≤ S
  few : xs.length + k ≤ ds.length
theorem Pf.start (ds : List Nat) (S : Nat) : Pf ds S ds.length S [] := ⟨by rw [List.take_length]; rfl, by rw [List.take_length], Nat.le_refl _, by simp⟩
theorem Pf.yes {ds : List Nat} {S k s d : Nat} {xs : List Nat} (h : Pf ds S (k + 1) s xs) (hd : ds[k]? = some d) (h1 : d ≤ s) (h2 : 0 < ways (ds.take k).reverse (s - d)) : Pf ds S k (s - d) (xs ++ [d]) := by
  have e := take_rev hd
  have a := h.all
  have b := h.told
  have l := h.le
  have f := h.few
  rw [e] at a b
  refine ⟨?_, ?_, by omega, by simp; omega⟩
  · rw [a, pick_yes h1 h2, List.append_assoc]; rfl
  · rw [b, ways, if_pos h1]
    constructor <;> omega
theorem Pf.no {ds : List Nat} {S k s d : Nat} {xs : List Nat} (h : Pf ds S (k + 1) s xs) (hd : ds[k]? = some d) (h1 : ¬ (d ≤ s ∧ 0 < ways (ds.take k).reverse (s - d))) : Pf ds S k s xs := by
  have e := take_rev hd
  have a := h.all
  have b := h.told
  have f := h.few
  rw [e] at a b
  refine ⟨by rw [a, pick_no h1], ?_, h.le, by omega⟩
  rw [b, ways]
  by_cases h2 : d ≤ s
  · rw [if_pos h2]
    have : ¬ 0 < ways (ds.take k).reverse (s - d) := fun h3 => h1 ⟨h2, h3⟩
    constructor <;> omega
  · rw [if_neg h2]
    rfl
theorem Pf.done {ds : List Nat} {S s : Nat} {xs : List Nat} (h : Pf ds S 0 s xs) : pick ds.reverse S = xs ∧ decide (0 < ways ds.reverse S) = decide (s = 0) := by
  have a := h.all
  have b := h.told
  rw [List.take_zero, List.reverse_nil] at a b
  refine ⟨by rw [a]; exact List.append_nil _, ?_⟩
  rw [decide_eq_decide, b, ways]
  by_cases h0 : s = 0 <;> simp [h0]
set_option maxRecDepth 100000 in
set_option maxHeartbeats 8000000 in
theorem prFor_any (ds : List Nat) (S : Nat) (w : World) (A : Option Addr) (c : Nat) (hr : Reads w A (ints ds)) (hd : ∀ d ∈ ds, d ≤ 2000) (hl : ds.length ≤ 2000) (hc : ds.length ≤ c) (hS : S ≤ 100000) :
    Calls Try.prog 99 #[.slice A ds.length c, .int .i64 (S : Int)] w (RetLB (ints (pick ds.reverse S)) (decide (0 < ways ds.reverse S)) w) := by
  have HR := Lib.hid hr
  have HS := Lib.hid hd
  have hle := ints_len ds
  have h1 : ds.length ≤ (ints ds).length := by omega
  have h2 : (ints ds).length ≤ ds.length := by omega
  have P0 := Lib.hid (Pf.start ds S)
  clear hr hd hle
  go_enter Try.func99, Try.ntmps99
  go_wp2
  go_loopw [1, 6, 7] (fun v1 v6 v7 wr => ∃ (k s : Nat) (xs : List Nat), k ≤ ds.length ∧ v1 = .int .i64 (s : Int) ∧ v7 = .int .i64 ((k : Int) - 1) ∧ Pf ds S k s xs ∧ OwnI wr w.heap.size v6 (ints xs) ∧ Below w.heap.size w wr) (fun _ _ v7 _ => (intOf v7 + 1).toNat)
  case atStart => exact ⟨ds.length, S, [], Nat.le_refl _, rfl, by go_num, P0.out, OwnI.empty _ _, by (repeat' (first | (with_reducible exact Below.refl _ _) | (with_reducible assumption) | (with_reducible refine Below.drew ?_) | (with_reducible refine belowDrewN ?_ _) | (with_reducible refine Below.alloc ?_ ?_ _) | (with_reducible refine Below.setCell ?_ ?_ _) | (with_reducible refine belowStep (by assumption) ?_ ?_) | (with_reducible exact Below.size (by assumption)) | go_size))⟩
  case round =>
    obtain ⟨k, s, xs, hk, rfl, rfl, hp, ho, hbr⟩ := hrel
    obtain ⟨wo, rfl⟩ : ∃ x : World, x = wr := ⟨_, rfl⟩
    have HP := Lib.hid hp
    have Ho := Lib.hid ho
    have hzo := hbr.size
    have hs := hp.le
    have hf := hp.few
    have hxl := ints_len xs
    have hx1 : (ints xs).length ≤ 2000 := by omega
    clear hp ho hxl
    by_cases hk0 : 0 < k
    · obtain ⟨j, rfl⟩ : ∃ j, k = j + 1 := ⟨k - 1, by omega⟩
      have hj : (((j + 1 : Nat) : Int) - 1) = (j : Int) := by omega
      rw [hj]
      obtain ⟨b9, o9, x, rfl, hbb, hx, hcell⟩ := (HR.out.below hbr).at_ (show j < (ints ds).length by omega)
      obtain ⟨d, rfl, hdx⟩ := ints_at hx
      have hd2 := HS.out d (List.mem_of_getElem? hdx)
      have HDX := Lib.hid hdx
      have hji : (j : Int) < (ds.length : Int) := by omega
      have hj0 : (0 : Int) ≤ (j : Int) := by omega
      have hjc : (j : Int) ≤ (c : Int) := by omega
      have hjc' : j ≤ c := by omega
      clear hx hdx
      have hws : IntKind.i64.wrap ((s : Int) - (d : Int)) = (s : Int) - (d : Int) := IntWalk.i64_in _ (by omega)
      by_cases hds : d ≤ s
      · have hds' : ¬ (s : Int) - (d : Int) < 0 := by omega
        have hsd : (s : Int) - (d : Int) = ((s - d : Nat) : Int) := by omega
        have HC : Hid (∀ w', Reads w' (some ⟨b9, o9, none⟩) (ints ds) → Calls Try.prog 133 #[.slice (some ⟨b9, o9, none⟩) j c] w' (fun e w' => ∃ A' c', e = .returned (.slice A' (rl (ds.take j).reverse).length c') ∧ ReadsT w' A' (rl (ds.take j).reverse) ∧ True) ∧ Calls Try.prog 133 #[.slice (some ⟨b9, o9, none⟩) j c] w' (fun e w'' => ∃ A' c', e = .returned (.slice A' (rl (ds.take j).reverse).length c') ∧ ReadsT w'' A' (rl (ds.take j).reverse) ∧ Below w'.heap.size w' w'')) := Lib.hid fun w' h => by
          have := prReached_any (ds.take j) w' (some ⟨b9, o9, none⟩) c (by rw [← ints_take]; exact h.cutTo j) (fun d hd => HS.out d (List.mem_of_mem_take hd)) (by rw [List.length_take]; omega)
          rw [List.length_take, Nat.min_eq_left (show j ≤ ds.length by omega)] at this
          exact ⟨this.mono fun e w2 ⟨A', c', a, b, _⟩ => ⟨A', c', a, b, trivial⟩, this⟩
        have hrl := rl_len (ds.take j).reverse
        have hrl1 : (rl (ds.take j).reverse).length ≤ (ds.take j).reverse.sum + 1 := by omega
        have hrl2 : (ds.take j).reverse.sum + 1 ≤ (rl (ds.take j).reverse).length := by omega
        have hsum := sum_take_le HS.out j
        have hsumr := rev_sum (ds.take j)
        have HAT : Hid (∀ t, t ≤ (ds.take j).reverse.sum → (rl (ds.take j).reverse)[t]? = some (decide (0 < ways (ds.take j).reverse t))) := Lib.hid fun t h => rl_at _ h
        have HY := Lib.hid fun (h : 0 < ways (ds.take j).reverse (s - d)) => HP.out.yes HDX.out hds h
        have HN := Lib.hid fun (h : ¬ 0 < ways (ds.take j).reverse (s - d)) => HP.out.no HDX.out (fun e => h e.2)
        have HZ := Lib.hid fun (h : (ds.take j).reverse.sum < s - d) => ways_none (l := (ds.take j).reverse) h
        have hRr := HR.out.below hbr
        have HRR := Lib.hid hRr
        clear hrl hRr HR HP
        have hsm : (ds.take j).reverse.sum ≤ 4000000 := by omega
        clear hsum hsumr
        generalize (ds.take j).reverse = P at *
        obtain ⟨bs, hbs⟩ : ∃ bs, bs = rl P := ⟨_, rfl⟩
        rw [← hbs] at HC hrl1 hrl2 HAT
        clear hbs
        go_wp2_with fail
        refine ((HC.out _ HRR.out).2).mono ?_; rintro e w4 ⟨A4, c4, rfl, hr4, hb4⟩
        have hz4 := hb4.size
        have H4 := Lib.hid hr4
        clear hr4
        by_cases hin : s - d ≤ P.sum
        · obtain ⟨b5, o5, x5, rfl, hb5, hx5, hc5⟩ := H4.out.at_ (show s - d < bs.length by omega)
          rw [HAT.out (s - d) hin] at hx5
          injection hx5 with hx5
          subst hx5
          have hli : ((s - d : Nat) : Int) < (bs.length : Int) := by omega
          by_cases hw : 0 < ways P (s - d)
          · rw [decide_eq_true hw] at hc5
            have HPN := Lib.hid (HY.out hw)
            clear hw
            generalize s - d = t at *
            have hcell4 := (bcell hb4).1 b9 (o9 + j) hbb
            rw [hcell] at hcell4
            go_wp2_with (at_builtin; refine wpList_app _ (o := ⟨some 45, _, _, _, _, _⟩) (ys := [(d : Int)]) rfl _ _ rfl rfl (OwnI.below (Ho.out.below (by (repeat' (first | (with_reducible exact Below.refl _ _) | (with_reducible assumption) | (with_reducible refine Below.drew ?_) | (with_reducible refine belowDrewN ?_ _) | (with_reducible refine Below.alloc ?_ ?_ _) | (with_reducible refine Below.setCell ?_ ?_ _) | (with_reducible refine belowStep (by assumption) ?_ ?_) | (with_reducible exact Below.size (by assumption)) | go_size)))) ((Below.refl _ _).alloc (Nat.le_refl _) _)) (1) (1) (by first | (simp; done) | (simp; omega)) rfl (Reads.one _ (d : Int)) (by (try simp only [List.length_nil, List.length_cons]); omega) (by first | exact Nat.le_refl _ | ((try simp only [World.size_alloc]); omega)) ?_; intro v6 w6 ho6 hb6 hg6 ht6; clear hg6 ht6; have hz6 := hb6.size; (try simp only [World.size_alloc] at hz6))
            go_roundw
            case rel => exact ⟨j, t, xs ++ [d], by omega, rfl, rfl, HPN.out, by rw [ints_app]; exact ho6, by (repeat' (first | (with_reducible exact Below.refl _ _) | (with_reducible assumption) | (with_reducible refine Below.drew ?_) | (with_reducible refine belowDrewN ?_ _) | (with_reducible refine Below.alloc ?_ ?_ _) | (with_reducible refine Below.setCell ?_ ?_ _) | (with_reducible refine belowStep (by assumption) ?_ ?_) | (with_reducible exact Below.size (by assumption)) | go_size))⟩
            case measure => simp [intOf]
          · rw [decide_eq_false hw] at hc5
            have HPN := Lib.hid (HN.out hw)
            clear hw
            generalize s - d = t at *
            go_wp2
            go_roundw
            case rel => exact ⟨j, s, xs, by omega, rfl, rfl, HPN.out, Ho.out.below (by (repeat' (first | (with_reducible exact Below.refl _ _) | (with_reducible assumption) | (with_reducible refine Below.drew ?_) | (with_reducible refine belowDrewN ?_ _) | (with_reducible refine Below.alloc ?_ ?_ _) | (with_reducible refine Below.setCell ?_ ?_ _) | (with_reducible refine belowStep (by assumption) ?_ ?_) | (with_reducible exact Below.size (by assumption)) | go_size))), by (repeat' (first | (with_reducible exact Below.refl _ _) | (with_reducible assumption) | (with_reducible refine Below.drew ?_) | (with_reducible refine belowDrewN ?_ _) | (with_reducible refine Below.alloc ?_ ?_ _) | (with_reducible refine Below.setCell ?_ ?_ _) | (with_reducible refine belowStep (by assumption) ?_ ?_) | (with_reducible exact Below.size (by assumption)) | go_size))⟩
            case measure => simp [intOf]
        · have HPN := Lib.hid (HN.out (by rw [HZ.out (by omega)]; omega))
          have hli : ¬ ((s - d : Nat) : Int) < (bs.length : Int) := by omega
          generalize s - d = t at *
          go_wp2
          go_roundw
          case rel => exact ⟨j, s, xs, by omega, rfl, rfl, HPN.out, Ho.out.below (by (repeat' (first | (with_reducible exact Below.refl _ _) | (with_reducible assumption) | (with_reducible refine Below.drew ?_) | (with_reducible refine belowDrewN ?_ _) | (with_reducible refine Below.alloc ?_ ?_ _) | (with_reducible refine Below.setCell ?_ ?_ _) | (with_reducible refine belowStep (by assumption) ?_ ?_) | (with_reducible exact Below.size (by assumption)) | go_size))), by (repeat' (first | (with_reducible exact Below.refl _ _) | (with_reducible assumption) | (with_reducible refine Below.drew ?_) | (with_reducible refine belowDrewN ?_ _) | (with_reducible refine Below.alloc ?_ ?_ _) | (with_reducible refine Below.setCell ?_ ?_ _) | (with_reducible refine belowStep (by assumption) ?_ ?_) | (with_reducible exact Below.size (by assumption)) | go_size))⟩
          case measure => simp [intOf]
      · have hds' : (s : Int) - (d : Int) < 0 := by omega
        have HPN := Lib.hid (HP.out.no HDX.out (fun e => hds e.1))
        go_wp2
        go_roundw
        case rel => exact ⟨j, s, xs, by omega, rfl, rfl, HPN.out, Ho.out, by (repeat' (first | (with_reducible exact Below.refl _ _) | (with_reducible assumption) | (with_reducible refine Below.drew ?_) | (with_reducible refine belowDrewN ?_ _) | (with_reducible refine Below.alloc ?_ ?_ _) | (with_reducible refine Below.setCell ?_ ?_ _) | (with_reducible refine belowStep (by assumption) ?_ ?_) | (with_reducible exact Below.size (by assumption)) | go_size))⟩
        case measure => simp [intOf]
    · obtain rfl : k = 0 := by omega
      obtain ⟨e1, e2⟩ := HP.out.done
      have E1 := Lib.hid e1
      have E2 := Lib.hid e2
      have hk1 : ((0 : Nat) : Int) - 1 = -1 := rfl
      have e3 : ((s : Int) == 0) = decide (s = 0) := by by_cases h : s = 0 <;> simp [h]
      clear e1 e2
      rw [hk1]
      go_wp2
      go_ret2
      rw [E1.out, E2.out]
      exact ⟨_, by simp, Ho.out, by (repeat' (first | (with_reducible exact Below.refl _ _) | (with_reducible assumption) | (with_reducible refine Below.drew ?_) | (with_reducible refine belowDrewN ?_ _) | (with_reducible refine Below.alloc ?_ ?_ _) | (with_reducible refine Below.setCell ?_ ?_ _) | (with_reducible refine belowStep (by assumption) ?_ ?_) | (with_reducible exact Below.size (by assumption)) | go_size))⟩
end Go.Proofs.Ythkchhjidihkpab


/-
  Contract of DivisorsFor in the model, whole.
-/
namespace Go.Proofs.Ythkchhjidihkpab
open Go.RowKit
end Go.Proofs.Ythkchhjidihkpab


/-
  Plain facts on rising lists and on sums of unit fractions.
-/
namespace Go.Proofs.Ythkchhjidihkpab
open Go.RowKit
/-- strictly increasing within bounds, behind a number that may be there -/
def rise (lo hi : Int) : Option Int → List Int → Bool
  | _, [] => true
  | p, t :: ts => decide (lo ≤ t) && decide (t ≤ hi) && (match p with | none => true | some q => decide (q < t)) && rise lo hi (some t) ts
/-- the number ahead of place k -/
def ahead (xs : List Int) (k : Nat) : Option Int := match k with | 0 => none | j + 1 => xs[j]?
/-- the sum from n / d on, if all sums on the way are small enough -/
def sumL : Int → Int → List Int → Option (Int × Int)
  | n, d, [] => some (n, d)
  | n, d, t :: ts => if redB (n * t + d) (d * t) = true then sumL (redN (n * t + d) (d * t)) (redD (n * t + d) (d * t)) ts else none
def expB (xs : List Int) : Bool := decide (xs.length ≤ 24) && rise 1 1000000000 none xs && (sumL 0 1 xs).isSome
def sumN (xs : List Int) : Int := ((sumL 0 1 xs).getD (0, 0)).1
def sumD (xs : List Int) : Int := ((sumL 0 1 xs).getD (0, 0)).2

theorem drop_at {xs : List Int} {k : Nat} {x : Int} (h : xs[k]? = some x) : xs.drop k = x :: xs.drop (k + 1) := by
  have hk : k < xs.length := (List.getElem?_eq_some_iff.1 h).1
  have hx : xs[k] = x := (List.getElem?_eq_some_iff.1 h).2
  rw [List.drop_eq_getElem_cons hk, hx]
theorem drop_all (xs : List Int) : xs.drop xs.length = [] := List.drop_of_length_le (Nat.le_refl _)
theorem rise_nil (lo hi : Int) (p : Option Int) : rise lo hi p [] = true := by cases p <;> rfl
theorem rise_out {lo hi t : Int} {p : Option Int} {ts : List Int} (h : ¬ (lo ≤ t ∧ t ≤ hi)) : rise lo hi p (t :: ts) = false := by
  unfold rise
  by_cases h1 : lo ≤ t
  · have h2 : ¬ t ≤ hi := fun h2 => h ⟨h1, h2⟩
    simp [h2]
  · simp [h1]
theorem rise_low {lo hi t q : Int} {ts : List Int} (h : ¬ q < t) : rise lo hi (some q) (t :: ts) = false := by unfold rise; simp [h]
theorem rise_first {lo hi t : Int} {ts : List Int} (h1 : lo ≤ t) (h2 : t ≤ hi) : rise lo hi none (t :: ts) = rise lo hi (some t) ts := by
  show (decide (lo ≤ t) && decide (t ≤ hi) && true && rise lo hi (some t) ts) = _
  simp [h1, h2]
theorem rise_next {lo hi t q : Int} {ts : List Int} (h1 : lo ≤ t) (h2 : t ≤ hi) (h3 : q < t) : rise lo hi (some q) (t :: ts) = rise lo hi (some t) ts := by
  show (decide (lo ≤ t) && decide (t ≤ hi) && decide (q < t) && rise lo hi (some t) ts) = _
  simp [h1, h2, h3]
/-- a number below all lets the first one by -/
theorem rise_zero {lo hi q : Int} {ts : List Int} (h : q < lo) : rise lo hi (some q) ts = rise lo hi none ts := by
  cases ts with
  | nil => rfl
  | cons t ts =>
    by_cases h1 : lo ≤ t ∧ t ≤ hi
    · rw [rise_first h1.1 h1.2, rise_next h1.1 h1.2 (by omega)]
    · rw [rise_out h1, rise_out h1]
theorem sumL_yes {n d t : Int} {ts : List Int} (h : redB (n * t + d) (d * t) = true) : sumL n d (t :: ts) = sumL (redN (n * t + d) (d * t)) (redD (n * t + d) (d * t)) ts := by
  show (if _ then _ else _) = _
  rw [if_pos h]
theorem sumL_no {n d t : Int} {ts : List Int} (h : redB (n * t + d) (d * t) = false) : sumL n d (t :: ts) = none := by
  show (if _ then _ else _) = _
  rw [h]; rfl
theorem expB_long {xs : List Int} (h : ¬ xs.length ≤ 24) : expB xs = false := by simp [expB, h]
theorem expB_rise {xs : List Int} (h : rise 1 1000000000 none xs = false) : expB xs = false := by simp [expB, h]
theorem expB_sum {xs : List Int} (h : sumL 0 1 xs = none) : expB xs = false := by simp [expB, h]
theorem expB_yes {xs : List Int} {n d : Int} (h1 : xs.length ≤ 24) (h2 : rise 1 1000000000 none xs = true) (h3 : sumL 0 1 xs = some (n, d)) : expB xs = true := by simp [expB, h1, h2, h3]
theorem sumN_of {xs : List Int} {n d : Int} (h : sumL 0 1 xs = some (n, d)) : sumN xs = n := by simp [sumN, h]
theorem sumD_of {xs : List Int} {n d : Int} (h : sumL 0 1 xs = some (n, d)) : sumD xs = d := by simp [sumD, h]
theorem expB_parts {xs : List Int} (h : expB xs = true) : xs.length ≤ 24 ∧ rise 1 1000000000 none xs = true ∧ sumL 0 1 xs = some (sumN xs, sumD xs) := by
  simp only [expB, Bool.and_eq_true, decide_eq_true_eq] at h
  refine ⟨h.1.1, h.1.2, ?_⟩
  cases hs : sumL 0 1 xs with
  | none => rw [hs] at h; cases h.2
  | some p => simp [sumN, sumD, hs]
/-- numbers in lowest terms that are small enough are a fraction -/
theorem good_of_redB {n d : Int} (hn : 0 ≤ n) (hd : 1 ≤ d) (h : redB n d = true) : goodB (redN n d) (redD n d) = true := by
  rw [redN, redD, if_pos h, if_pos h, good_red hn hd, h]
theorem good_unit {t : Int} (h1 : 1 ≤ t) (h2 : t ≤ 1000000000) : goodB 1 t = true := by
  rw [goodB_iff]
  refine ⟨by omega, by omega, h1, h2, ?_⟩
  unfold gcdI
  rw [Int.gcd_one_left]; rfl
theorem good_unit_no {t : Int} (h : ¬ (1 ≤ t ∧ t ≤ 1000000000)) : goodB 1 t = false := goodB_not (fun h2 => h ⟨h2.2.2.1, h2.2.2.2.1⟩)
theorem good_zero : goodB 0 1 = true := by decide +kernel
end Go.Proofs.Ythkchhjidihkpab


/-
  The contract of the model's test of a rising list.
-/
namespace Go.Proofs.Ythkchhjidihkpab
open Go.RowKit
set_option maxHeartbeats 2000000 in
theorem l1Rising_any (w : World) (lo hi : Int) (Axs : Option Addr) (cxs : Nat) (xs : List Int) (hxs : Reads w Axs xs) (lxs : xs.length ≤ 1048576) : Calls Try.prog 105 #[.slice Axs xs.length cxs, .int .i64 lo, .int .i64 hi] w (RetQ (.bool (rise lo hi none xs)) w) := by
  go_enter Try.func105, Try.ntmps105
  go_wp2
  go_loopw [11] (fun v11 wr => ∃ k : Nat, k ≤ xs.length ∧ v11 = .int .i64 k ∧ rise lo hi none xs = rise lo hi (ahead xs k) (xs.drop k) ∧ ∃ n, wr = w.drewN n) (fun v11 _ => xs.length - (intOf v11).toNat)
  case atStart => exact ⟨0, Nat.zero_le _, rfl, rfl, 0, rfl⟩
  case round =>
    obtain ⟨k, hk, rfl, hr, n, rfl⟩ := hrel
    have Hr := Lib.hid hr
    clear hr
    by_cases hlt : k < xs.length
    · rcases k with _ | j
      · obtain ⟨b, o, x, rfl, hb, hx, hcell⟩ := hxs.at_ hlt
        rw [Nat.add_zero] at hcell
        rw [show ((0 : Nat) : Int) = 0 from rfl]
        have Hx := Lib.hid hx
        clear hx
        by_cases hin : lo ≤ x ∧ x ≤ hi
        · go_wp2_with (go_at_call 84; refine (l1In_yes _ _ _ _ hin.1 hin.2).mono ?_; rintro e w1 ⟨rfl, k1, rfl⟩)
          go_roundw
          case rel => exact ⟨1, by omega, by go_num, by rw [Hr.out, drop_at Hx.out, show ahead xs 0 = none from rfl, rise_first hin.1 hin.2, show ahead xs 1 = xs[0]? from rfl, Hx.out], _, rfl⟩
          case measure => simp [intOf]; omega
        · go_wp2_with (go_at_call 84; refine (l1In_no _ _ _ _ hin).mono ?_; rintro e w1 ⟨rfl, k1, rfl⟩)
          go_ret
          exact ⟨ret_bool (by rw [Hr.out, drop_at Hx.out, rise_out hin]), _, rfl⟩
      · obtain ⟨b, o, x, y, rfl, hb, hx, hy, hcell, hcell2⟩ := hxs.at2 hlt (show j < xs.length by omega)
        have Hx := Lib.hid hx
        have Hy := Lib.hid hy
        clear hx hy
        by_cases hin : lo ≤ x ∧ x ≤ hi
        · by_cases hlt2 : y < x
          · go_wp2_with (go_at_call 84; refine (l1In_yes _ _ _ _ hin.1 hin.2).mono ?_; rintro e w1 ⟨rfl, k1, rfl⟩)
            go_roundw
            case rel => exact ⟨j + 1 + 1, by omega, by go_num, by rw [Hr.out, drop_at Hx.out, show ahead xs (j + 1) = xs[j]? from rfl, Hy.out, rise_next hin.1 hin.2 hlt2, show ahead xs (j + 1 + 1) = xs[j + 1]? from rfl, Hx.out], _, rfl⟩
            case measure => simp [intOf]; omega
          · go_wp2_with (go_at_call 84; refine (l1In_yes _ _ _ _ hin.1 hin.2).mono ?_; rintro e w1 ⟨rfl, k1, rfl⟩)
            go_ret
            exact ⟨ret_bool (by rw [Hr.out, drop_at Hx.out, show ahead xs (j + 1) = xs[j]? from rfl, Hy.out, rise_low (by omega)]), _, rfl⟩
        · go_wp2_with (go_at_call 84; refine (l1In_no _ _ _ _ hin).mono ?_; rintro e w1 ⟨rfl, k1, rfl⟩)
          go_ret
          exact ⟨ret_bool (by rw [Hr.out, drop_at Hx.out, rise_out hin]), _, rfl⟩
    · obtain rfl : k = xs.length := by omega
      go_wp2
      go_ret
      exact ⟨ret_bool (by rw [Hr.out, drop_all, rise_nil]), _, rfl⟩
end Go.Proofs.Ythkchhjidihkpab


/-
  Contracts of the arithmetic of fractions.
-/
namespace Go.Proofs.Ythkchhjidihkpab
open Go.RowKit
theorem toFraction_any (n d : Int) (w : World) : Calls Try.prog 21 #[.agg #[.int .i64 n, .int .i64 d]] w (Ret (.agg #[.int .i64 n, .int .i64 d]) w) := by
  go_enter Try.func21, Try.ntmps21
  go_wp2
  go_returns
  exact ⟨rfl, by (repeat' (first | (with_reducible exact Below.refl _ _) | (with_reducible assumption) | (with_reducible refine Below.drew ?_) | (with_reducible refine belowDrewN ?_ _) | (with_reducible refine Below.alloc ?_ ?_ _) | (with_reducible refine Below.setCell ?_ ?_ _) | (with_reducible refine belowStep (by assumption) ?_ ?_) | (with_reducible exact Below.size (by assumption)) | go_size))⟩
theorem unMake_any (n d : Int) (w : World) (hn : 0 ≤ n) (hd : 1 ≤ d) (hn2 : n ≤ 9223372036854775807) (hd2 : d ≤ 9223372036854775807) :
    Calls Try.prog 95 #[.int .i64 n, .int .i64 d] w (Ret (.agg #[.int .i64 (n / gcdI n d), .int .i64 (d / gcdI n d)]) w) := by
  have hg1 : 1 ≤ gcdI n d := by have := gcdI_pos n d (by omega); omega
  have hg2 : gcdI n d ≤ 9223372036854775807 := by have := gcdI_leR n d (by omega); omega
  have hq1 : 0 ≤ n / gcdI n d := Int.ediv_nonneg hn (by omega)
  have hq2 : 0 ≤ d / gcdI n d := Int.ediv_nonneg (by omega) (by omega)
  go_enter Try.func95, Try.ntmps95
  go_wp2_with (go_at_call 104; refine (unGcd_any _ _ _ hn (by omega) hn2 hd2).mono ?_; rintro e w1 ⟨rfl, k1, rfl⟩)
  go_region
  all_goals
    go_wp2
    go_returns
    exact ⟨rfl, by (repeat' (first | (with_reducible exact Below.refl _ _) | (with_reducible assumption) | (with_reducible refine Below.drew ?_) | (with_reducible refine belowDrewN ?_ _) | (with_reducible refine Below.alloc ?_ ?_ _) | (with_reducible refine Below.setCell ?_ ?_ _) | (with_reducible refine belowStep (by assumption) ?_ ?_) | (with_reducible exact Below.size (by assumption)) | go_size))⟩
theorem unIf_any (n d : Int) (w : World) : Calls Try.prog 108 #[.agg #[.int .i64 n, .int .i64 d]] w (Ret (.tuple #[.agg #[.int .i64 (if goodB n d = true then n else 0), .int .i64 (if goodB n d = true then d else 0)], .bool (goodB n d)]) w) := by
  cases hg : goodB n d with
  | true =>
    go_enter Try.func108, Try.ntmps108
    go_wp2_with (go_at_call 58; refine (unGood_any _ _ _).mono ?_; rintro e w1 ⟨rfl, hb1⟩; obtain ⟨hc1, hf1⟩ := bcellB hb1; have hz1 := hb1.size; (try simp only [World.size_alloc] at hc1 hf1 hz1); (try have hy1_r_0 : wr.heap.size < w1.heap.size := by omega); (try have hn1_r_0 : wr.heap.size ≠ w1.heap.size := by omega); (try have hm1_r_0 : w1.heap.size ≠ wr.heap.size := by omega); (try have hy1_r_1 : wr.heap.size + 1 < w1.heap.size := by omega); (try have hn1_r_1 : wr.heap.size + 1 ≠ w1.heap.size := by omega); (try have hm1_r_1 : w1.heap.size ≠ wr.heap.size + 1 := by omega); (try have hy1_r_2 : wr.heap.size + 1 + 1 < w1.heap.size := by omega); (try have hp1_r_1 : wr.heap.size < w1.heap.size + 1 := by omega); (try have hp1_r_2 : wr.heap.size < w1.heap.size + 1 + 1 := by omega); (try have hy1_0_0 : w.heap.size < w1.heap.size := by omega); (try have hn1_0_0 : w.heap.size ≠ w1.heap.size := by omega); (try have hm1_0_0 : w1.heap.size ≠ w.heap.size := by omega); (try have hy1_0_1 : w.heap.size + 1 < w1.heap.size := by omega); (try have hn1_0_1 : w.heap.size + 1 ≠ w1.heap.size := by omega); (try have hm1_0_1 : w1.heap.size ≠ w.heap.size + 1 := by omega); (try have hy1_0_2 : w.heap.size + 1 + 1 < w1.heap.size := by omega); (try have hp1_0_1 : w.heap.size < w1.heap.size + 1 := by omega); (try have hp1_0_2 : w.heap.size < w1.heap.size + 1 + 1 := by omega); (try have hg1_g1 : g1 < w1.heap.size := by omega); (try have hi1_g1 : g1 ≠ w1.heap.size := by omega); (try have hj1_g1 : w1.heap.size ≠ g1 := by omega); (try have hk1_g1 : g1 < w1.heap.size + 1 := by omega); (try have hg1_g2 : g2 < w1.heap.size := by omega); (try have hi1_g2 : g2 ≠ w1.heap.size := by omega); (try have hj1_g2 : w1.heap.size ≠ g2 := by omega); (try have hk1_g2 : g2 < w1.heap.size + 1 := by omega))
    refine bodyPost_ret (by simp [results, Try.results108, go_sem, *]; try rfl) rfl ?_
    exact ⟨rfl, by (repeat' (first | (with_reducible exact Below.refl _ _) | (with_reducible assumption) | (with_reducible refine Below.drew ?_) | (with_reducible refine belowDrewN ?_ _) | (with_reducible refine Below.alloc ?_ ?_ _) | (with_reducible refine Below.setCell ?_ ?_ _) | (with_reducible refine belowStep (by assumption) ?_ ?_) | (with_reducible exact Below.size (by assumption)) | go_size))⟩
  | false =>
    go_enter Try.func108, Try.ntmps108
    go_wp2_with (go_at_call 58; refine (unGood_any _ _ _).mono ?_; rintro e w1 ⟨rfl, hb1⟩; obtain ⟨hc1, hf1⟩ := bcellB hb1; have hz1 := hb1.size; (try simp only [World.size_alloc] at hc1 hf1 hz1); (try have hy1_r_0 : wr.heap.size < w1.heap.size := by omega); (try have hn1_r_0 : wr.heap.size ≠ w1.heap.size := by omega); (try have hm1_r_0 : w1.heap.size ≠ wr.heap.size := by omega); (try have hy1_r_1 : wr.heap.size + 1 < w1.heap.size := by omega); (try have hn1_r_1 : wr.heap.size + 1 ≠ w1.heap.size := by omega); (try have hm1_r_1 : w1.heap.size ≠ wr.heap.size + 1 := by omega); (try have hy1_r_2 : wr.heap.size + 1 + 1 < w1.heap.size := by omega); (try have hp1_r_1 : wr.heap.size < w1.heap.size + 1 := by omega); (try have hp1_r_2 : wr.heap.size < w1.heap.size + 1 + 1 := by omega); (try have hy1_0_0 : w.heap.size < w1.heap.size := by omega); (try have hn1_0_0 : w.heap.size ≠ w1.heap.size := by omega); (try have hm1_0_0 : w1.heap.size ≠ w.heap.size := by omega); (try have hy1_0_1 : w.heap.size + 1 < w1.heap.size := by omega); (try have hn1_0_1 : w.heap.size + 1 ≠ w1.heap.size := by omega); (try have hm1_0_1 : w1.heap.size ≠ w.heap.size + 1 := by omega); (try have hy1_0_2 : w.heap.size + 1 + 1 < w1.heap.size := by omega); (try have hp1_0_1 : w.heap.size < w1.heap.size + 1 := by omega); (try have hp1_0_2 : w.heap.size < w1.heap.size + 1 + 1 := by omega); (try have hg1_g1 : g1 < w1.heap.size := by omega); (try have hi1_g1 : g1 ≠ w1.heap.size := by omega); (try have hj1_g1 : w1.heap.size ≠ g1 := by omega); (try have hk1_g1 : g1 < w1.heap.size + 1 := by omega); (try have hg1_g2 : g2 < w1.heap.size := by omega); (try have hi1_g2 : g2 ≠ w1.heap.size := by omega); (try have hj1_g2 : w1.heap.size ≠ g2 := by omega); (try have hk1_g2 : g2 < w1.heap.size + 1 := by omega))
    refine bodyPost_ret (by simp [results, Try.results108, go_sem, *]; try rfl) rfl ?_
    exact ⟨rfl, by (repeat' (first | (with_reducible exact Below.refl _ _) | (with_reducible assumption) | (with_reducible refine Below.drew ?_) | (with_reducible refine belowDrewN ?_ _) | (with_reducible refine Below.alloc ?_ ?_ _) | (with_reducible refine Below.setCell ?_ ?_ _) | (with_reducible refine belowStep (by assumption) ?_ ?_) | (with_reducible exact Below.size (by assumption)) | go_size))⟩
/-- the model's two steps to lowest terms come to the same -/
theorem unIf_red (n d : Int) (w : World) (hn : 0 ≤ n) (hd : 1 ≤ d) : Calls Try.prog 108 #[.agg #[.int .i64 (n / gcdI n d), .int .i64 (d / gcdI n d)]] w (Ret (.tuple #[.agg #[.int .i64 (redN (n) (d)), .int .i64 (redD (n) (d))], .bool (redB (n) (d))]) w) := by
  have h := unIf_any (n / gcdI n d) (d / gcdI n d) w
  rw [good_red hn hd] at h
  exact h
theorem make_yes (n d : Int) (w : World) (hn : 0 ≤ n) (hd : 1 ≤ d) (hn2 : n ≤ 1000000000000000000) (hd2 : d ≤ 1000000000000000000) :
    Calls Try.prog 34 #[.int .i64 n, .int .i64 d] w (Ret (.tuple #[.agg #[.int .i64 (redN (n) (d)), .int .i64 (redD (n) (d))], .bool (redB (n) (d))]) w) := by
  go_enter Try.func34, Try.ntmps34
  go_wp2_with (go_at_call 80; refine (reduce_any _ _ _ (by omega) (by omega) (by omega) (by omega)).mono ?_; rintro e w1 ⟨rfl, hb1⟩; obtain ⟨hc1, hf1⟩ := bcellB hb1; have hz1 := hb1.size; (try simp only [World.size_alloc] at hc1 hf1 hz1); (try have hy1_r_0 : wr.heap.size < w1.heap.size := by omega); (try have hn1_r_0 : wr.heap.size ≠ w1.heap.size := by omega); (try have hm1_r_0 : w1.heap.size ≠ wr.heap.size := by omega); (try have hy1_r_1 : wr.heap.size + 1 < w1.heap.size := by omega); (try have hn1_r_1 : wr.heap.size + 1 ≠ w1.heap.size := by omega); (try have hm1_r_1 : w1.heap.size ≠ wr.heap.size + 1 := by omega); (try have hy1_r_2 : wr.heap.size + 1 + 1 < w1.heap.size := by omega); (try have hp1_r_1 : wr.heap.size < w1.heap.size + 1 := by omega); (try have hp1_r_2 : wr.heap.size < w1.heap.size + 1 + 1 := by omega); (try have hy1_0_0 : w.heap.size < w1.heap.size := by omega); (try have hn1_0_0 : w.heap.size ≠ w1.heap.size := by omega); (try have hm1_0_0 : w1.heap.size ≠ w.heap.size := by omega); (try have hy1_0_1 : w.heap.size + 1 < w1.heap.size := by omega); (try have hn1_0_1 : w.heap.size + 1 ≠ w1.heap.size := by omega); (try have hm1_0_1 : w1.heap.size ≠ w.heap.size + 1 := by omega); (try have hy1_0_2 : w.heap.size + 1 + 1 < w1.heap.size := by omega); (try have hp1_0_1 : w.heap.size < w1.heap.size + 1 := by omega); (try have hp1_0_2 : w.heap.size < w1.heap.size + 1 + 1 := by omega); (try have hg1_g1 : g1 < w1.heap.size := by omega); (try have hi1_g1 : g1 ≠ w1.heap.size := by omega); (try have hj1_g1 : w1.heap.size ≠ g1 := by omega); (try have hk1_g1 : g1 < w1.heap.size + 1 := by omega); (try have hg1_g2 : g2 < w1.heap.size := by omega); (try have hi1_g2 : g2 ≠ w1.heap.size := by omega); (try have hj1_g2 : w1.heap.size ≠ g2 := by omega); (try have hk1_g2 : g2 < w1.heap.size + 1 := by omega))
  refine bodyPost_ret (by simp [results, Try.results34, go_sem, *]; try rfl) rfl ?_
  exact ⟨rfl, by (repeat' (first | (with_reducible exact Below.refl _ _) | (with_reducible assumption) | (with_reducible refine Below.drew ?_) | (with_reducible refine belowDrewN ?_ _) | (with_reducible refine Below.alloc ?_ ?_ _) | (with_reducible refine Below.setCell ?_ ?_ _) | (with_reducible refine belowStep (by assumption) ?_ ?_) | (with_reducible exact Below.size (by assumption)) | go_size))⟩
theorem make_no (n d : Int) (w : World) (h : ¬ (0 ≤ n ∧ n ≤ 1000000000000000000 ∧ 1 ≤ d ∧ d ≤ 1000000000000000000)) :
    Calls Try.prog 34 #[.int .i64 n, .int .i64 d] w (Ret (.tuple #[.agg #[.int .i64 0, .int .i64 0], .bool false]) w) := by
  by_cases h1 : 0 ≤ n
  · by_cases h2 : n ≤ 1000000000000000000
    · by_cases h3 : 1 ≤ d
      · have h4 : 1000000000000000000 < d := by omega
        go_enter Try.func34, Try.ntmps34
        go_wp2
        go_returns
        exact ⟨rfl, by (repeat' (first | (with_reducible exact Below.refl _ _) | (with_reducible assumption) | (with_reducible refine Below.drew ?_) | (with_reducible refine belowDrewN ?_ _) | (with_reducible refine Below.alloc ?_ ?_ _) | (with_reducible refine Below.setCell ?_ ?_ _) | (with_reducible refine belowStep (by assumption) ?_ ?_) | (with_reducible exact Below.size (by assumption)) | go_size))⟩
      · go_enter Try.func34, Try.ntmps34
        go_wp2
        go_returns
        exact ⟨rfl, by (repeat' (first | (with_reducible exact Below.refl _ _) | (with_reducible assumption) | (with_reducible refine Below.drew ?_) | (with_reducible refine belowDrewN ?_ _) | (with_reducible refine Below.alloc ?_ ?_ _) | (with_reducible refine Below.setCell ?_ ?_ _) | (with_reducible refine belowStep (by assumption) ?_ ?_) | (with_reducible exact Below.size (by assumption)) | go_size))⟩
    · go_enter Try.func34, Try.ntmps34
      go_wp2
      go_returns
      exact ⟨rfl, by (repeat' (first | (with_reducible exact Below.refl _ _) | (with_reducible assumption) | (with_reducible refine Below.drew ?_) | (with_reducible refine belowDrewN ?_ _) | (with_reducible refine Below.alloc ?_ ?_ _) | (with_reducible refine Below.setCell ?_ ?_ _) | (with_reducible refine belowStep (by assumption) ?_ ?_) | (with_reducible exact Below.size (by assumption)) | go_size))⟩
  · go_enter Try.func34, Try.ntmps34
    go_wp2
    go_returns
    exact ⟨rfl, by (repeat' (first | (with_reducible exact Below.refl _ _) | (with_reducible assumption) | (with_reducible refine Below.drew ?_) | (with_reducible refine belowDrewN ?_ _) | (with_reducible refine Below.alloc ?_ ?_ _) | (with_reducible refine Below.setCell ?_ ?_ _) | (with_reducible refine belowStep (by assumption) ?_ ?_) | (with_reducible exact Below.size (by assumption)) | go_size))⟩
end Go.Proofs.Ythkchhjidihkpab
