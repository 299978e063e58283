import Derived.Test.YtolgjokghecceaaGreatDoorStepL
import Derived.Test.YtolgjokghecceaaGreatDoorPk17
import Derived.Test.YtolgjokghecceaaGreatDoorPk8

/-
  Contracts of the terms of Engel lists, in the program and in the model.
-/
namespace Go.Proofs.YtolgjokghecceaaGreatDoor
open Go.RowKit
def etO (n d : Int) : Option (List Int) := (engO n d).bind (prodL 1)
theorem engO_some {n d : Int} {xs : List Int} (h : engO n d = some xs) : engB xs = true := by
  unfold engO at h
  split at h
  · obtain ⟨es, _, _, hk⟩ := lstO_some h
    exact hk
  · cases h
theorem engB_prod {xs : List Int} (h : engB xs = true) : ∃ ps, prodL 1 xs = some ps ∧ expB ps = true ∧ ps.length = xs.length := by
  obtain ⟨h1, h2, h3⟩ := engB_parts h
  unfold engS at h3
  cases hp : prodL 1 xs with
  | none => rw [hp] at h3; cases h3
  | some ps =>
    rw [hp] at h3
    have h4 : sumL 0 1 ps = some (engN xs, engD xs) := h3
    exact ⟨ps, rfl, by rw [eng_exp h1 h2 hp, h4]; rfl, prodL_len hp⟩
theorem etO_len (n d : Int) : ((etO n d).getD []).length ≤ 24 := by
  unfold etO
  cases h : engO n d with
  | none => simp
  | some xs =>
    obtain ⟨ps, h1, h2, h3⟩ := engB_prod (engO_some h)
    rw [Option.bind_some, h1]
    exact expB_len h2
set_option maxHeartbeats 2000000 in
theorem engelTerms_any (n d : Int) (w : World) (rn : -9223372036854775808 ≤ n ∧ n ≤ 9223372036854775807) (rd : -9223372036854775808 ≤ d ∧ d ≤ 9223372036854775807) : Calls Tryz.prog 21 #[.agg #[.int .i64 n, .int .i64 d]] w (RetLB ((etO n d).getD []) (etO n d).isSome w) := by
  cases h : engO n d with
  | none =>
    have E : Hid (etO n d = none) := Lib.hid (by unfold etO; rw [h]; rfl)
    have H := Lib.hid h
    clear h
    go_enter Tryz.func21, Tryz.ntmps21
    go_wp2_with fail
    refine (engelOf_any _ _ _ rn rd).mono ?_; rintro e w1 ⟨v1, rfl, ho1, hb1⟩; have hz1 := hb1.size; (try simp only [World.size_alloc, World.size_setCell, World.size_drew, World.heap_drewN] at hz1)
    rw [H.out]
    go_wp2
    go_ret2
    rw [E.out]
    exact ⟨_, rfl, OwnI.empty _ _, by (repeat' (first | (with_reducible exact Below.refl _ _) | (with_reducible assumption) | (with_reducible refine Below.drew ?_) | (with_reducible refine belowDrewN ?_ _) | (with_reducible refine Below.alloc ?_ ?_ _) | (with_reducible refine Below.setCell ?_ ?_ _) | (with_reducible refine belowStep (by assumption) ?_ ?_) | (with_reducible exact Below.size (by assumption)) | go_size))⟩
  | some xs =>
    have hb := engO_some h
    have hp := engB_parts hb
    obtain ⟨ps, h1, h2, h3⟩ := engB_prod hb
    have E : Hid (etO n d = some ps) := Lib.hid (by unfold etO; rw [h]; exact h1)
    have P := Lib.hid (prod_some h1)
    have Hin := Lib.hid fun (x : Int) (hx : x ∈ xs) => (by have := up_in (by omega) hp.2.1 x hx; omega : 1 ≤ x ∧ x ≤ 1000000000)
    have hl := hp.1
    have H := Lib.hid h
    clear h hb hp h1 h2 h3
    go_enter Tryz.func21, Tryz.ntmps21
    go_wp2_with fail
    refine (engelOf_any _ _ _ rn rd).mono ?_; rintro e w1 ⟨v1, rfl, ho1, hb1⟩; have hz1 := hb1.size; (try simp only [World.size_alloc, World.size_setCell, World.size_drew, World.heap_drewN] at hz1)
    rw [H.out] at ho1
    rw [H.out]
    obtain ⟨A1, c1, rfl, hr1⟩ := (show OwnI w1 _ v1 xs from ho1).form
    have Hr1 := Lib.hid hr1
    clear ho1 hr1
    go_wp2_with fail
    refine (products_any _ _ _ _ Hr1.out (by omega) Hin.out hl).mono ?_; rintro e w2 ⟨v2, rfl, ho2, hb2⟩; have hz2 := hb2.size; (try simp only [World.size_alloc, World.size_setCell, World.size_drew, World.heap_drewN] at hz2)
    rw [P.out.1]
    rw [P.out.2] at ho2
    go_wp2
    go_ret2
    rw [E.out]
    exact ⟨_, rfl, ho2.mono (by (first | (go_size; done) | ((try simp only [World.size_alloc, World.size_setCell, World.size_drew, World.heap_drewN]); omega))), by (repeat' (first | (with_reducible exact Below.refl _ _) | (with_reducible assumption) | (with_reducible refine Below.drew ?_) | (with_reducible refine belowDrewN ?_ _) | (with_reducible refine Below.alloc ?_ ?_ _) | (with_reducible refine Below.setCell ?_ ?_ _) | (with_reducible refine belowStep (by assumption) ?_ ?_) | (with_reducible exact Below.size (by assumption)) | go_size))⟩
set_option maxRecDepth 100000 in
set_option maxHeartbeats 8000000 in
theorem spec_engelTerms_any (n d : Int) (w : World) : Calls Tryz.prog 57 #[.agg #[.int .i64 n, .int .i64 d]] w (RetRB ((etO n d).getD []) (etO n d).isSome w) := by
  cases h : engO n d with
  | none =>
    have E : Hid (etO n d = none) := Lib.hid (by unfold etO; rw [h]; rfl)
    have H := Lib.hid h
    clear h
    go_enter Tryz.func57, Tryz.ntmps57
    go_wp2_with fail
    refine (spec_engelOf_any _ _ _).mono ?_; rintro e w1 ⟨A1, c1, rfl, hr1, hb1⟩; have hz1 := hb1.size; (try simp only [World.size_alloc, World.size_setCell, World.size_drew, World.heap_drewN] at hz1)
    rw [H.out]
    go_wp2
    go_ret2
    rw [E.out]
    exact ret_rnil' (by (repeat' (first | (with_reducible exact Below.refl _ _) | (with_reducible assumption) | (with_reducible refine Below.drew ?_) | (with_reducible refine belowDrewN ?_ _) | (with_reducible refine Below.alloc ?_ ?_ _) | (with_reducible refine Below.setCell ?_ ?_ _) | (with_reducible refine belowStep (by assumption) ?_ ?_) | (with_reducible exact Below.size (by assumption)) | go_size)))
  | some xs =>
    have hb := engO_some h
    have hp := engB_parts hb
    obtain ⟨ps, h1, h2, h3⟩ := engB_prod hb
    have E : Hid (etO n d = some ps) := Lib.hid (by unfold etO; rw [h]; exact h1)
    have P := Lib.hid h1
    have X := Lib.hid h2
    have hpl := expB_len h2
    have Hin := Lib.hid fun (x : Int) (hx : x ∈ xs) => (by have := up_in (by omega) hp.2.1 x hx; omega : 1 ≤ x ∧ x ≤ 1000000000)
    have hl := hp.1
    have H := Lib.hid h
    clear h hb hp h1 h2 h3
    go_enter Tryz.func57, Tryz.ntmps57
    go_wp2_with fail
    refine (spec_engelOf_any _ _ _).mono ?_; rintro e w1 ⟨A1, c1, rfl, hr1, hb1⟩; have hz1 := hb1.size; (try simp only [World.size_alloc, World.size_setCell, World.size_drew, World.heap_drewN] at hz1)
    rw [H.out] at hr1
    rw [H.out]
    have Hr1 := Lib.hid (show Reads w1 A1 xs from hr1)
    clear hr1
    rw [Option.getD_some]
    go_wp2
    go_loopw [6, 7, 19] (fun v6 v7 v19 wr => ∃ (k : Nat) (p : Int) (qs : List Int), k ≤ xs.length ∧ v19 = .int .i64 k ∧ v7 = .int .i64 p ∧ (∃ A c, v6 = .slice A qs.length c) ∧ 1 ≤ p ∧ p ≤ 1000000000 ∧ qs.length ≤ k ∧ prodL 1 xs = (prodL p (xs.drop k)).map (qs ++ ·) ∧ OwnI wr w1.heap.size v6 qs ∧ Below w1.heap.size w1 wr) (fun _ _ v19 _ => xs.length - (intOf v19).toNat)
    case atStart => exact ⟨0, 1, [], Nat.zero_le _, rfl, rfl, ⟨_, _, rfl⟩, by omega, by omega, by simp, by cases h : prodL 1 xs <;> simp [h], OwnI.empty _ _, by (repeat' (first | (with_reducible exact Below.refl _ _) | (with_reducible assumption) | (with_reducible refine Below.drew ?_) | (with_reducible refine belowDrewN ?_ _) | (with_reducible refine Below.alloc ?_ ?_ _) | (with_reducible refine Below.setCell ?_ ?_ _) | (with_reducible refine belowStep (by assumption) ?_ ?_) | (with_reducible exact Below.size (by assumption)) | go_size))⟩
    case round =>
      obtain ⟨k, p, qs, hk, rfl, rfl, ⟨A, c, rfl⟩, p1, p2, hql, hr, ho, hbr⟩ := hrel
      have Hr := Lib.hid hr
      have Ho := Lib.hid ho
      have hzr := hbr.size
      clear hr ho
      by_cases hlt : k < xs.length
      · obtain ⟨b, o, x, rfl, hb, hx, hcell⟩ := (Hr1.out.below hbr).at_ hlt
        obtain ⟨x1, x2⟩ := Hin.out x (List.mem_of_getElem? hx)
        have hm := mul_bounds (a := p) (b := x) (by omega) p2 (by omega) x2
        have hm1 := mul_pos1 p1 x1
        have Hx := Lib.hid (drop_at hx)
        have hle : p * x ≤ 1000000000 := by
          refine Decidable.byContradiction fun hn => ?_
          have := Hr.out
          rw [P.out, Hx.out, prodL_no hn] at this
          cases this
        have Hst := Lib.hid (prodL_yes (xs := xs.drop (k + 1)) hle)
        clear hx
        go_wp2_with (at_builtin; refine wpList_app _ (o := ⟨some 29, _, _, _, _, _⟩) (ys := [p * x]) rfl _ _ rfl rfl (OwnI.below Ho.out (by (repeat' (first | (with_reducible exact Below.refl _ _) | (with_reducible assumption) | (with_reducible refine Below.drew ?_) | (with_reducible refine belowDrewN ?_ _) | (with_reducible refine Below.alloc ?_ ?_ _) | (with_reducible refine Below.setCell ?_ ?_ _) | (with_reducible refine belowStep (by assumption) ?_ ?_) | (with_reducible exact Below.size (by assumption)) | go_size)))) (1) (1) (by first | (simp; done) | (simp; omega)) rfl (Reads.one _ (p * x)) (by (try simp only [List.length_append, List.length_take, List.length_drop, List.length_nil, List.length_singleton, List.length_cons]); omega) (by first | exact Nat.le_refl _ | ((try simp only [World.size_alloc, World.size_setCell, World.size_drew, World.heap_drewN]); omega)) ?_; intro v6 w6 ho6 hb6 hg6 ht6; clear hg6 ht6; have hz6 := hb6.size; (try simp only [World.size_alloc, World.size_setCell, World.size_drew, World.heap_drewN] at hz6))
        obtain ⟨A6, c6, rfl, hr6⟩ := ho6.form
        go_roundw
        case rel => exact ⟨k + 1, p * x, qs ++ [p * x], by omega, by go_num, rfl, ⟨A6, c6, by simp⟩, hm1, hle, by simp; omega, by
            rw [Hr.out, Hx.out, Hst.out, Option.map_map]
            congr 1
            funext z
            simp, by simpa using ho6, by (repeat' (first | (with_reducible exact Below.refl _ _) | (with_reducible assumption) | (with_reducible refine Below.drew ?_) | (with_reducible refine belowDrewN ?_ _) | (with_reducible refine Below.alloc ?_ ?_ _) | (with_reducible refine Below.setCell ?_ ?_ _) | (with_reducible refine belowStep (by assumption) ?_ ?_) | (with_reducible exact Below.size (by assumption)) | go_size))⟩
        case measure => simp [intOf]; omega
      · obtain rfl : k = xs.length := by omega
        have hq : qs = ps := by
          have := Hr.out
          rw [P.out, drop_all] at this
          simp only [prodL, Option.map_some, List.append_nil, Option.some.injEq] at this
          exact this.symm
        subst hq
        obtain ⟨A2, c2, e2, hr2⟩ := Ho.out.form
        injection e2 with e21 e22 e23
        subst e21
        have Hr2 := Lib.hid hr2
        clear hr2
        go_wp2_with fail
        refine (unList_yes _ _ _ _ Hr2.out (by omega) X.out).mono ?_; rintro e w7 ⟨rfl, hb7⟩; have hz7 := hb7.size; (try simp only [World.size_alloc, World.size_setCell, World.size_drew, World.heap_drewN] at hz7)
        go_wp2
        go_ret2
        rw [E.out]
        exact ⟨_, _, rfl, Hr2.out.below hb7, by (repeat' (first | (with_reducible exact Below.refl _ _) | (with_reducible assumption) | (with_reducible refine Below.drew ?_) | (with_reducible refine belowDrewN ?_ _) | (with_reducible refine Below.alloc ?_ ?_ _) | (with_reducible refine Below.setCell ?_ ?_ _) | (with_reducible refine belowStep (by assumption) ?_ ?_) | (with_reducible exact Below.size (by assumption)) | go_size))⟩
end Go.Proofs.YtolgjokghecceaaGreatDoor


/-
  Plain facts on lists in which numbers stand twice, and on the rounds that replace them.
-/
namespace Go.Proofs.YtolgjokghecceaaGreatDoor
open Go.RowKit
/-- the index of the first number that stands twice, one behind the other -/
def tw : List Int → Option Nat
  | x :: y :: ys => if x = y then some 0 else (tw (y :: ys)).map (· + 1)
  | _ => none
theorem tw_short {xs : List Int} (h : xs.length ≤ 1) : tw xs = none := by
  match xs, h with
  | [], _ => rfl
  | [_], _ => rfl
theorem tw_end {xs : List Int} {k : Nat} (h : xs.length ≤ k + 1) : tw (xs.drop k) = none := tw_short (by rw [List.length_drop]; omega)
theorem tw_hit {xs : List Int} {k : Nat} {x : Int} (hx : xs[k]? = some x) (hy : xs[k + 1]? = some x) : tw (xs.drop k) = some 0 := by
  rw [drop_at hx, drop_at hy, tw, if_pos rfl]
theorem tw_miss {xs : List Int} {k : Nat} {x y : Int} (hx : xs[k]? = some x) (hy : xs[k + 1]? = some y) (hne : x ≠ y) : tw (xs.drop k) = (tw (xs.drop (k + 1))).map (· + 1) := by
  rw [drop_at hx, drop_at hy, tw, if_neg hne]
theorem tw_at : ∀ {xs : List Int} {i : Nat}, tw xs = some i → ∃ d, xs[i]? = some d ∧ xs[i + 1]? = some d
  | [], i, h => by cases h
  | [_], i, h => by cases h
  | x :: y :: ys, i, h => by
    rw [tw] at h
    by_cases he : x = y
    · rw [if_pos he] at h
      injection h with h
      subst h
      exact ⟨x, rfl, by rw [he]; rfl⟩
    · rw [if_neg he] at h
      cases ht : tw (y :: ys) with
      | none => rw [ht] at h; cases h
      | some j =>
        rw [ht] at h
        injection h with h
        subst h
        obtain ⟨d, h1, h2⟩ := tw_at ht
        exact ⟨d, by simpa using h1, by simpa using h2⟩
/-- without a number that stands twice, a list that does not fall rises -/
theorem tw_rising : ∀ {xs : List Int}, xs.Pairwise (· ≤ ·) → tw xs = none → Rising xs
  | [], _, _ => List.Pairwise.nil
  | [x], _, _ => List.pairwise_singleton _ _
  | x :: y :: ys, hs, h => by
    rw [tw] at h
    by_cases he : x = y
    · rw [if_pos he] at h; cases h
    · rw [if_neg he] at h
      have h2 : tw (y :: ys) = none := by
        cases ht : tw (y :: ys) with
        | none => rfl
        | some j => rw [ht] at h; cases h
      obtain ⟨h3, h4⟩ := List.pairwise_cons.1 hs
      have ih := tw_rising h4 h2
      refine List.pairwise_cons.2 ⟨fun z hz => ?_, ih⟩
      have h5 := h3 y (by simp)
      rcases List.mem_cons.1 hz with rfl | hz
      · omega
      · have := (List.pairwise_cons.1 ih).1 z hz
        omega
/-- what a number d that stands twice is replaced by: how many of it go, and what comes -/
def repP (d : Int) : Nat × List Int := if d % 2 = 0 then (2, [d / 2]) else (2, [(d + 1) / 2, d * (d + 1) / 2])
def repS (d : Int) : Nat × List Int := (1, [d + 1, d * (d + 1)])
/-- one round -/
def roundL (g : Int → Nat × List Int) (xs : List Int) (i : Nat) : List Int := srt (xs.take i ++ xs.drop (i + (g ((xs[i]?).getD 0)).1) ++ (g ((xs[i]?).getD 0)).2)
def small (xs : List Int) : Bool := xs.all fun x => decide (x ≤ 1000000000)
/-- so many rounds at most -/
def rounds (g : Int → Nat × List Int) : Nat → List Int → Option (List Int)
  | k, xs => match tw xs with
    | none => some xs
    | some i => match k with
      | 0 => none
      | k + 1 => if small (roundL g xs i) = true then rounds g k (roundL g xs i) else none
theorem rounds_done {g : Int → Nat × List Int} {k : Nat} {xs : List Int} (h : tw xs = none) : rounds g k xs = some xs := by
  cases k <;> simp [rounds, h]
theorem rounds_out {g : Int → Nat × List Int} {xs : List Int} {i : Nat} (h : tw xs = some i) : rounds g 0 xs = none := by simp [rounds, h]
theorem rounds_big {g : Int → Nat × List Int} {k : Nat} {xs : List Int} {i : Nat} (h : tw xs = some i) (hs : small (roundL g xs i) = false) : rounds g (k + 1) xs = none := by simp [rounds, h, hs]
theorem rounds_on {g : Int → Nat × List Int} {k : Nat} {xs : List Int} {i : Nat} (h : tw xs = some i) (hs : small (roundL g xs i) = true) : rounds g (k + 1) xs = rounds g k (roundL g xs i) := by
  rw [rounds, h]; simp [hs]
/-- a number put into a list that does not fall -/
def putS (xs : List Int) (n : Int) : List Int := xs.takeWhile (fun x => decide (x ≤ n)) ++ [n] ++ xs.dropWhile (fun x => decide (x ≤ n))
theorem putS_perm (xs : List Int) (n : Int) : (putS xs n).Perm (xs ++ [n]) := by
  unfold putS
  have h := List.takeWhile_append_dropWhile (p := fun x => decide (x ≤ n)) (l := xs)
  conv => rhs; rw [← h]
  rw [List.append_assoc, List.append_assoc]
  exact List.Perm.append_left _ List.perm_append_comm
theorem putS_sorted : ∀ {xs : List Int}, xs.Pairwise (· ≤ ·) → ∀ n, (putS xs n).Pairwise (· ≤ ·)
  | [], _, n => by simp [putS]
  | x :: xs, h, n => by
    obtain ⟨h1, h2⟩ := List.pairwise_cons.1 h
    by_cases hx : x ≤ n
    · have ih := putS_sorted h2 n
      have e : putS (x :: xs) n = x :: putS xs n := by simp [putS, hx]
      rw [e]
      refine List.pairwise_cons.2 ⟨fun y hy => ?_, ih⟩
      rcases List.mem_append.1 ((putS_perm xs n).mem_iff.1 hy) with hy | hy
      · exact h1 y hy
      · simp only [List.mem_singleton] at hy; omega
    · have e : putS (x :: xs) n = n :: x :: xs := by simp [putS, hx]
      rw [e]
      refine List.pairwise_cons.2 ⟨fun y hy => ?_, h⟩
      rcases List.mem_cons.1 hy with rfl | hy
      · omega
      · have := h1 y hy; omega
/-- putting in is sorting -/
theorem putS_srt {xs : List Int} (h : xs.Pairwise (· ≤ ·)) (n : Int) : putS xs n = srt (xs ++ [n]) := (srt_of (putS_perm xs n) (putS_sorted h n)).symm
theorem srt_append (xs : List Int) (ys : List Int) : srt (srt xs ++ ys) = srt (xs ++ ys) :=
  srt_of ((srt_perm (xs ++ ys)).trans (List.Perm.append_right ys (srt_perm xs).symm)) (srt_sorted _)
theorem putS_two {xs : List Int} (h : xs.Pairwise (· ≤ ·)) (a b : Int) : putS (putS xs a) b = srt (xs ++ [a, b]) := by
  rw [putS_srt (putS_sorted h a), putS_srt h, srt_append, List.append_assoc]
  rfl
theorem putS_len (xs : List Int) (n : Int) : (putS xs n).length = xs.length + 1 := by rw [(putS_perm xs n).length_eq]; simp
/-- the place of a number in a list that does not fall: as the model's loop finds it -/
theorem putS_at {xs : List Int} {n : Int} : ∀ {k : Nat}, k ≤ xs.length → (∀ (i : Nat) (x : Int), i < k → xs[i]? = some x → x ≤ n) → (∀ x, xs[k]? = some x → ¬ x ≤ n) → putS xs n = xs.take k ++ [n] ++ xs.drop k := by
  intro k
  induction k generalizing xs with
  | zero =>
    intro _ _ h2
    cases xs with
    | nil => rfl
    | cons x xs =>
      have := h2 x rfl
      simp [putS, this]
  | succ k ih =>
    intro hk h1 h2
    cases xs with
    | nil => simp at hk
    | cons x xs =>
      have hx := h1 0 x (by omega) rfl
      have := ih (xs := xs) (by simpa using hk) (fun i y hi hy => h1 (i + 1) y (by omega) (by simpa using hy)) (fun y hy => h2 y (by simpa using hy))
      have e : putS (x :: xs) n = x :: putS xs n := by simp [putS, hx]
      rw [e, this]
      rfl
end Go.Proofs.YtolgjokghecceaaGreatDoor
