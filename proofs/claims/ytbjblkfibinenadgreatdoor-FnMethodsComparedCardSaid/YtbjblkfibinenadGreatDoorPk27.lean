import Derived.Test.YtbjblkfibinenadGreatDoorPk15
import Derived.Test.YtbjblkfibinenadGreatDoorPk8
import Derived.Test.YtbjblkfibinenadGreatDoorPk16
import Derived.Test.YtbjblkfibinenadGreatDoorPk3
import Derived.Test.YtbjblkfibinenadGreatDoorPk12
import Derived.Test.YtbjblkfibinenadGreatDoorPk11
import Derived.Test.YtbjblkfibinenadGreatDoorPk14
import Derived.Test.YtbjblkfibinenadGreatDoorPk17
import Derived.Lib.OwnBridge

/-
  Plain facts on lists in which numbers stand twice, and on the rounds that replace them.
-/
namespace Go.Proofs.YtbjblkfibinenadGreatDoor
open Go.RowKit
/-- the index of the first number that stands twice, one behind the other -/
def tw : List Int → Option Nat
  | x :: y :: ys => if x = y then some 0 else (tw (y :: ys)).map (· + 1)
  | _ => none
theorem tw_short {xs : List Int} (h : xs.length ≤ 1) : tw xs = none := by
  match xs, h with
  | [], _ => rfl
  | [_], _ => rfl
theorem tw_end {xs : List Int} {k : Nat} (h : xs.length ≤ k + 1) : tw (xs.drop k) = none := tw_short (by rw [List.length_drop]; omega)
theorem tw_hit {xs : List Int} {k : Nat} {x : Int} (hx : xs[k]? = some x) (hy : xs[k + 1]? = some x) : tw (xs.drop k) = some 0 := by
  rw [drop_at hx, drop_at hy, tw, if_pos rfl]
theorem tw_miss {xs : List Int} {k : Nat} {x y : Int} (hx : xs[k]? = some x) (hy : xs[k + 1]? = some y) (hne : x ≠ y) : tw (xs.drop k) = (tw (xs.drop (k + 1))).map (· + 1) := by
  rw [drop_at hx, drop_at hy, tw, if_neg hne]
theorem tw_at : ∀ {xs : List Int} {i : Nat}, tw xs = some i → ∃ d, xs[i]? = some d ∧ xs[i + 1]? = some d
  | [], i, h => by cases h
  | [_], i, h => by cases h
  | x :: y :: ys, i, h => by
    rw [tw] at h
    by_cases he : x = y
    · rw [if_pos he] at h
      injection h with h
      subst h
      exact ⟨x, rfl, by rw [he]; rfl⟩
    · rw [if_neg he] at h
      cases ht : tw (y :: ys) with
      | none => rw [ht] at h; cases h
      | some j =>
        rw [ht] at h
        injection h with h
        subst h
        obtain ⟨d, h1, h2⟩ := tw_at ht
        exact ⟨d, by simpa using h1, by simpa using h2⟩
/-- without a number that stands twice, a list that does not fall rises -/
theorem tw_rising : ∀ {xs : List Int}, xs.Pairwise (· ≤ ·) → tw xs = none → Rising xs
  | [], _, _ => List.Pairwise.nil
  | [x], _, _ => List.pairwise_singleton _ _
  | x :: y :: ys, hs, h => by
    rw [tw] at h
    by_cases he : x = y
    · rw [if_pos he] at h; cases h
    · rw [if_neg he] at h
      have h2 : tw (y :: ys) = none := by
        cases ht : tw (y :: ys) with
        | none => rfl
        | some j => rw [ht] at h; cases h
      obtain ⟨h3, h4⟩ := List.pairwise_cons.1 hs
      have ih := tw_rising h4 h2
      refine List.pairwise_cons.2 ⟨fun z hz => ?_, ih⟩
      have h5 := h3 y (by simp)
      rcases List.mem_cons.1 hz with rfl | hz
      · omega
      · have := (List.pairwise_cons.1 ih).1 z hz
        omega
/-- what a number d that stands twice is replaced by: how many of it go, and what comes -/
def repP (d : Int) : Nat × List Int := if d % 2 = 0 then (2, [d / 2]) else (2, [(d + 1) / 2, d * (d + 1) / 2])
def repS (d : Int) : Nat × List Int := (1, [d + 1, d * (d + 1)])
/-- one round -/
def roundL (g : Int → Nat × List Int) (xs : List Int) (i : Nat) : List Int := srt (xs.take i ++ xs.drop (i + (g ((xs[i]?).getD 0)).1) ++ (g ((xs[i]?).getD 0)).2)
def small (xs : List Int) : Bool := xs.all fun x => decide (x ≤ 1000000000)
/-- so many rounds at most -/
def rounds (g : Int → Nat × List Int) : Nat → List Int → Option (List Int)
  | k, xs => match tw xs with
    | none => some xs
    | some i => match k with
      | 0 => none
      | k + 1 => if small (roundL g xs i) = true then rounds g k (roundL g xs i) else none
theorem rounds_done {g : Int → Nat × List Int} {k : Nat} {xs : List Int} (h : tw xs = none) : rounds g k xs = some xs := by
  cases k <;> simp [rounds, h]
theorem rounds_out {g : Int → Nat × List Int} {xs : List Int} {i : Nat} (h : tw xs = some i) : rounds g 0 xs = none := by simp [rounds, h]
theorem rounds_big {g : Int → Nat × List Int} {k : Nat} {xs : List Int} {i : Nat} (h : tw xs = some i) (hs : small (roundL g xs i) = false) : rounds g (k + 1) xs = none := by simp [rounds, h, hs]
theorem rounds_on {g : Int → Nat × List Int} {k : Nat} {xs : List Int} {i : Nat} (h : tw xs = some i) (hs : small (roundL g xs i) = true) : rounds g (k + 1) xs = rounds g k (roundL g xs i) := by
  rw [rounds, h]; simp [hs]
/-- a number put into a list that does not fall -/
def putS (xs : List Int) (n : Int) : List Int := xs.takeWhile (fun x => decide (x ≤ n)) ++ [n] ++ xs.dropWhile (fun x => decide (x ≤ n))
theorem putS_perm (xs : List Int) (n : Int) : (putS xs n).Perm (xs ++ [n]) := by
  unfold putS
  have h := List.takeWhile_append_dropWhile (p := fun x => decide (x ≤ n)) (l := xs)
  conv => rhs; rw [← h]
  rw [List.append_assoc, List.append_assoc]
  exact List.Perm.append_left _ List.perm_append_comm
theorem putS_sorted : ∀ {xs : List Int}, xs.Pairwise (· ≤ ·) → ∀ n, (putS xs n).Pairwise (· ≤ ·)
  | [], _, n => by simp [putS]
  | x :: xs, h, n => by
    obtain ⟨h1, h2⟩ := List.pairwise_cons.1 h
    by_cases hx : x ≤ n
    · have ih := putS_sorted h2 n
      have e : putS (x :: xs) n = x :: putS xs n := by simp [putS, hx]
      rw [e]
      refine List.pairwise_cons.2 ⟨fun y hy => ?_, ih⟩
      rcases List.mem_append.1 ((putS_perm xs n).mem_iff.1 hy) with hy | hy
      · exact h1 y hy
      · simp only [List.mem_singleton] at hy; omega
    · have e : putS (x :: xs) n = n :: x :: xs := by simp [putS, hx]
      rw [e]
      refine List.pairwise_cons.2 ⟨fun y hy => ?_, h⟩
      rcases List.mem_cons.1 hy with rfl | hy
      · omega
      · have := h1 y hy; omega
/-- putting in is sorting -/
theorem putS_srt {xs : List Int} (h : xs.Pairwise (· ≤ ·)) (n : Int) : putS xs n = srt (xs ++ [n]) := (srt_of (putS_perm xs n) (putS_sorted h n)).symm
theorem srt_append (xs : List Int) (ys : List Int) : srt (srt xs ++ ys) = srt (xs ++ ys) :=
  srt_of ((srt_perm (xs ++ ys)).trans (List.Perm.append_right ys (srt_perm xs).symm)) (srt_sorted _)
theorem putS_two {xs : List Int} (h : xs.Pairwise (· ≤ ·)) (a b : Int) : putS (putS xs a) b = srt (xs ++ [a, b]) := by
  rw [putS_srt (putS_sorted h a), putS_srt h, srt_append, List.append_assoc]
  rfl
theorem putS_len (xs : List Int) (n : Int) : (putS xs n).length = xs.length + 1 := by rw [(putS_perm xs n).length_eq]; simp
/-- the place of a number in a list that does not fall: as the model's loop finds it -/
theorem putS_at {xs : List Int} {n : Int} : ∀ {k : Nat}, k ≤ xs.length → (∀ (i : Nat) (x : Int), i < k → xs[i]? = some x → x ≤ n) → (∀ x, xs[k]? = some x → ¬ x ≤ n) → putS xs n = xs.take k ++ [n] ++ xs.drop k := by
  intro k
  induction k generalizing xs with
  | zero =>
    intro _ _ h2
    cases xs with
    | nil => rfl
    | cons x xs =>
      have := h2 x rfl
      simp [putS, this]
  | succ k ih =>
    intro hk h1 h2
    cases xs with
    | nil => simp at hk
    | cons x xs =>
      have hx := h1 0 x (by omega) rfl
      have := ih (xs := xs) (by simpa using hk) (fun i y hi hy => h1 (i + 1) y (by omega) (by simpa using hy)) (fun y hy => h2 y (by simpa using hy))
      have e : putS (x :: xs) n = x :: putS xs n := by simp [putS, hx]
      rw [e, this]
      rfl
end Go.Proofs.YtbjblkfibinenadGreatDoor


/-
  Contracts of the model's helpers on lists in which numbers stand twice.
-/
namespace Go.Proofs.YtbjblkfibinenadGreatDoor
open Go.RowKit
def twI (xs : List Int) : Int := match tw xs with | some i => (i : Int) | none => -1
theorem twI_some {xs : List Int} {i : Nat} (h : tw xs = some i) : twI xs = (i : Int) := by simp [twI, h]
theorem twI_none {xs : List Int} (h : tw xs = none) : twI xs = -1 := by simp [twI, h]
set_option maxHeartbeats 2000000 in
theorem meTwice_any (w : World) (Axs : Option Addr) (cxs : Nat) (xs : List Int) (hxs : Reads w Axs xs) (lxs : xs.length ≤ 1048576) : Calls Tryz.prog 83 #[.slice Axs xs.length cxs] w (RetQ (.int .i64 (twI xs)) w) := by
  have Hxs := Lib.hid hxs
  clear hxs
  go_enter Tryz.func83, Tryz.ntmps83
  go_wp2
  go_loopw [3] (fun v3 wr => ∃ k : Nat, k ≤ xs.length ∧ v3 = .int .i64 (k : Int) ∧ tw xs = (tw (xs.drop k)).map (· + k) ∧ ∃ n, wr = w.drewN n) (fun v3 _ => xs.length - (intOf v3).toNat)
  case atStart => exact ⟨0, Nat.zero_le _, rfl, by cases h : tw xs <;> simp [h], 0, rfl⟩
  case round =>
    obtain ⟨k, hk, rfl, ht, n, rfl⟩ := hrel
    have HT := Lib.hid ht
    clear ht
    by_cases hlt : k + 1 < xs.length
    · obtain ⟨b, o, x, y, rfl, hb, hx, hy, hcell, hcell2⟩ := Hxs.out.at2 (k := k) (j := k + 1) (by omega) hlt
      have hki : (k : Int) + 1 < (xs.length : Int) := by omega
      by_cases hxy : x = y
      · subst hxy
        have E : Hid (twI xs = (k : Int)) := Lib.hid (twI_some (by rw [HT.out, tw_hit hx hy]; simp))
        clear hx hy
        go_wp2
        go_quiet (fail)
        go_wp2
        go_ret
        exact ⟨ret_int E.out.symm, _, World.drewN_drewN _ _ _⟩
      · have E : Hid (tw xs = (tw (xs.drop (k + 1))).map (· + (k + 1))) := Lib.hid (by
          rw [HT.out, tw_miss hx hy hxy, Option.map_map]
          congr 1
          funext z
          simp; omega)
        have hne : (x == y) = false := by simp [hxy]
        clear hx hy hxy
        go_wp2
        go_quiet (fail)
        go_wp2
        go_roundw
        case rel => exact ⟨k + 1, by omega, by go_num, E.out, _, rfl⟩
        case measure => simp [intOf]; omega
    · have hki : ¬ (k : Int) + 1 < (xs.length : Int) := by omega
      have E : Hid (twI xs = -1) := Lib.hid (twI_none (by rw [HT.out, tw_end (by omega)]; rfl))
      go_wp2
      go_ret
      exact ⟨ret_int E.out.symm, n, rfl⟩
theorem litAt {W : World} {b : Nat} {u : Value} {T : TypeId} (hb : b = W.heap.size) : (W.alloc (.cells #[u] T)).cell? ⟨b, 0, none⟩ = some u := by
  subst hb
  simp
set_option maxHeartbeats 8000000 in
theorem mePut_any (w : World) (v : Int) (Axs : Option Addr) (cxs : Nat) (xs : List Int) (hxs : Reads w Axs xs) (lxs : xs.length ≤ 1048576) (hcap : xs.length ≤ cxs) : Calls Tryz.prog 85 #[.slice Axs xs.length cxs, .int .i64 v] w (RetL (putS xs v) w) := by
  have Hxs := Lib.hid hxs
  clear hxs
  go_enter Tryz.func85, Tryz.ntmps85
  go_wp2
  go_loopw [5] (fun v5 wr => ∃ k : Nat, k ≤ xs.length ∧ v5 = .int .i64 (k : Int) ∧ (∀ (i : Nat) (x : Int), i < k → xs[i]? = some x → x ≤ v) ∧ ∃ n, wr = w.drewN n) (fun v5 _ => xs.length - (intOf v5).toNat)
  case atStart => exact ⟨0, Nat.zero_le _, rfl, fun i x h => by omega, 0, rfl⟩
  case round =>
    obtain ⟨k, hk, rfl, hlow, n, rfl⟩ := hrel
    have Hlow := Lib.hid hlow
    clear hlow
    by_cases hlt : k < xs.length
    · obtain ⟨b, o, x, rfl, hb, hx, hcell⟩ := Hxs.out.at_ hlt
      have hki : (k : Int) < (xs.length : Int) := by omega
      by_cases hv : x ≤ v
      · have Hx := Lib.hid hx
        clear hx
        go_wp2
        go_roundw
        case rel => exact ⟨k + 1, by omega, by go_num, (fun i y hi hy => by
          rcases Nat.lt_or_eq_of_le (Nat.le_of_lt_succ hi) with h | h
          · exact Hlow.out i y h hy
          · subst h; rw [Hx.out] at hy; injection hy with hy; omega), n, rfl⟩
        case measure => simp [intOf]; omega
      · have Hput : Hid (putS xs v = xs.take k ++ [v] ++ xs.drop k) := Lib.hid (putS_at hk Hlow.out (fun y hy => by rw [hx] at hy; injection hy with hy; omega))
        have hvd : decide (x ≤ v) = false := decide_eq_false hv
        have hq1 : (k : Int) ≤ (cxs : Int) := by omega
        have hq2 : (k : Int) ≤ (xs.length : Int) := by omega
        have hq3 : (xs.length : Int) ≤ (cxs : Int) := by omega
        have hcp : ¬ cxs = k := by omega
        clear hx
        go_wp2
        go_region_law (first
          | (go_simp; go_at_call 84; refine (l1Own_n _ _ _ _ (xs.take (k)) (by rw [List.length_take]; omega) ((Hxs.out.below (by (repeat' (first | (with_reducible exact Below.refl _ _) | (with_reducible assumption) | (with_reducible refine Below.drew ?_) | (with_reducible refine belowDrewN ?_ _) | (with_reducible refine Below.alloc ?_ ?_ _) | (with_reducible refine Below.setCell ?_ ?_ _) | (with_reducible refine belowStep (by assumption) ?_ ?_) | (with_reducible exact Below.size (by assumption)) | go_size)))).cutTo (k)) (by omega)).mono ?_; rintro e w1 ⟨v1, rfl, ho1, hb1⟩; obtain ⟨hc1, hf1⟩ := bcellB hb1; have hz1 := hb1.size; (try simp only [World.size_alloc, World.heap_drewN] at hc1 hf1 hz1); (try have hy1_00 : w.heap.size < w1.heap.size := by omega); (try have hn1_00 : w.heap.size ≠ w1.heap.size := by omega); (try have hm1_00 : w1.heap.size ≠ w.heap.size := by omega); (try have hp1_00 : w.heap.size < w1.heap.size + 1 := by omega); (try have hy1_01 : w.heap.size + 1 < w1.heap.size := by omega); (try have hn1_01 : w.heap.size + 1 ≠ w1.heap.size := by omega); (try have hm1_01 : w1.heap.size ≠ w.heap.size + 1 := by omega); (try have hp1_01 : w.heap.size + 1 < w1.heap.size + 1 := by omega); go_wp2_with fail)
          | (refine step_app _ (o := ⟨some 26, _, _, _, _, _⟩) (ys := [v]) rfl _ _ rfl rfl (OwnI.below ho1 (by (repeat' (first | (with_reducible exact Below.refl _ _) | (with_reducible assumption) | (with_reducible refine Below.drew ?_) | (with_reducible refine belowDrewN ?_ _) | (with_reducible refine Below.alloc ?_ ?_ _) | (with_reducible refine Below.setCell ?_ ?_ _) | (with_reducible refine belowStep (by assumption) ?_ ?_) | (with_reducible exact Below.size (by assumption)) | go_size)))) (1) (1) (by first | (simp; done) | (simp; omega)) rfl (Reads.oneAt (by (first | (first | (simp [*]; done) | (simp [go_sem, *]; done)) | exact (hc1 _ _ (by (first | (go_size; done) | ((try simp only [World.size_alloc, World.size_setCell, World.size_drew, World.heap_drewN]); omega)))).trans (litAt (by simp)) | exact litAt (by simp))) (by (first | (go_size; done) | ((try simp only [World.size_alloc, World.size_setCell, World.size_drew, World.heap_drewN]); omega)))) (by (try simp only [List.length_take, List.length_nil, List.length_cons]); omega) (by first | exact Nat.le_refl _ | ((try simp only [World.size_alloc, World.heap_drewN]); omega)) ?_; intro v3 w3 ho3 hb3 hg3 ht3; clear hg3 ht3; have hz3 := hb3.size; (try simp only [World.size_alloc] at hz3))
          | (refine step_app _ (o := ⟨some 30, _, _, _, _, _⟩) (ys := xs.drop k) rfl _ _ rfl rfl (ho3) ((xs.length - k)) ((cxs - k)) (by first | (simp; done) | (simp; omega)) rfl (Reads.cutS (Hxs.out.below (by (repeat' (first | (with_reducible exact Below.refl _ _) | (with_reducible assumption) | (with_reducible refine Below.drew ?_) | (with_reducible refine belowDrewN ?_ _) | (with_reducible refine Below.alloc ?_ ?_ _) | (with_reducible refine Below.setCell ?_ ?_ _) | (with_reducible refine belowStep (by assumption) ?_ ?_) | (with_reducible exact Below.size (by assumption)) | go_size))))) (by (try simp only [List.length_append, List.length_take, List.length_drop, List.length_nil, List.length_cons]); omega) (by first | exact Nat.le_refl _ | ((try simp only [World.size_alloc, World.heap_drewN]); omega)) ?_; intro v4 w4 ho4 hb4 hg4 ht4; clear hg4 ht4; have hz4 := hb4.size; (try simp only [World.size_alloc, World.size_setCell, World.size_drew, World.heap_drewN] at hz4)))
        all_goals
          go_wp2
          go_ret
          rw [Hput.out]
          exact ⟨v4, rfl, by simpa using ho4.mono (by (first | (go_size; done) | ((try simp only [World.size_alloc, World.size_setCell, World.size_drew, World.heap_drewN]); omega))), by (repeat' (first | (with_reducible exact Below.refl _ _) | (with_reducible assumption) | (with_reducible refine Below.drew ?_) | (with_reducible refine belowDrewN ?_ _) | (with_reducible refine Below.alloc ?_ ?_ _) | (with_reducible refine Below.setCell ?_ ?_ _) | (with_reducible refine belowStep (by assumption) ?_ ?_) | (with_reducible exact Below.size (by assumption)) | go_size))⟩
    · obtain rfl : k = xs.length := by omega
      have Hput : Hid (putS xs v = xs.take xs.length ++ [v] ++ []) := Lib.hid (by
        have := putS_at (Nat.le_refl _) Hlow.out (fun y hy => by rw [List.getElem?_eq_none (Nat.le_refl _)] at hy; cases hy)
        rw [List.drop_length] at this
        exact this)
      have hq3 : (xs.length : Int) ≤ (cxs : Int) := by omega
      by_cases hcp : cxs = xs.length
      · subst hcp
        go_wp2
        go_region_law (first
          | (go_simp; go_at_call 84; refine (l1Own_n _ _ _ _ (xs.take (xs.length)) (by rw [List.length_take]; omega) ((Hxs.out.below (by (repeat' (first | (with_reducible exact Below.refl _ _) | (with_reducible assumption) | (with_reducible refine Below.drew ?_) | (with_reducible refine belowDrewN ?_ _) | (with_reducible refine Below.alloc ?_ ?_ _) | (with_reducible refine Below.setCell ?_ ?_ _) | (with_reducible refine belowStep (by assumption) ?_ ?_) | (with_reducible exact Below.size (by assumption)) | go_size)))).cutTo (xs.length)) (by omega)).mono ?_; rintro e w1 ⟨v1, rfl, ho1, hb1⟩; obtain ⟨hc1, hf1⟩ := bcellB hb1; have hz1 := hb1.size; (try simp only [World.size_alloc, World.heap_drewN] at hc1 hf1 hz1); (try have hy1_00 : w.heap.size < w1.heap.size := by omega); (try have hn1_00 : w.heap.size ≠ w1.heap.size := by omega); (try have hm1_00 : w1.heap.size ≠ w.heap.size := by omega); (try have hp1_00 : w.heap.size < w1.heap.size + 1 := by omega); (try have hy1_01 : w.heap.size + 1 < w1.heap.size := by omega); (try have hn1_01 : w.heap.size + 1 ≠ w1.heap.size := by omega); (try have hm1_01 : w1.heap.size ≠ w.heap.size + 1 := by omega); (try have hp1_01 : w.heap.size + 1 < w1.heap.size + 1 := by omega); go_wp2_with fail)
          | (refine step_app _ (o := ⟨some 26, _, _, _, _, _⟩) (ys := [v]) rfl _ _ rfl rfl (OwnI.below ho1 (by (repeat' (first | (with_reducible exact Below.refl _ _) | (with_reducible assumption) | (with_reducible refine Below.drew ?_) | (with_reducible refine belowDrewN ?_ _) | (with_reducible refine Below.alloc ?_ ?_ _) | (with_reducible refine Below.setCell ?_ ?_ _) | (with_reducible refine belowStep (by assumption) ?_ ?_) | (with_reducible exact Below.size (by assumption)) | go_size)))) (1) (1) (by first | (simp; done) | (simp; omega)) rfl (Reads.oneAt (by (first | (first | (simp [*]; done) | (simp [go_sem, *]; done)) | exact (hc1 _ _ (by (first | (go_size; done) | ((try simp only [World.size_alloc, World.size_setCell, World.size_drew, World.heap_drewN]); omega)))).trans (litAt (by simp)) | exact litAt (by simp))) (by (first | (go_size; done) | ((try simp only [World.size_alloc, World.size_setCell, World.size_drew, World.heap_drewN]); omega)))) (by (try simp only [List.length_take, List.length_nil, List.length_cons]); omega) (by first | exact Nat.le_refl _ | ((try simp only [World.size_alloc, World.heap_drewN]); omega)) ?_; intro v3 w3 ho3 hb3 hg3 ht3; clear hg3 ht3; have hz3 := hb3.size; (try simp only [World.size_alloc] at hz3))
          | (refine step_app _ (o := ⟨some 30, _, _, _, _, _⟩) (ys := []) rfl _ _ rfl rfl (ho3) (0) (0) (by first | (simp; done) | (simp; omega)) rfl (Reads.nil) (by (try simp only [List.length_append, List.length_take, List.length_nil, List.length_cons]); omega) (by first | exact Nat.le_refl _ | ((try simp only [World.size_alloc, World.heap_drewN]); omega)) ?_; intro v4 w4 ho4 hb4 hg4 ht4; clear hg4 ht4; have hz4 := hb4.size; (try simp only [World.size_alloc, World.size_setCell, World.size_drew, World.heap_drewN] at hz4)))
        all_goals
          go_wp2
          go_ret
          rw [Hput.out]
          exact ⟨v4, rfl, by simpa using ho4.mono (by (first | (go_size; done) | ((try simp only [World.size_alloc, World.size_setCell, World.size_drew, World.heap_drewN]); omega))), by (repeat' (first | (with_reducible exact Below.refl _ _) | (with_reducible assumption) | (with_reducible refine Below.drew ?_) | (with_reducible refine belowDrewN ?_ _) | (with_reducible refine Below.alloc ?_ ?_ _) | (with_reducible refine Below.setCell ?_ ?_ _) | (with_reducible refine belowStep (by assumption) ?_ ?_) | (with_reducible exact Below.size (by assumption)) | go_size))⟩
      · go_wp2
        go_region_law (first
          | (go_simp; go_at_call 84; refine (l1Own_n _ _ _ _ (xs.take (xs.length)) (by rw [List.length_take]; omega) ((Hxs.out.below (by (repeat' (first | (with_reducible exact Below.refl _ _) | (with_reducible assumption) | (with_reducible refine Below.drew ?_) | (with_reducible refine belowDrewN ?_ _) | (with_reducible refine Below.alloc ?_ ?_ _) | (with_reducible refine Below.setCell ?_ ?_ _) | (with_reducible refine belowStep (by assumption) ?_ ?_) | (with_reducible exact Below.size (by assumption)) | go_size)))).cutTo (xs.length)) (by omega)).mono ?_; rintro e w1 ⟨v1, rfl, ho1, hb1⟩; obtain ⟨hc1, hf1⟩ := bcellB hb1; have hz1 := hb1.size; (try simp only [World.size_alloc, World.heap_drewN] at hc1 hf1 hz1); (try have hy1_00 : w.heap.size < w1.heap.size := by omega); (try have hn1_00 : w.heap.size ≠ w1.heap.size := by omega); (try have hm1_00 : w1.heap.size ≠ w.heap.size := by omega); (try have hp1_00 : w.heap.size < w1.heap.size + 1 := by omega); (try have hy1_01 : w.heap.size + 1 < w1.heap.size := by omega); (try have hn1_01 : w.heap.size + 1 ≠ w1.heap.size := by omega); (try have hm1_01 : w1.heap.size ≠ w.heap.size + 1 := by omega); (try have hp1_01 : w.heap.size + 1 < w1.heap.size + 1 := by omega); go_wp2_with fail)
          | (refine step_app _ (o := ⟨some 26, _, _, _, _, _⟩) (ys := [v]) rfl _ _ rfl rfl (OwnI.below ho1 (by (repeat' (first | (with_reducible exact Below.refl _ _) | (with_reducible assumption) | (with_reducible refine Below.drew ?_) | (with_reducible refine belowDrewN ?_ _) | (with_reducible refine Below.alloc ?_ ?_ _) | (with_reducible refine Below.setCell ?_ ?_ _) | (with_reducible refine belowStep (by assumption) ?_ ?_) | (with_reducible exact Below.size (by assumption)) | go_size)))) (1) (1) (by first | (simp; done) | (simp; omega)) rfl (Reads.oneAt (by (first | (first | (simp [*]; done) | (simp [go_sem, *]; done)) | exact (hc1 _ _ (by (first | (go_size; done) | ((try simp only [World.size_alloc, World.size_setCell, World.size_drew, World.heap_drewN]); omega)))).trans (litAt (by simp)) | exact litAt (by simp))) (by (first | (go_size; done) | ((try simp only [World.size_alloc, World.size_setCell, World.size_drew, World.heap_drewN]); omega)))) (by (try simp only [List.length_take, List.length_nil, List.length_cons]); omega) (by first | exact Nat.le_refl _ | ((try simp only [World.size_alloc, World.heap_drewN]); omega)) ?_; intro v3 w3 ho3 hb3 hg3 ht3; clear hg3 ht3; have hz3 := hb3.size; (try simp only [World.size_alloc] at hz3))
          | (refine step_app _ (o := ⟨some 30, _, _, _, _, _⟩) (ys := []) rfl _ _ rfl rfl (ho3) (0) ((cxs - xs.length)) (by first | (simp; done) | (simp; omega)) rfl (Reads.nil) (by (try simp only [List.length_append, List.length_take, List.length_nil, List.length_cons]); omega) (by first | exact Nat.le_refl _ | ((try simp only [World.size_alloc, World.heap_drewN]); omega)) ?_; intro v4 w4 ho4 hb4 hg4 ht4; clear hg4 ht4; have hz4 := hb4.size; (try simp only [World.size_alloc, World.size_setCell, World.size_drew, World.heap_drewN] at hz4)))
        all_goals
          go_wp2
          go_ret
          rw [Hput.out]
          exact ⟨v4, rfl, by simpa using ho4.mono (by (first | (go_size; done) | ((try simp only [World.size_alloc, World.size_setCell, World.size_drew, World.heap_drewN]); omega))), by (repeat' (first | (with_reducible exact Below.refl _ _) | (with_reducible assumption) | (with_reducible refine Below.drew ?_) | (with_reducible refine belowDrewN ?_ _) | (with_reducible refine Below.alloc ?_ ?_ _) | (with_reducible refine Below.setCell ?_ ?_ _) | (with_reducible refine belowStep (by assumption) ?_ ?_) | (with_reducible exact Below.size (by assumption)) | go_size))⟩
end Go.Proofs.YtbjblkfibinenadGreatDoor


/-
  The contract of the model's rounds that replace numbers which stand twice (under way).
-/
namespace Go.Proofs.YtbjblkfibinenadGreatDoor
open Go.RowKit
theorem small_last {zs : List Int} (hs : zs.Pairwise (· ≤ ·)) {k : Nat} {m : Int} (hk : zs.length = k + 1) (hm : zs[k]? = some m) : small zs = decide (m ≤ 1000000000) := by
  rw [Bool.eq_iff_iff, decide_eq_true_iff]
  unfold small
  rw [List.all_eq_true]
  constructor
  · intro h
    have := h m (List.mem_of_getElem? hm)
    simpa using this
  · intro h x hx
    obtain ⟨i, hi, rfl⟩ := List.mem_iff_getElem.1 hx
    have hkl : k < zs.length := by omega
    have hmk : zs[k] = m := by rw [List.getElem?_eq_getElem hkl] at hm; injection hm
    have : zs[i] ≤ zs[k] := by
      rcases Nat.lt_or_ge i k with h1 | h1
      · exact List.pairwise_iff_getElem.1 hs i k hi hkl h1
      · have : i = k := by omega
        subst this
        exact Int.le_refl _
    simp
    omega
theorem cut_sorted {xs : List Int} (h : xs.Pairwise (· ≤ ·)) (i j : Nat) (hij : i ≤ j) : (xs.take i ++ xs.drop j).Pairwise (· ≤ ·) := by
  refine List.Pairwise.sublist ?_ h
  have e : xs = xs.take i ++ xs.drop i := (List.take_append_drop i xs).symm
  conv => rhs; rw [e]
  refine List.Sublist.append (List.Sublist.refl _) ?_
  obtain ⟨k, rfl⟩ : ∃ k, j = i + k := ⟨j - i, by omega⟩
  rw [← List.drop_drop]
  exact List.drop_sublist _ _
/-- of the rounds that go on: the numbers stay in range -/
theorem round_in {xs : List Int} {i : Nat} {g : Int → Nat × List Int} (hg : ∀ d, 1 ≤ d → ∀ x ∈ (g d).2, 1 ≤ x) (h1 : ∀ x ∈ xs, 1 ≤ x) (hi : tw xs = some i) (hs : small (roundL g xs i) = true) : ∀ x ∈ roundL g xs i, 1 ≤ x ∧ x ≤ 1000000000 := by
  obtain ⟨d, hd, _⟩ := tw_at hi
  have hd1 := h1 d (List.mem_of_getElem? hd)
  intro x hx
  refine ⟨?_, ?_⟩
  · unfold roundL at hx
    rw [hd, Option.getD_some] at hx
    rcases List.mem_append.1 (srt_mem.1 hx) with h | h
    · rcases List.mem_append.1 h with h | h
      · exact h1 x (List.mem_of_mem_take h)
      · exact h1 x (List.mem_of_mem_drop h)
    · exact hg d hd1 x h
  · unfold small at hs
    have := List.all_eq_true.1 hs x hx
    simpa using this
theorem repP_in (d : Int) (h : 1 ≤ d) : ∀ x ∈ (repP d).2, 1 ≤ x := by
  intro x hx
  unfold repP at hx
  split at hx
  · simp at hx; omega
  · simp at hx
    have hp : 1 * 1 ≤ d * (d + 1) / 2 := by
      have : 2 ≤ d * (d + 1) := by
        have := Int.mul_le_mul h (by omega : 2 ≤ d + 1) (by omega) (by omega : (0 : Int) ≤ d)
        omega
      omega
    rcases hx with rfl | rfl <;> omega
theorem repS_in (d : Int) (h : 1 ≤ d) : ∀ x ∈ (repS d).2, 1 ≤ x := by
  intro x hx
  simp [repS] at hx
  have hp := mul_pos1 h (by omega : 1 ≤ d + 1)
  rcases hx with rfl | rfl <;> omega
theorem round_sorted (g : Int → Nat × List Int) (xs : List Int) (i : Nat) : (roundL g xs i).Pairwise (· ≤ ·) := srt_sorted _
end Go.Proofs.YtbjblkfibinenadGreatDoor


/-
  The contracts of the library's Delete at a list of the call's own, and of the two functions that say what replaces a number.
-/
namespace Go.Proofs.YtbjblkfibinenadGreatDoor
open Go.RowKit
open Go.Lib in
theorem delete_own (w : World) (base : Nat) (v : Value) (xs : List Int) (ho : OwnI w base v xs) (h0 : xs ≠ []) (i j : Nat) (hij : i ≤ j) (hj : j ≤ xs.length) : Calls Tryz.prog 147 #[v, .int .i64 i, .int .i64 j] w (fun e w' => ∃ v', e = .returned v' ∧ OwnI w' base v' (xs.take i ++ xs.drop j) ∧ w.grownBy w' v.ownBlock) := by
  have ho' := ho
  rcases ho.2 with ⟨_, hz⟩ | ⟨g, cap, cur, rfl, hbg, hg, hnc, hcm, hcs, ht⟩
  · exact absurd (List.eq_nil_of_length_eq_zero hz) h0
  · have hH := holds_of_blockI (ss := xs) hg (by simpa using ht)
    refine (Tryz.slices_Delete_int g 0 cap i j xs w hH hnc (by simpa [maxLen] using hcm) hij hj).mono ?_
    rintro e w' ⟨rfl, q, rfl⟩
    have hy : (xs.take i ++ xs.drop j ++ List.replicate (j - i) 0).length = xs.length := by
      rw [List.length_append, List.length_append, List.length_take, List.length_drop, List.length_replicate]; omega
    have hk : (xs.take i ++ xs.drop j).length = xs.length - (j - i) := by rw [List.length_append, List.length_take, List.length_drop]; omega
    have := ownsRow_putRow (k := xs.length - (j - i)) (q := q) ho' hy (by omega)
    rw [List.take_left' hk] at this
    have hgr := Go.grownBy_sortedI (w := w) (g := g) (n := q) (os := #[]) (xs.take i ++ xs.drop j ++ List.replicate (j - i) 0).toArray
    rw [Go.Sort.grow_empty] at hgr
    refine ⟨_, rfl, ?_, hgr⟩
    unfold OwnI
    rw [hk]
    exact this
/-- of a function that says what replaces a number -/
def RetG (g : Nat × List Int) (w : World) (e : Ending) (w' : World) : Prop := ∃ v, e = .returned (.tuple #[.int .i64 (g.1 : Int), v]) ∧ OwnI w' w.heap.size v g.2 ∧ Below w.heap.size w w'
set_option maxHeartbeats 2000000 in
theorem splitBy_any (w : World) (d : Int) (h1 : 1 ≤ d) (h2 : d ≤ 1000000000) : Calls Tryz.prog 152 #[.int .i64 d] w (RetG (repS d) w) := by
  have p1 : d * (d + 1) ≤ 1000000000 * 1000000001 := Int.mul_le_mul h2 (by omega) (by omega) (by omega)
  have p0 : 0 ≤ d * (d + 1) := Int.mul_nonneg (by omega) (by omega)
  have m1 : IntKind.i64.wrap (d + 1) = d + 1 := IntWalk.i64_in _ (by omega)
  have m2 : IntKind.i64.wrap (d * (d + 1)) = d * (d + 1) := IntWalk.i64_in _ (by omega)
  go_enter Tryz.func152, Tryz.ntmps152
  go_wp2
  go_ret2
  exact ⟨_, rfl, World.ownsRow_lit w #[.int .i64 (d + 1), .int .i64 (d * (d + 1))] 2 (Nat.le_refl _) (by unfold maxLen; omega) rfl, by (repeat' (first | (with_reducible exact Below.refl _ _) | (with_reducible assumption) | (with_reducible refine Below.drew ?_) | (with_reducible refine belowDrewN ?_ _) | (with_reducible refine Below.alloc ?_ ?_ _) | (with_reducible refine Below.setCell ?_ ?_ _) | (with_reducible refine belowStep (by assumption) ?_ ?_) | (with_reducible exact Below.size (by assumption)) | go_size))⟩
set_option maxHeartbeats 2000000 in
theorem pairBy_any (w : World) (d : Int) (h1 : 1 ≤ d) (h2 : d ≤ 1000000000) : Calls Tryz.prog 143 #[.int .i64 d] w (RetG (repP d) w) := by
  have p1 : d * (d + 1) ≤ 1000000000 * 1000000001 := Int.mul_le_mul h2 (by omega) (by omega) (by omega)
  have p0 : 0 ≤ d * (d + 1) := Int.mul_nonneg (by omega) (by omega)
  have m1 : IntKind.i64.wrap (d + 1) = d + 1 := IntWalk.i64_in _ (by omega)
  have m2 : IntKind.i64.wrap (d * (d + 1)) = d * (d + 1) := IntWalk.i64_in _ (by omega)
  have m3 : IntKind.i64.wrap ((d + 1).tdiv 2) = (d + 1) / 2 := by rw [Int.tdiv_eq_ediv_of_nonneg (by omega)]; exact IntWalk.i64_in _ (by omega)
  have m4 : IntKind.i64.wrap ((d * (d + 1)).tdiv 2) = d * (d + 1) / 2 := by rw [Int.tdiv_eq_ediv_of_nonneg p0]; exact IntWalk.i64_in _ (by omega)
  have m5 : IntKind.i64.wrap (d.tdiv 2) = d / 2 := by rw [Int.tdiv_eq_ediv_of_nonneg (by omega)]; exact IntWalk.i64_in _ (by omega)
  have m6 : d.tmod 2 = d % 2 := Int.tmod_eq_emod_of_nonneg (by omega)
  by_cases he : d % 2 = 0
  · have E : Hid (repP d = (2, [d / 2])) := Lib.hid (by unfold repP; rw [if_pos he])
    have he1 : (d % 2 == 0) = true := by simp [he]
    clear he
    go_enter Tryz.func143, Tryz.ntmps143
    go_wp2
    go_ret2
    rw [E.out]
    exact ⟨_, rfl, World.ownsRow_lit w #[.int .i64 (d / 2)] 1 (Nat.le_refl _) (by unfold maxLen; omega) rfl, by (repeat' (first | (with_reducible exact Below.refl _ _) | (with_reducible assumption) | (with_reducible refine Below.drew ?_) | (with_reducible refine belowDrewN ?_ _) | (with_reducible refine Below.alloc ?_ ?_ _) | (with_reducible refine Below.setCell ?_ ?_ _) | (with_reducible refine belowStep (by assumption) ?_ ?_) | (with_reducible exact Below.size (by assumption)) | go_size))⟩
  · have E : Hid (repP d = (2, [(d + 1) / 2, d * (d + 1) / 2])) := Lib.hid (by unfold repP; rw [if_neg he])
    have he1 : (d % 2 == 0) = false := by simp [he]
    clear he
    go_enter Tryz.func143, Tryz.ntmps143
    go_wp2
    go_ret2
    rw [E.out]
    exact ⟨_, rfl, World.ownsRow_lit w #[.int .i64 ((d + 1) / 2), .int .i64 (d * (d + 1) / 2)] 2 (Nat.le_refl _) (by unfold maxLen; omega) rfl, by (repeat' (first | (with_reducible exact Below.refl _ _) | (with_reducible assumption) | (with_reducible refine Below.drew ?_) | (with_reducible refine belowDrewN ?_ _) | (with_reducible refine Below.alloc ?_ ?_ _) | (with_reducible refine Below.setCell ?_ ?_ _) | (with_reducible refine belowStep (by assumption) ?_ ?_) | (with_reducible exact Below.size (by assumption)) | go_size))⟩
end Go.Proofs.YtbjblkfibinenadGreatDoor
