import Derived.Test.YtolgjokghecceaaGreatDoorPk34
import Derived.Test.YtolgjokghecceaaGreatDoorPk3
import Derived.Test.YtolgjokghecceaaGreatDoorPk12
import Derived.Test.YtolgjokghecceaaGreatDoorWalk
import Derived.Test.YtolgjokghecceaaGreatDoorPk15
import Derived.Test.YtolgjokghecceaaGreatDoorPk18
import Derived.Lib.OwnBridge

/-
  Contracts of the model's helpers on lists in which numbers stand twice.
-/
namespace Go.Proofs.YtolgjokghecceaaGreatDoor
open Go.RowKit
def twI (xs : List Int) : Int := match tw xs with | some i => (i : Int) | none => -1
theorem twI_some {xs : List Int} {i : Nat} (h : tw xs = some i) : twI xs = (i : Int) := by simp [twI, h]
theorem twI_none {xs : List Int} (h : tw xs = none) : twI xs = -1 := by simp [twI, h]
set_option maxHeartbeats 2000000 in
theorem meTwice_any (w : World) (Axs : Option Addr) (cxs : Nat) (xs : List Int) (hxs : Reads w Axs xs) (lxs : xs.length ≤ 1048576) : Calls Tryz.prog 99 #[.slice Axs xs.length cxs] w (RetQ (.int .i64 (twI xs)) w) := by
  have Hxs := Lib.hid hxs
  clear hxs
  go_enter Tryz.func99, Tryz.ntmps99
  go_wp2
  go_loopw [3] (fun v3 wr => ∃ k : Nat, k ≤ xs.length ∧ v3 = .int .i64 (k : Int) ∧ tw xs = (tw (xs.drop k)).map (· + k) ∧ ∃ n, wr = w.drewN n) (fun v3 _ => xs.length - (intOf v3).toNat)
  case atStart => exact ⟨0, Nat.zero_le _, rfl, by cases h : tw xs <;> simp [h], 0, rfl⟩
  case round =>
    obtain ⟨k, hk, rfl, ht, n, rfl⟩ := hrel
    have HT := Lib.hid ht
    clear ht
    by_cases hlt : k + 1 < xs.length
    · obtain ⟨b, o, x, y, rfl, hb, hx, hy, hcell, hcell2⟩ := Hxs.out.at2 (k := k) (j := k + 1) (by omega) hlt
      have hki : (k : Int) + 1 < (xs.length : Int) := by omega
      by_cases hxy : x = y
      · subst hxy
        have E : Hid (twI xs = (k : Int)) := Lib.hid (twI_some (by rw [HT.out, tw_hit hx hy]; simp))
        clear hx hy
        go_wp2
        go_quiet (fail)
        go_wp2
        go_ret
        exact ⟨ret_int E.out.symm, _, World.drewN_drewN _ _ _⟩
      · have E : Hid (tw xs = (tw (xs.drop (k + 1))).map (· + (k + 1))) := Lib.hid (by
          rw [HT.out, tw_miss hx hy hxy, Option.map_map]
          congr 1
          funext z
          simp; omega)
        have hne : (x == y) = false := by simp [hxy]
        clear hx hy hxy
        go_wp2
        go_quiet (fail)
        go_wp2
        go_roundw
        case rel => exact ⟨k + 1, by omega, by go_num, E.out, _, rfl⟩
        case measure => simp [intOf]; omega
    · have hki : ¬ (k : Int) + 1 < (xs.length : Int) := by omega
      have E : Hid (twI xs = -1) := Lib.hid (twI_none (by rw [HT.out, tw_end (by omega)]; rfl))
      go_wp2
      go_ret
      exact ⟨ret_int E.out.symm, n, rfl⟩
theorem litAt {W : World} {b : Nat} {u : Value} {T : TypeId} (hb : b = W.heap.size) : (W.alloc (.cells #[u] T)).cell? ⟨b, 0, none⟩ = some u := by
  subst hb
  simp
set_option maxHeartbeats 8000000 in
theorem mePut_any (w : World) (v : Int) (Axs : Option Addr) (cxs : Nat) (xs : List Int) (hxs : Reads w Axs xs) (lxs : xs.length ≤ 1048576) (hcap : xs.length ≤ cxs) : Calls Tryz.prog 101 #[.slice Axs xs.length cxs, .int .i64 v] w (RetL (putS xs v) w) := by
  have Hxs := Lib.hid hxs
  clear hxs
  go_enter Tryz.func101, Tryz.ntmps101
  go_wp2
  go_loopw [5] (fun v5 wr => ∃ k : Nat, k ≤ xs.length ∧ v5 = .int .i64 (k : Int) ∧ (∀ (i : Nat) (x : Int), i < k → xs[i]? = some x → x ≤ v) ∧ ∃ n, wr = w.drewN n) (fun v5 _ => xs.length - (intOf v5).toNat)
  case atStart => exact ⟨0, Nat.zero_le _, rfl, fun i x h => by omega, 0, rfl⟩
  case round =>
    obtain ⟨k, hk, rfl, hlow, n, rfl⟩ := hrel
    have Hlow := Lib.hid hlow
    clear hlow
    by_cases hlt : k < xs.length
    · obtain ⟨b, o, x, rfl, hb, hx, hcell⟩ := Hxs.out.at_ hlt
      have hki : (k : Int) < (xs.length : Int) := by omega
      by_cases hv : x ≤ v
      · have Hx := Lib.hid hx
        clear hx
        go_wp2
        go_roundw
        case rel => exact ⟨k + 1, by omega, by go_num, (fun i y hi hy => by
          rcases Nat.lt_or_eq_of_le (Nat.le_of_lt_succ hi) with h | h
          · exact Hlow.out i y h hy
          · subst h; rw [Hx.out] at hy; injection hy with hy; omega), n, rfl⟩
        case measure => simp [intOf]; omega
      · have Hput : Hid (putS xs v = xs.take k ++ [v] ++ xs.drop k) := Lib.hid (putS_at hk Hlow.out (fun y hy => by rw [hx] at hy; injection hy with hy; omega))
        have hvd : decide (x ≤ v) = false := decide_eq_false hv
        have hq1 : (k : Int) ≤ (cxs : Int) := by omega
        have hq2 : (k : Int) ≤ (xs.length : Int) := by omega
        have hq3 : (xs.length : Int) ≤ (cxs : Int) := by omega
        have hcp : ¬ cxs = k := by omega
        clear hx
        go_wp2
        go_region_law (first
          | (go_simp; go_at_call 100; refine (l1Own_n _ _ _ _ (xs.take (k)) (by rw [List.length_take]; omega) ((Hxs.out.below (by (repeat' (first | (with_reducible exact Below.refl _ _) | (with_reducible assumption) | (with_reducible refine Below.drew ?_) | (with_reducible refine belowDrewN ?_ _) | (with_reducible refine Below.alloc ?_ ?_ _) | (with_reducible refine Below.setCell ?_ ?_ _) | (with_reducible refine belowStep (by assumption) ?_ ?_) | (with_reducible exact Below.size (by assumption)) | go_size)))).cutTo (k)) (by omega)).mono ?_; rintro e w1 ⟨v1, rfl, ho1, hb1⟩; obtain ⟨hc1, hf1⟩ := bcellB hb1; have hz1 := hb1.size; (try simp only [World.size_alloc, World.size_setCell, World.size_drew, World.heap_drewN] at hc1 hf1 hz1); (try have hy1_00 : w.heap.size < w1.heap.size := by omega); (try have hn1_00 : w.heap.size ≠ w1.heap.size := by omega); (try have hm1_00 : w1.heap.size ≠ w.heap.size := by omega); (try have hp1_00 : w.heap.size < w1.heap.size + 1 := by omega); (try have hy1_01 : w.heap.size + 1 < w1.heap.size := by omega); (try have hn1_01 : w.heap.size + 1 ≠ w1.heap.size := by omega); (try have hm1_01 : w1.heap.size ≠ w.heap.size + 1 := by omega); (try have hp1_01 : w.heap.size + 1 < w1.heap.size + 1 := by omega); go_wp2_with fail)
          | (refine step_app _ (o := ⟨some 26, _, _, _, _, _⟩) (ys := [v]) rfl _ _ rfl rfl (OwnI.below ho1 (by (repeat' (first | (with_reducible exact Below.refl _ _) | (with_reducible assumption) | (with_reducible refine Below.drew ?_) | (with_reducible refine belowDrewN ?_ _) | (with_reducible refine Below.alloc ?_ ?_ _) | (with_reducible refine Below.setCell ?_ ?_ _) | (with_reducible refine belowStep (by assumption) ?_ ?_) | (with_reducible exact Below.size (by assumption)) | go_size)))) (1) (1) (by first | (simp; done) | (simp; omega)) rfl (Reads.oneAt (by (first | (first | (simp [*, World.cell?_alloc_some, World.cell?_setCell_far]; done) | (simp [go_sem, *]; done)) | exact (hc1 _ _ (by (first | (go_size; done) | ((try simp only [World.size_alloc, World.size_setCell, World.size_drew, World.heap_drewN]); omega)))).trans (litAt (by simp)) | exact litAt (by simp))) (by (first | (go_size; done) | ((try simp only [World.size_alloc, World.size_setCell, World.size_drew, World.heap_drewN]); omega)))) (by (try simp only [List.length_append, List.length_take, List.length_drop, List.length_nil, List.length_singleton, List.length_cons]); omega) (by first | exact Nat.le_refl _ | ((try simp only [World.size_alloc, World.size_setCell, World.size_drew, World.heap_drewN]); omega)) ?_; intro v3 w3 ho3 hb3 hg3 ht3; clear hg3 ht3; have hz3 := hb3.size; (try simp only [World.size_alloc, World.size_setCell, World.size_drew, World.heap_drewN] at hz3))
          | (refine step_app _ (o := ⟨some 30, _, _, _, _, _⟩) (ys := xs.drop k) rfl _ _ rfl rfl (ho3) ((xs.length - k)) ((cxs - k)) (by first | (simp; done) | (simp; omega)) rfl (Reads.cutS (Hxs.out.below (by (repeat' (first | (with_reducible exact Below.refl _ _) | (with_reducible assumption) | (with_reducible refine Below.drew ?_) | (with_reducible refine belowDrewN ?_ _) | (with_reducible refine Below.alloc ?_ ?_ _) | (with_reducible refine Below.setCell ?_ ?_ _) | (with_reducible refine belowStep (by assumption) ?_ ?_) | (with_reducible exact Below.size (by assumption)) | go_size))))) (by (try simp only [List.length_append, List.length_take, List.length_drop, List.length_nil, List.length_singleton, List.length_cons]); omega) (by first | exact Nat.le_refl _ | ((try simp only [World.size_alloc, World.size_setCell, World.size_drew, World.heap_drewN]); omega)) ?_; intro v4 w4 ho4 hb4 hg4 ht4; clear hg4 ht4; have hz4 := hb4.size; (try simp only [World.size_alloc, World.size_setCell, World.size_drew, World.heap_drewN] at hz4)))
        all_goals
          go_wp2
          go_ret
          rw [Hput.out]
          exact ⟨v4, rfl, by simpa using ho4.mono (by (first | (go_size; done) | ((try simp only [World.size_alloc, World.size_setCell, World.size_drew, World.heap_drewN]); omega))), by (repeat' (first | (with_reducible exact Below.refl _ _) | (with_reducible assumption) | (with_reducible refine Below.drew ?_) | (with_reducible refine belowDrewN ?_ _) | (with_reducible refine Below.alloc ?_ ?_ _) | (with_reducible refine Below.setCell ?_ ?_ _) | (with_reducible refine belowStep (by assumption) ?_ ?_) | (with_reducible exact Below.size (by assumption)) | go_size))⟩
    · obtain rfl : k = xs.length := by omega
      have Hput : Hid (putS xs v = xs.take xs.length ++ [v] ++ []) := Lib.hid (by
        have := putS_at (Nat.le_refl _) Hlow.out (fun y hy => by rw [List.getElem?_eq_none (Nat.le_refl _)] at hy; cases hy)
        rw [List.drop_length] at this
        exact this)
      have hq3 : (xs.length : Int) ≤ (cxs : Int) := by omega
      by_cases hcp : cxs = xs.length
      · subst hcp
        go_wp2
        go_region_law (first
          | (go_simp; go_at_call 100; refine (l1Own_n _ _ _ _ (xs.take (xs.length)) (by rw [List.length_take]; omega) ((Hxs.out.below (by (repeat' (first | (with_reducible exact Below.refl _ _) | (with_reducible assumption) | (with_reducible refine Below.drew ?_) | (with_reducible refine belowDrewN ?_ _) | (with_reducible refine Below.alloc ?_ ?_ _) | (with_reducible refine Below.setCell ?_ ?_ _) | (with_reducible refine belowStep (by assumption) ?_ ?_) | (with_reducible exact Below.size (by assumption)) | go_size)))).cutTo (xs.length)) (by omega)).mono ?_; rintro e w1 ⟨v1, rfl, ho1, hb1⟩; obtain ⟨hc1, hf1⟩ := bcellB hb1; have hz1 := hb1.size; (try simp only [World.size_alloc, World.size_setCell, World.size_drew, World.heap_drewN] at hc1 hf1 hz1); (try have hy1_00 : w.heap.size < w1.heap.size := by omega); (try have hn1_00 : w.heap.size ≠ w1.heap.size := by omega); (try have hm1_00 : w1.heap.size ≠ w.heap.size := by omega); (try have hp1_00 : w.heap.size < w1.heap.size + 1 := by omega); (try have hy1_01 : w.heap.size + 1 < w1.heap.size := by omega); (try have hn1_01 : w.heap.size + 1 ≠ w1.heap.size := by omega); (try have hm1_01 : w1.heap.size ≠ w.heap.size + 1 := by omega); (try have hp1_01 : w.heap.size + 1 < w1.heap.size + 1 := by omega); go_wp2_with fail)
          | (refine step_app _ (o := ⟨some 26, _, _, _, _, _⟩) (ys := [v]) rfl _ _ rfl rfl (OwnI.below ho1 (by (repeat' (first | (with_reducible exact Below.refl _ _) | (with_reducible assumption) | (with_reducible refine Below.drew ?_) | (with_reducible refine belowDrewN ?_ _) | (with_reducible refine Below.alloc ?_ ?_ _) | (with_reducible refine Below.setCell ?_ ?_ _) | (with_reducible refine belowStep (by assumption) ?_ ?_) | (with_reducible exact Below.size (by assumption)) | go_size)))) (1) (1) (by first | (simp; done) | (simp; omega)) rfl (Reads.oneAt (by (first | (first | (simp [*, World.cell?_alloc_some, World.cell?_setCell_far]; done) | (simp [go_sem, *]; done)) | exact (hc1 _ _ (by (first | (go_size; done) | ((try simp only [World.size_alloc, World.size_setCell, World.size_drew, World.heap_drewN]); omega)))).trans (litAt (by simp)) | exact litAt (by simp))) (by (first | (go_size; done) | ((try simp only [World.size_alloc, World.size_setCell, World.size_drew, World.heap_drewN]); omega)))) (by (try simp only [List.length_append, List.length_take, List.length_drop, List.length_nil, List.length_singleton, List.length_cons]); omega) (by first | exact Nat.le_refl _ | ((try simp only [World.size_alloc, World.size_setCell, World.size_drew, World.heap_drewN]); omega)) ?_; intro v3 w3 ho3 hb3 hg3 ht3; clear hg3 ht3; have hz3 := hb3.size; (try simp only [World.size_alloc, World.size_setCell, World.size_drew, World.heap_drewN] at hz3))
          | (refine step_app _ (o := ⟨some 30, _, _, _, _, _⟩) (ys := []) rfl _ _ rfl rfl (ho3) (0) (0) (by first | (simp; done) | (simp; omega)) rfl (Reads.nil) (by (try simp only [List.length_append, List.length_take, List.length_drop, List.length_nil, List.length_singleton, List.length_cons]); omega) (by first | exact Nat.le_refl _ | ((try simp only [World.size_alloc, World.size_setCell, World.size_drew, World.heap_drewN]); omega)) ?_; intro v4 w4 ho4 hb4 hg4 ht4; clear hg4 ht4; have hz4 := hb4.size; (try simp only [World.size_alloc, World.size_setCell, World.size_drew, World.heap_drewN] at hz4)))
        all_goals
          go_wp2
          go_ret
          rw [Hput.out]
          exact ⟨v4, rfl, by simpa using ho4.mono (by (first | (go_size; done) | ((try simp only [World.size_alloc, World.size_setCell, World.size_drew, World.heap_drewN]); omega))), by (repeat' (first | (with_reducible exact Below.refl _ _) | (with_reducible assumption) | (with_reducible refine Below.drew ?_) | (with_reducible refine belowDrewN ?_ _) | (with_reducible refine Below.alloc ?_ ?_ _) | (with_reducible refine Below.setCell ?_ ?_ _) | (with_reducible refine belowStep (by assumption) ?_ ?_) | (with_reducible exact Below.size (by assumption)) | go_size))⟩
      · go_wp2
        go_region_law (first
          | (go_simp; go_at_call 100; refine (l1Own_n _ _ _ _ (xs.take (xs.length)) (by rw [List.length_take]; omega) ((Hxs.out.below (by (repeat' (first | (with_reducible exact Below.refl _ _) | (with_reducible assumption) | (with_reducible refine Below.drew ?_) | (with_reducible refine belowDrewN ?_ _) | (with_reducible refine Below.alloc ?_ ?_ _) | (with_reducible refine Below.setCell ?_ ?_ _) | (with_reducible refine belowStep (by assumption) ?_ ?_) | (with_reducible exact Below.size (by assumption)) | go_size)))).cutTo (xs.length)) (by omega)).mono ?_; rintro e w1 ⟨v1, rfl, ho1, hb1⟩; obtain ⟨hc1, hf1⟩ := bcellB hb1; have hz1 := hb1.size; (try simp only [World.size_alloc, World.size_setCell, World.size_drew, World.heap_drewN] at hc1 hf1 hz1); (try have hy1_00 : w.heap.size < w1.heap.size := by omega); (try have hn1_00 : w.heap.size ≠ w1.heap.size := by omega); (try have hm1_00 : w1.heap.size ≠ w.heap.size := by omega); (try have hp1_00 : w.heap.size < w1.heap.size + 1 := by omega); (try have hy1_01 : w.heap.size + 1 < w1.heap.size := by omega); (try have hn1_01 : w.heap.size + 1 ≠ w1.heap.size := by omega); (try have hm1_01 : w1.heap.size ≠ w.heap.size + 1 := by omega); (try have hp1_01 : w.heap.size + 1 < w1.heap.size + 1 := by omega); go_wp2_with fail)
          | (refine step_app _ (o := ⟨some 26, _, _, _, _, _⟩) (ys := [v]) rfl _ _ rfl rfl (OwnI.below ho1 (by (repeat' (first | (with_reducible exact Below.refl _ _) | (with_reducible assumption) | (with_reducible refine Below.drew ?_) | (with_reducible refine belowDrewN ?_ _) | (with_reducible refine Below.alloc ?_ ?_ _) | (with_reducible refine Below.setCell ?_ ?_ _) | (with_reducible refine belowStep (by assumption) ?_ ?_) | (with_reducible exact Below.size (by assumption)) | go_size)))) (1) (1) (by first | (simp; done) | (simp; omega)) rfl (Reads.oneAt (by (first | (first | (simp [*, World.cell?_alloc_some, World.cell?_setCell_far]; done) | (simp [go_sem, *]; done)) | exact (hc1 _ _ (by (first | (go_size; done) | ((try simp only [World.size_alloc, World.size_setCell, World.size_drew, World.heap_drewN]); omega)))).trans (litAt (by simp)) | exact litAt (by simp))) (by (first | (go_size; done) | ((try simp only [World.size_alloc, World.size_setCell, World.size_drew, World.heap_drewN]); omega)))) (by (try simp only [List.length_append, List.length_take, List.length_drop, List.length_nil, List.length_singleton, List.length_cons]); omega) (by first | exact Nat.le_refl _ | ((try simp only [World.size_alloc, World.size_setCell, World.size_drew, World.heap_drewN]); omega)) ?_; intro v3 w3 ho3 hb3 hg3 ht3; clear hg3 ht3; have hz3 := hb3.size; (try simp only [World.size_alloc, World.size_setCell, World.size_drew, World.heap_drewN] at hz3))
          | (refine step_app _ (o := ⟨some 30, _, _, _, _, _⟩) (ys := []) rfl _ _ rfl rfl (ho3) (0) ((cxs - xs.length)) (by first | (simp; done) | (simp; omega)) rfl (Reads.nil) (by (try simp only [List.length_append, List.length_take, List.length_drop, List.length_nil, List.length_singleton, List.length_cons]); omega) (by first | exact Nat.le_refl _ | ((try simp only [World.size_alloc, World.size_setCell, World.size_drew, World.heap_drewN]); omega)) ?_; intro v4 w4 ho4 hb4 hg4 ht4; clear hg4 ht4; have hz4 := hb4.size; (try simp only [World.size_alloc, World.size_setCell, World.size_drew, World.heap_drewN] at hz4)))
        all_goals
          go_wp2
          go_ret
          rw [Hput.out]
          exact ⟨v4, rfl, by simpa using ho4.mono (by (first | (go_size; done) | ((try simp only [World.size_alloc, World.size_setCell, World.size_drew, World.heap_drewN]); omega))), by (repeat' (first | (with_reducible exact Below.refl _ _) | (with_reducible assumption) | (with_reducible refine Below.drew ?_) | (with_reducible refine belowDrewN ?_ _) | (with_reducible refine Below.alloc ?_ ?_ _) | (with_reducible refine Below.setCell ?_ ?_ _) | (with_reducible refine belowStep (by assumption) ?_ ?_) | (with_reducible exact Below.size (by assumption)) | go_size))⟩
end Go.Proofs.YtolgjokghecceaaGreatDoor


/-
  The contract of the model's rounds that replace numbers which stand twice (under way).
-/
namespace Go.Proofs.YtolgjokghecceaaGreatDoor
open Go.RowKit
theorem small_last {zs : List Int} (hs : zs.Pairwise (· ≤ ·)) {k : Nat} {m : Int} (hk : zs.length = k + 1) (hm : zs[k]? = some m) : small zs = decide (m ≤ 1000000000) := by
  rw [Bool.eq_iff_iff, decide_eq_true_iff]
  unfold small
  rw [List.all_eq_true]
  constructor
  · intro h
    have := h m (List.mem_of_getElem? hm)
    simpa using this
  · intro h x hx
    obtain ⟨i, hi, rfl⟩ := List.mem_iff_getElem.1 hx
    have hkl : k < zs.length := by omega
    have hmk : zs[k] = m := by rw [List.getElem?_eq_getElem hkl] at hm; injection hm
    have : zs[i] ≤ zs[k] := by
      rcases Nat.lt_or_ge i k with h1 | h1
      · exact List.pairwise_iff_getElem.1 hs i k hi hkl h1
      · have : i = k := by omega
        subst this
        exact Int.le_refl _
    simp
    omega
theorem cut_sorted {xs : List Int} (h : xs.Pairwise (· ≤ ·)) (i j : Nat) (hij : i ≤ j) : (xs.take i ++ xs.drop j).Pairwise (· ≤ ·) := by
  refine List.Pairwise.sublist ?_ h
  have e : xs = xs.take i ++ xs.drop i := (List.take_append_drop i xs).symm
  conv => rhs; rw [e]
  refine List.Sublist.append (List.Sublist.refl _) ?_
  obtain ⟨k, rfl⟩ : ∃ k, j = i + k := ⟨j - i, by omega⟩
  rw [← List.drop_drop]
  exact List.drop_sublist _ _
/-- of the rounds that go on: the numbers stay in range -/
theorem round_in {xs : List Int} {i : Nat} {g : Int → Nat × List Int} (hg : ∀ d, 1 ≤ d → ∀ x ∈ (g d).2, 1 ≤ x) (h1 : ∀ x ∈ xs, 1 ≤ x) (hi : tw xs = some i) (hs : small (roundL g xs i) = true) : ∀ x ∈ roundL g xs i, 1 ≤ x ∧ x ≤ 1000000000 := by
  obtain ⟨d, hd, _⟩ := tw_at hi
  have hd1 := h1 d (List.mem_of_getElem? hd)
  intro x hx
  refine ⟨?_, ?_⟩
  · unfold roundL at hx
    rw [hd, Option.getD_some] at hx
    rcases List.mem_append.1 (srt_mem.1 hx) with h | h
    · rcases List.mem_append.1 h with h | h
      · exact h1 x (List.mem_of_mem_take h)
      · exact h1 x (List.mem_of_mem_drop h)
    · exact hg d hd1 x h
  · unfold small at hs
    have := List.all_eq_true.1 hs x hx
    simpa using this
theorem repP_in (d : Int) (h : 1 ≤ d) : ∀ x ∈ (repP d).2, 1 ≤ x := by
  intro x hx
  unfold repP at hx
  split at hx
  · simp at hx; omega
  · simp at hx
    have hp : 1 * 1 ≤ d * (d + 1) / 2 := by
      have : 2 ≤ d * (d + 1) := by
        have := Int.mul_le_mul h (by omega : 2 ≤ d + 1) (by omega) (by omega : (0 : Int) ≤ d)
        omega
      omega
    rcases hx with rfl | rfl <;> omega
theorem repS_in (d : Int) (h : 1 ≤ d) : ∀ x ∈ (repS d).2, 1 ≤ x := by
  intro x hx
  simp [repS] at hx
  have hp := mul_pos1 h (by omega : 1 ≤ d + 1)
  rcases hx with rfl | rfl <;> omega
theorem round_sorted (g : Int → Nat × List Int) (xs : List Int) (i : Nat) : (roundL g xs i).Pairwise (· ≤ ·) := srt_sorted _
end Go.Proofs.YtolgjokghecceaaGreatDoor


/-
  The contracts of the library's Delete at a list of the call's own, and of the two functions that say what replaces a number.
-/
namespace Go.Proofs.YtolgjokghecceaaGreatDoor
open Go.RowKit
open Go.Lib in
theorem delete_own (w : World) (base : Nat) (v : Value) (xs : List Int) (ho : OwnI w base v xs) (h0 : xs ≠ []) (i j : Nat) (hij : i ≤ j) (hj : j ≤ xs.length) : Calls Tryz.prog 165 #[v, .int .i64 i, .int .i64 j] w (fun e w' => ∃ v', e = .returned v' ∧ OwnI w' base v' (xs.take i ++ xs.drop j) ∧ w.grownBy w' v.ownBlock) := by
  have ho' := ho
  rcases ho.2 with ⟨_, hz⟩ | ⟨g, cap, cur, rfl, hbg, hg, hnc, hcm, hcs, ht⟩
  · exact absurd (List.eq_nil_of_length_eq_zero hz) h0
  · have hH := holds_of_blockI (ss := xs) hg (by simpa using ht)
    refine (Tryz.slices_Delete_int g 0 cap i j xs w hH hnc (by simpa [maxLen] using hcm) hij hj).mono ?_
    rintro e w' ⟨rfl, q, rfl⟩
    have hy : (xs.take i ++ xs.drop j ++ List.replicate (j - i) 0).length = xs.length := by
      rw [List.length_append, List.length_append, List.length_take, List.length_drop, List.length_replicate]; omega
    have hk : (xs.take i ++ xs.drop j).length = xs.length - (j - i) := by rw [List.length_append, List.length_take, List.length_drop]; omega
    have := ownsRow_putRow (k := xs.length - (j - i)) (q := q) ho' hy (by omega)
    rw [List.take_left' hk] at this
    have hgr := Go.grownBy_sortedI (w := w) (g := g) (n := q) (os := #[]) (xs.take i ++ xs.drop j ++ List.replicate (j - i) 0).toArray
    rw [Go.Sort.grow_empty] at hgr
    refine ⟨_, rfl, ?_, hgr⟩
    unfold OwnI
    rw [hk]
    exact this
/-- of a function that says what replaces a number -/
def RetG (g : Nat × List Int) (w : World) (e : Ending) (w' : World) : Prop := ∃ v, e = .returned (.tuple #[.int .i64 (g.1 : Int), v]) ∧ OwnI w' w.heap.size v g.2 ∧ Below w.heap.size w w'
set_option maxHeartbeats 2000000 in
theorem splitBy_any (w : World) (d : Int) (h1 : 1 ≤ d) (h2 : d ≤ 1000000000) : Calls Tryz.prog 170 #[.int .i64 d] w (RetG (repS d) w) := by
  have p1 : d * (d + 1) ≤ 1000000000 * 1000000001 := Int.mul_le_mul h2 (by omega) (by omega) (by omega)
  have p0 : 0 ≤ d * (d + 1) := Int.mul_nonneg (by omega) (by omega)
  have m1 : IntKind.i64.wrap (d + 1) = d + 1 := IntWalk.i64_in _ (by omega)
  have m2 : IntKind.i64.wrap (d * (d + 1)) = d * (d + 1) := IntWalk.i64_in _ (by omega)
  go_enter Tryz.func170, Tryz.ntmps170
  go_wp2
  go_ret2
  exact ⟨_, rfl, World.ownsRow_lit w #[.int .i64 (d + 1), .int .i64 (d * (d + 1))] 2 (Nat.le_refl _) (by unfold maxLen; omega) rfl, by (repeat' (first | (with_reducible exact Below.refl _ _) | (with_reducible assumption) | (with_reducible refine Below.drew ?_) | (with_reducible refine belowDrewN ?_ _) | (with_reducible refine Below.alloc ?_ ?_ _) | (with_reducible refine Below.setCell ?_ ?_ _) | (with_reducible refine belowStep (by assumption) ?_ ?_) | (with_reducible exact Below.size (by assumption)) | go_size))⟩
set_option maxHeartbeats 2000000 in
theorem pairBy_any (w : World) (d : Int) (h1 : 1 ≤ d) (h2 : d ≤ 1000000000) : Calls Tryz.prog 161 #[.int .i64 d] w (RetG (repP d) w) := by
  have p1 : d * (d + 1) ≤ 1000000000 * 1000000001 := Int.mul_le_mul h2 (by omega) (by omega) (by omega)
  have p0 : 0 ≤ d * (d + 1) := Int.mul_nonneg (by omega) (by omega)
  have m1 : IntKind.i64.wrap (d + 1) = d + 1 := IntWalk.i64_in _ (by omega)
  have m2 : IntKind.i64.wrap (d * (d + 1)) = d * (d + 1) := IntWalk.i64_in _ (by omega)
  have m3 : IntKind.i64.wrap ((d + 1).tdiv 2) = (d + 1) / 2 := by rw [Int.tdiv_eq_ediv_of_nonneg (by omega)]; exact IntWalk.i64_in _ (by omega)
  have m4 : IntKind.i64.wrap ((d * (d + 1)).tdiv 2) = d * (d + 1) / 2 := by rw [Int.tdiv_eq_ediv_of_nonneg p0]; exact IntWalk.i64_in _ (by omega)
  have m5 : IntKind.i64.wrap (d.tdiv 2) = d / 2 := by rw [Int.tdiv_eq_ediv_of_nonneg (by omega)]; exact IntWalk.i64_in _ (by omega)
  have m6 : d.tmod 2 = d % 2 := Int.tmod_eq_emod_of_nonneg (by omega)
  by_cases he : d % 2 = 0
  · have E : Hid (repP d = (2, [d / 2])) := Lib.hid (by unfold repP; rw [if_pos he])
    have he1 : (d % 2 == 0) = true := by simp [he]
    clear he
    go_enter Tryz.func161, Tryz.ntmps161
    go_wp2
    go_ret2
    rw [E.out]
    exact ⟨_, rfl, World.ownsRow_lit w #[.int .i64 (d / 2)] 1 (Nat.le_refl _) (by unfold maxLen; omega) rfl, by (repeat' (first | (with_reducible exact Below.refl _ _) | (with_reducible assumption) | (with_reducible refine Below.drew ?_) | (with_reducible refine belowDrewN ?_ _) | (with_reducible refine Below.alloc ?_ ?_ _) | (with_reducible refine Below.setCell ?_ ?_ _) | (with_reducible refine belowStep (by assumption) ?_ ?_) | (with_reducible exact Below.size (by assumption)) | go_size))⟩
  · have E : Hid (repP d = (2, [(d + 1) / 2, d * (d + 1) / 2])) := Lib.hid (by unfold repP; rw [if_neg he])
    have he1 : (d % 2 == 0) = false := by simp [he]
    clear he
    go_enter Tryz.func161, Tryz.ntmps161
    go_wp2
    go_ret2
    rw [E.out]
    exact ⟨_, rfl, World.ownsRow_lit w #[.int .i64 ((d + 1) / 2), .int .i64 (d * (d + 1) / 2)] 2 (Nat.le_refl _) (by unfold maxLen; omega) rfl, by (repeat' (first | (with_reducible exact Below.refl _ _) | (with_reducible assumption) | (with_reducible refine Below.drew ?_) | (with_reducible refine belowDrewN ?_ _) | (with_reducible refine Below.alloc ?_ ?_ _) | (with_reducible refine Below.setCell ?_ ?_ _) | (with_reducible refine belowStep (by assumption) ?_ ?_) | (with_reducible exact Below.size (by assumption)) | go_size))⟩
end Go.Proofs.YtolgjokghecceaaGreatDoor
