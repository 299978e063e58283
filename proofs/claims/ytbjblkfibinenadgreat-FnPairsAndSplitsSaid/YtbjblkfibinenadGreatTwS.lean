
/-
  Contracts of the model's helpers on lists in which numbers stand twice.
-/
import Derived.Test.YtbjblkfibinenadGreatTwP
import Derived.Test.YtbjblkfibinenadGreatOwn
import Derived.Test.YtbjblkfibinenadGreatRepl
import Derived.Test.YtbjblkfibinenadGreatWalk
namespace Go.Proofs.YtbjblkfibinenadGreat
open Go.RowKit
def twI (xs : List Int) : Int := match tw xs with | some i => (i : Int) | none => -1
theorem twI_some {xs : List Int} {i : Nat} (h : tw xs = some i) : twI xs = (i : Int) := by simp [twI, h]
theorem twI_none {xs : List Int} (h : tw xs = none) : twI xs = -1 := by simp [twI, h]
set_option maxHeartbeats 2000000 in
theorem meTwice_any (w : World) (Axs : Option Addr) (cxs : Nat) (xs : List Int) (hxs : Reads w Axs xs) (lxs : xs.length ≤ 1048576) : Calls Tryz.prog 68 #[.slice Axs xs.length cxs] w (RetQ (.int .i64 (twI xs)) w) := by
  have Hxs := Lib.hid hxs
  clear hxs
  go_enter Tryz.func68, Tryz.ntmps68
  go_wp2
  go_loopw [3] (fun v3 wr => ∃ k : Nat, k ≤ xs.length ∧ v3 = .int .i64 (k : Int) ∧ tw xs = (tw (xs.drop k)).map (· + k) ∧ ∃ n, wr = w.drewN n) (fun v3 _ => xs.length - (intOf v3).toNat)
  case atStart => exact ⟨0, Nat.zero_le _, rfl, by cases h : tw xs <;> simp [h], 0, rfl⟩
  case round =>
    obtain ⟨k, hk, rfl, ht, n, rfl⟩ := hrel
    have HT := Lib.hid ht
    clear ht
    by_cases hlt : k + 1 < xs.length
    · obtain ⟨b, o, x, y, rfl, hb, hx, hy, hcell, hcell2⟩ := Hxs.out.at2 (k := k) (j := k + 1) (by omega) hlt
      have hki : (k : Int) + 1 < (xs.length : Int) := by omega
      by_cases hxy : x = y
      · subst hxy
        have E : Hid (twI xs = (k : Int)) := Lib.hid (twI_some (by rw [HT.out, tw_hit hx hy]; simp))
        clear hx hy
        go_wp2
        go_quiet (fail)
        go_wp2
        go_ret
        exact ⟨ret_int E.out.symm, _, World.drewN_drewN _ _ _⟩
      · have E : Hid (tw xs = (tw (xs.drop (k + 1))).map (· + (k + 1))) := Lib.hid (by
          rw [HT.out, tw_miss hx hy hxy, Option.map_map]
          congr 1
          funext z
          simp; omega)
        have hne : (x == y) = false := by simp [hxy]
        clear hx hy hxy
        go_wp2
        go_quiet (fail)
        go_wp2
        go_roundw
        case rel => exact ⟨k + 1, by omega, by go_num, E.out, _, rfl⟩
        case measure => simp [intOf]; omega
    · have hki : ¬ (k : Int) + 1 < (xs.length : Int) := by omega
      have E : Hid (twI xs = -1) := Lib.hid (twI_none (by rw [HT.out, tw_end (by omega)]; rfl))
      go_wp2
      go_ret
      exact ⟨ret_int E.out.symm, n, rfl⟩
theorem litAt {W : World} {b : Nat} {u : Value} {T : TypeId} (hb : b = W.heap.size) : (W.alloc (.cells #[u] T)).cell? ⟨b, 0, none⟩ = some u := by
  subst hb
  simp
set_option maxHeartbeats 8000000 in
theorem mePut_any (w : World) (v : Int) (Axs : Option Addr) (cxs : Nat) (xs : List Int) (hxs : Reads w Axs xs) (lxs : xs.length ≤ 1048576) (hcap : xs.length ≤ cxs) : Calls Tryz.prog 70 #[.slice Axs xs.length cxs, .int .i64 v] w (RetL (putS xs v) w) := by
  have Hxs := Lib.hid hxs
  clear hxs
  go_enter Tryz.func70, Tryz.ntmps70
  go_wp2
  go_loopw [5] (fun v5 wr => ∃ k : Nat, k ≤ xs.length ∧ v5 = .int .i64 (k : Int) ∧ (∀ (i : Nat) (x : Int), i < k → xs[i]? = some x → x ≤ v) ∧ ∃ n, wr = w.drewN n) (fun v5 _ => xs.length - (intOf v5).toNat)
  case atStart => exact ⟨0, Nat.zero_le _, rfl, fun i x h => by omega, 0, rfl⟩
  case round =>
    obtain ⟨k, hk, rfl, hlow, n, rfl⟩ := hrel
    have Hlow := Lib.hid hlow
    clear hlow
    by_cases hlt : k < xs.length
    · obtain ⟨b, o, x, rfl, hb, hx, hcell⟩ := Hxs.out.at_ hlt
      have hki : (k : Int) < (xs.length : Int) := by omega
      by_cases hv : x ≤ v
      · have Hx := Lib.hid hx
        clear hx
        go_wp2
        go_roundw
        case rel => exact ⟨k + 1, by omega, by go_num, (fun i y hi hy => by
          rcases Nat.lt_or_eq_of_le (Nat.le_of_lt_succ hi) with h | h
          · exact Hlow.out i y h hy
          · subst h; rw [Hx.out] at hy; injection hy with hy; omega), n, rfl⟩
        case measure => simp [intOf]; omega
      · have Hput : Hid (putS xs v = xs.take k ++ [v] ++ xs.drop k) := Lib.hid (putS_at hk Hlow.out (fun y hy => by rw [hx] at hy; injection hy with hy; omega))
        have hvd : decide (x ≤ v) = false := decide_eq_false hv
        have hq1 : (k : Int) ≤ (cxs : Int) := by omega
        have hq2 : (k : Int) ≤ (xs.length : Int) := by omega
        have hq3 : (xs.length : Int) ≤ (cxs : Int) := by omega
        have hcp : ¬ cxs = k := by omega
        clear hx
        go_wp2
        go_region_law (first
          | (go_simp; go_at_call 69; refine (l1Own_n _ _ _ _ (xs.take (k)) (by rw [List.length_take]; omega) ((Hxs.out.below (by (repeat' (first | (with_reducible exact Below.refl _ _) | (with_reducible assumption) | (with_reducible refine Below.drew ?_) | (with_reducible refine belowDrewN ?_ _) | (with_reducible refine Below.alloc ?_ ?_ _) | (with_reducible refine Below.setCell ?_ ?_ _) | (with_reducible refine belowStep (by assumption) ?_ ?_) | (with_reducible exact Below.size (by assumption)) | go_size)))).cutTo (k)) (by omega)).mono ?_; rintro e w1 ⟨v1, rfl, ho1, hb1⟩; obtain ⟨hc1, hf1⟩ := bcellB hb1; have hz1 := hb1.size; (try simp only [World.size_alloc, World.heap_drewN] at hc1 hf1 hz1); (try have hy1_00 : w.heap.size < w1.heap.size := by omega); (try have hn1_00 : w.heap.size ≠ w1.heap.size := by omega); (try have hm1_00 : w1.heap.size ≠ w.heap.size := by omega); (try have hp1_00 : w.heap.size < w1.heap.size + 1 := by omega); (try have hy1_01 : w.heap.size + 1 < w1.heap.size := by omega); (try have hn1_01 : w.heap.size + 1 ≠ w1.heap.size := by omega); (try have hm1_01 : w1.heap.size ≠ w.heap.size + 1 := by omega); (try have hp1_01 : w.heap.size + 1 < w1.heap.size + 1 := by omega); go_wp2_with fail)
          | (refine step_app _ (o := ⟨some 26, _, _, _, _, _⟩) (ys := [v]) rfl _ _ rfl rfl (OwnI.below ho1 (by (repeat' (first | (with_reducible exact Below.refl _ _) | (with_reducible assumption) | (with_reducible refine Below.drew ?_) | (with_reducible refine belowDrewN ?_ _) | (with_reducible refine Below.alloc ?_ ?_ _) | (with_reducible refine Below.setCell ?_ ?_ _) | (with_reducible refine belowStep (by assumption) ?_ ?_) | (with_reducible exact Below.size (by assumption)) | go_size)))) (1) (1) (by first | (simp; done) | (simp; omega)) rfl (Reads.oneAt (by (first | (first | (simp [*]; done) | (simp [go_sem, *]; done)) | exact (hc1 _ _ (by (first | (go_size; done) | ((try simp only [World.size_alloc, World.size_setCell, World.size_drew, World.heap_drewN]); omega)))).trans (litAt (by simp)) | exact litAt (by simp))) (by (first | (go_size; done) | ((try simp only [World.size_alloc, World.size_setCell, World.size_drew, World.heap_drewN]); omega)))) (by (try simp only [List.length_take, List.length_nil, List.length_cons]); omega) (by first | exact Nat.le_refl _ | ((try simp only [World.size_alloc, World.heap_drewN]); omega)) ?_; intro v3 w3 ho3 hb3 hg3 ht3; clear hg3 ht3; have hz3 := hb3.size; (try simp only [World.size_alloc] at hz3))
          | (refine step_app _ (o := ⟨some 30, _, _, _, _, _⟩) (ys := xs.drop k) rfl _ _ rfl rfl (ho3) ((xs.length - k)) ((cxs - k)) (by first | (simp; done) | (simp; omega)) rfl (Reads.cutS (Hxs.out.below (by (repeat' (first | (with_reducible exact Below.refl _ _) | (with_reducible assumption) | (with_reducible refine Below.drew ?_) | (with_reducible refine belowDrewN ?_ _) | (with_reducible refine Below.alloc ?_ ?_ _) | (with_reducible refine Below.setCell ?_ ?_ _) | (with_reducible refine belowStep (by assumption) ?_ ?_) | (with_reducible exact Below.size (by assumption)) | go_size))))) (by (try simp only [List.length_append, List.length_take, List.length_drop, List.length_nil, List.length_cons]); omega) (by first | exact Nat.le_refl _ | ((try simp only [World.size_alloc, World.heap_drewN]); omega)) ?_; intro v4 w4 ho4 hb4 hg4 ht4; clear hg4 ht4; have hz4 := hb4.size; (try simp only [World.size_alloc, World.size_setCell, World.size_drew, World.heap_drewN] at hz4)))
        all_goals
          go_wp2
          go_ret
          rw [Hput.out]
          exact ⟨v4, rfl, by simpa using ho4.mono (by (first | (go_size; done) | ((try simp only [World.size_alloc, World.size_setCell, World.size_drew, World.heap_drewN]); omega))), by (repeat' (first | (with_reducible exact Below.refl _ _) | (with_reducible assumption) | (with_reducible refine Below.drew ?_) | (with_reducible refine belowDrewN ?_ _) | (with_reducible refine Below.alloc ?_ ?_ _) | (with_reducible refine Below.setCell ?_ ?_ _) | (with_reducible refine belowStep (by assumption) ?_ ?_) | (with_reducible exact Below.size (by assumption)) | go_size))⟩
    · obtain rfl : k = xs.length := by omega
      have Hput : Hid (putS xs v = xs.take xs.length ++ [v] ++ []) := Lib.hid (by
        have := putS_at (Nat.le_refl _) Hlow.out (fun y hy => by rw [List.getElem?_eq_none (Nat.le_refl _)] at hy; cases hy)
        rw [List.drop_length] at this
        exact this)
      have hq3 : (xs.length : Int) ≤ (cxs : Int) := by omega
      by_cases hcp : cxs = xs.length
      · subst hcp
        go_wp2
        go_region_law (first
          | (go_simp; go_at_call 69; refine (l1Own_n _ _ _ _ (xs.take (xs.length)) (by rw [List.length_take]; omega) ((Hxs.out.below (by (repeat' (first | (with_reducible exact Below.refl _ _) | (with_reducible assumption) | (with_reducible refine Below.drew ?_) | (with_reducible refine belowDrewN ?_ _) | (with_reducible refine Below.alloc ?_ ?_ _) | (with_reducible refine Below.setCell ?_ ?_ _) | (with_reducible refine belowStep (by assumption) ?_ ?_) | (with_reducible exact Below.size (by assumption)) | go_size)))).cutTo (xs.length)) (by omega)).mono ?_; rintro e w1 ⟨v1, rfl, ho1, hb1⟩; obtain ⟨hc1, hf1⟩ := bcellB hb1; have hz1 := hb1.size; (try simp only [World.size_alloc, World.heap_drewN] at hc1 hf1 hz1); (try have hy1_00 : w.heap.size < w1.heap.size := by omega); (try have hn1_00 : w.heap.size ≠ w1.heap.size := by omega); (try have hm1_00 : w1.heap.size ≠ w.heap.size := by omega); (try have hp1_00 : w.heap.size < w1.heap.size + 1 := by omega); (try have hy1_01 : w.heap.size + 1 < w1.heap.size := by omega); (try have hn1_01 : w.heap.size + 1 ≠ w1.heap.size := by omega); (try have hm1_01 : w1.heap.size ≠ w.heap.size + 1 := by omega); (try have hp1_01 : w.heap.size + 1 < w1.heap.size + 1 := by omega); go_wp2_with fail)
          | (refine step_app _ (o := ⟨some 26, _, _, _, _, _⟩) (ys := [v]) rfl _ _ rfl rfl (OwnI.below ho1 (by (repeat' (first | (with_reducible exact Below.refl _ _) | (with_reducible assumption) | (with_reducible refine Below.drew ?_) | (with_reducible refine belowDrewN ?_ _) | (with_reducible refine Below.alloc ?_ ?_ _) | (with_reducible refine Below.setCell ?_ ?_ _) | (with_reducible refine belowStep (by assumption) ?_ ?_) | (with_reducible exact Below.size (by assumption)) | go_size)))) (1) (1) (by first | (simp; done) | (simp; omega)) rfl (Reads.oneAt (by (first | (first | (simp [*]; done) | (simp [go_sem, *]; done)) | exact (hc1 _ _ (by (first | (go_size; done) | ((try simp only [World.size_alloc, World.size_setCell, World.size_drew, World.heap_drewN]); omega)))).trans (litAt (by simp)) | exact litAt (by simp))) (by (first | (go_size; done) | ((try simp only [World.size_alloc, World.size_setCell, World.size_drew, World.heap_drewN]); omega)))) (by (try simp only [List.length_take, List.length_nil, List.length_cons]); omega) (by first | exact Nat.le_refl _ | ((try simp only [World.size_alloc, World.heap_drewN]); omega)) ?_; intro v3 w3 ho3 hb3 hg3 ht3; clear hg3 ht3; have hz3 := hb3.size; (try simp only [World.size_alloc] at hz3))
          | (refine step_app _ (o := ⟨some 30, _, _, _, _, _⟩) (ys := []) rfl _ _ rfl rfl (ho3) (0) (0) (by first | (simp; done) | (simp; omega)) rfl (Reads.nil) (by (try simp only [List.length_append, List.length_take, List.length_nil, List.length_cons]); omega) (by first | exact Nat.le_refl _ | ((try simp only [World.size_alloc, World.heap_drewN]); omega)) ?_; intro v4 w4 ho4 hb4 hg4 ht4; clear hg4 ht4; have hz4 := hb4.size; (try simp only [World.size_alloc, World.size_setCell, World.size_drew, World.heap_drewN] at hz4)))
        all_goals
          go_wp2
          go_ret
          rw [Hput.out]
          exact ⟨v4, rfl, by simpa using ho4.mono (by (first | (go_size; done) | ((try simp only [World.size_alloc, World.size_setCell, World.size_drew, World.heap_drewN]); omega))), by (repeat' (first | (with_reducible exact Below.refl _ _) | (with_reducible assumption) | (with_reducible refine Below.drew ?_) | (with_reducible refine belowDrewN ?_ _) | (with_reducible refine Below.alloc ?_ ?_ _) | (with_reducible refine Below.setCell ?_ ?_ _) | (with_reducible refine belowStep (by assumption) ?_ ?_) | (with_reducible exact Below.size (by assumption)) | go_size))⟩
      · go_wp2
        go_region_law (first
          | (go_simp; go_at_call 69; refine (l1Own_n _ _ _ _ (xs.take (xs.length)) (by rw [List.length_take]; omega) ((Hxs.out.below (by (repeat' (first | (with_reducible exact Below.refl _ _) | (with_reducible assumption) | (with_reducible refine Below.drew ?_) | (with_reducible refine belowDrewN ?_ _) | (with_reducible refine Below.alloc ?_ ?_ _) | (with_reducible refine Below.setCell ?_ ?_ _) | (with_reducible refine belowStep (by assumption) ?_ ?_) | (with_reducible exact Below.size (by assumption)) | go_size)))).cutTo (xs.length)) (by omega)).mono ?_; rintro e w1 ⟨v1, rfl, ho1, hb1⟩; obtain ⟨hc1, hf1⟩ := bcellB hb1; have hz1 := hb1.size; (try simp only [World.size_alloc, World.heap_drewN] at hc1 hf1 hz1); (try have hy1_00 : w.heap.size < w1.heap.size := by omega); (try have hn1_00 : w.heap.size ≠ w1.heap.size := by omega); (try have hm1_00 : w1.heap.size ≠ w.heap.size := by omega); (try have hp1_00 : w.heap.size < w1.heap.size + 1 := by omega); (try have hy1_01 : w.heap.size + 1 < w1.heap.size := by omega); (try have hn1_01 : w.heap.size + 1 ≠ w1.heap.size := by omega); (try have hm1_01 : w1.heap.size ≠ w.heap.size + 1 := by omega); (try have hp1_01 : w.heap.size + 1 < w1.heap.size + 1 := by omega); go_wp2_with fail)
          | (refine step_app _ (o := ⟨some 26, _, _, _, _, _⟩) (ys := [v]) rfl _ _ rfl rfl (OwnI.below ho1 (by (repeat' (first | (with_reducible exact Below.refl _ _) | (with_reducible assumption) | (with_reducible refine Below.drew ?_) | (with_reducible refine belowDrewN ?_ _) | (with_reducible refine Below.alloc ?_ ?_ _) | (with_reducible refine Below.setCell ?_ ?_ _) | (with_reducible refine belowStep (by assumption) ?_ ?_) | (with_reducible exact Below.size (by assumption)) | go_size)))) (1) (1) (by first | (simp; done) | (simp; omega)) rfl (Reads.oneAt (by (first | (first | (simp [*]; done) | (simp [go_sem, *]; done)) | exact (hc1 _ _ (by (first | (go_size; done) | ((try simp only [World.size_alloc, World.size_setCell, World.size_drew, World.heap_drewN]); omega)))).trans (litAt (by simp)) | exact litAt (by simp))) (by (first | (go_size; done) | ((try simp only [World.size_alloc, World.size_setCell, World.size_drew, World.heap_drewN]); omega)))) (by (try simp only [List.length_take, List.length_nil, List.length_cons]); omega) (by first | exact Nat.le_refl _ | ((try simp only [World.size_alloc, World.heap_drewN]); omega)) ?_; intro v3 w3 ho3 hb3 hg3 ht3; clear hg3 ht3; have hz3 := hb3.size; (try simp only [World.size_alloc] at hz3))
          | (refine step_app _ (o := ⟨some 30, _, _, _, _, _⟩) (ys := []) rfl _ _ rfl rfl (ho3) (0) ((cxs - xs.length)) (by first | (simp; done) | (simp; omega)) rfl (Reads.nil) (by (try simp only [List.length_append, List.length_take, List.length_nil, List.length_cons]); omega) (by first | exact Nat.le_refl _ | ((try simp only [World.size_alloc, World.heap_drewN]); omega)) ?_; intro v4 w4 ho4 hb4 hg4 ht4; clear hg4 ht4; have hz4 := hb4.size; (try simp only [World.size_alloc, World.size_setCell, World.size_drew, World.heap_drewN] at hz4)))
        all_goals
          go_wp2
          go_ret
          rw [Hput.out]
          exact ⟨v4, rfl, by simpa using ho4.mono (by (first | (go_size; done) | ((try simp only [World.size_alloc, World.size_setCell, World.size_drew, World.heap_drewN]); omega))), by (repeat' (first | (with_reducible exact Below.refl _ _) | (with_reducible assumption) | (with_reducible refine Below.drew ?_) | (with_reducible refine belowDrewN ?_ _) | (with_reducible refine Below.alloc ?_ ?_ _) | (with_reducible refine Below.setCell ?_ ?_ _) | (with_reducible refine belowStep (by assumption) ?_ ?_) | (with_reducible exact Below.size (by assumption)) | go_size))⟩
end Go.Proofs.YtbjblkfibinenadGreat
