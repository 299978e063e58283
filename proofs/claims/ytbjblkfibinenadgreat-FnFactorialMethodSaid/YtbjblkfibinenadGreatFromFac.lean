
/-
  Contracts of the fraction with given digits by factorials, in the program and in the model.
-/
import Derived.Test.YtbjblkfibinenadGreatFacC
import Derived.Test.YtbjblkfibinenadGreatArith
import Derived.Test.YtbjblkfibinenadGreatReduce
import Derived.Test.YtbjblkfibinenadGreatIfExp
namespace Go.Proofs.YtbjblkfibinenadGreat
open Go.RowKit
theorem ff_pre {xs : List Int} {k : Nat} (hk : k ≤ xs.length) (h11 : k ≤ 11) (h : ∀ (i : Nat) (x : Int), i < k → xs[i]? = some x → 0 ≤ x ∧ x ≤ (i : Int) + 1) : 0 ≤ ffN (xs.take k) ∧ ffN (xs.take k) < ffD (xs.take k) ∧ 1 ≤ ffD (xs.take k) ∧ ffD (xs.take k) ≤ 479001600 := by
  have hl : (xs.take k).length = k := by rw [List.length_take]; omega
  have h1 := ffN_bound (xs.take k) (fun i x hx => by
    have hik : i < k := by have := (List.getElem?_eq_some_iff.1 hx).1; omega
    rw [List.getElem?_take_of_lt hik] at hx
    exact h i x hik hx) k (by omega)
  have h2 := ffD_in (ds := xs.take k) (by omega)
  rw [List.take_of_length_le (show (xs.take k).length ≤ k by omega)] at h1
  exact ⟨h1.1, h1.2, h2.1, h2.2⟩
theorem ff_next {xs : List Int} {k : Nat} {x : Int} (hk : k < xs.length) (hx : xs[k]? = some x) : xs.take (k + 1) = xs.take k ++ [x] ∧ ffN (xs.take (k + 1)) = ffN (xs.take k) * ((k : Int) + 2) + x ∧ ffD (xs.take (k + 1)) = ffD (xs.take k) * ((k : Int) + 2) ∧ ffD (xs.take (k + 1)) = fac (k + 2) := by
  have hl : (xs.take k).length = k := by rw [List.length_take]; omega
  have e : xs.take (k + 1) = xs.take k ++ [x] := by rw [List.take_add_one, hx]; rfl
  have hl2 : (xs.take (k + 1)).length = k + 1 := by rw [List.length_take]; omega
  refine ⟨e, ?_, ?_, by unfold ffD; rw [hl2]⟩
  · rw [e, ffN_snoc, hl]; congr 1
  · rw [e, ffD_snoc, hl]; congr 1
theorem ff_more {xs : List Int} {k : Nat} {x : Int} (h : ∀ (i : Nat) (y : Int), i < k → xs[i]? = some y → 0 ≤ y ∧ y ≤ (i : Int) + 1) (hx : xs[k]? = some x) (h2 : 0 ≤ x ∧ x ≤ (k : Int) + 1) : ∀ (i : Nat) (y : Int), i < k + 1 → xs[i]? = some y → 0 ≤ y ∧ y ≤ (i : Int) + 1 := fun i y hi hy => by
  rcases Nat.lt_or_eq_of_le (Nat.le_of_lt_succ hi) with h1 | h1
  · exact h i y h1 hy
  · subst h1; rw [hx] at hy; injection hy with hy; subst hy; exact h2
theorem ffR_no {xs : List Int} (h : ffB xs = false) : ffRN xs = 0 ∧ ffRD xs = 0 ∧ ffB xs = false := ⟨by simp [ffRN, h], by simp [ffRD, h], h⟩
theorem ffR_yes {xs : List Int} (h : ffB xs = true) : ffRN xs = ffA xs ∧ ffRD xs = ffC xs ∧ ffB xs = true := ⟨if_pos h, if_pos h, h⟩
set_option maxHeartbeats 4000000 in
theorem fromFactorial_any (w : World) (Axs : Option Addr) (cxs : Nat) (xs : List Int) (hxs : Reads w Axs xs) (lxs : xs.length ≤ 1048576) : Calls Tryz.prog 22 #[.slice Axs xs.length cxs] w (Ret (.tuple #[.agg #[.int .i64 (ffRN xs), .int .i64 (ffRD xs)], .bool (ffB xs)]) w) := by
  have Hxs := Lib.hid hxs
  clear hxs
  by_cases hl : xs.length ≤ 11
  · have hli : ((xs.length : Nat) : Int) + 1 ≤ 12 := by omega
    go_enter Tryz.func22, Tryz.ntmps22
    go_wp2
    go_loopw [5, 17] (fun v5 v17 wr => ∃ k : Nat, k ≤ xs.length ∧ v17 = .int .i64 (k : Int) ∧ v5 = .int .i64 (ffN (xs.take k)) ∧ (∀ (i : Nat) (x : Int), i < k → xs[i]? = some x → 0 ≤ x ∧ x ≤ (i : Int) + 1) ∧ TwoAt wr w.heap.size 0 0 ∧ Below w.heap.size w wr) (fun _ v17 _ => xs.length - (intOf v17).toNat)
    case atStart => exact ⟨0, Nat.zero_le _, rfl, by simp [ffN, hor], fun i x h => by omega, by (refine ⟨?_, ?_, ?_, ?_, ?_⟩ <;> first | (simp only [World.size_alloc]; omega) | (first | (simp [*]; done) | (simp [go_sem, *]; done))), by (repeat' (first | (with_reducible exact Below.refl _ _) | (with_reducible assumption) | (with_reducible refine Below.drew ?_) | (with_reducible refine belowDrewN ?_ _) | (with_reducible refine Below.alloc ?_ ?_ _) | (with_reducible refine Below.setCell ?_ ?_ _) | (with_reducible refine belowStep (by assumption) ?_ ?_) | (with_reducible exact Below.size (by assumption)) | go_size))⟩
    case round =>
      obtain ⟨k, hk, rfl, rfl, hin, hq, hbr⟩ := hrel
      obtain ⟨p0, p1, p2, p3⟩ := ff_pre hk (by omega) hin
      have Hin := Lib.hid hin
      have Hq := Lib.hid hq
      obtain ⟨q1, q2, q3, q4, q5⟩ := hq
      clear hin
      by_cases hlt : k < xs.length
      · obtain ⟨b, o, x, rfl, hb, hx, hcell⟩ := (Hxs.out.below hbr).at_ hlt
        obtain ⟨t0, t1, t2, t3⟩ := ff_next hlt hx
        have Hx := Lib.hid hx
        have H1 := Lib.hid t1
        have pm := mul_bounds (a := ffN (xs.take k)) (b := (k : Int) + 2) p0 (by omega) (by omega) (by omega)
        clear t0 t1 t2 t3 hx
        generalize ffN (xs.take k) = P at *
        by_cases hxr : 0 ≤ x ∧ x ≤ (k : Int) + 1
        · have HM := Lib.hid (ff_more Hin.out Hx.out hxr)
          obtain ⟨x0, x1⟩ := hxr
          go_wp2
          go_roundw
          case rel => exact ⟨k + 1, by omega, by go_num, by rw [H1.out], HM.out, Hq.out, by (repeat' (first | (with_reducible exact Below.refl _ _) | (with_reducible assumption) | (with_reducible refine Below.drew ?_) | (with_reducible refine belowDrewN ?_ _) | (with_reducible refine Below.alloc ?_ ?_ _) | (with_reducible refine Below.setCell ?_ ?_ _) | (with_reducible refine belowStep (by assumption) ?_ ?_) | (with_reducible exact Below.size (by assumption)) | go_size))⟩
          case measure => simp [intOf]; omega
        · have E := Lib.hid (ffR_no (xs := xs) (ffB_not fun h => hxr (h.2 k x Hx.out)))
          by_cases hx0 : x < 0
          · clear hxr
            go_wp2
            refine bodyPost_ret (by simp [results, Tryz.results22, go_sem, *]; try rfl) rfl ?_
            rw [E.out.1, E.out.2.1, E.out.2.2]
            exact ⟨rfl, by (repeat' (first | (with_reducible exact Below.refl _ _) | (with_reducible assumption) | (with_reducible refine Below.drew ?_) | (with_reducible refine belowDrewN ?_ _) | (with_reducible refine Below.alloc ?_ ?_ _) | (with_reducible refine Below.setCell ?_ ?_ _) | (with_reducible refine belowStep (by assumption) ?_ ?_) | (with_reducible exact Below.size (by assumption)) | go_size))⟩
          · have hx1 : (k : Int) + 2 ≤ x := by omega
            clear hxr
            go_wp2
            refine bodyPost_ret (by simp [results, Tryz.results22, go_sem, *]; try rfl) rfl ?_
            rw [E.out.1, E.out.2.1, E.out.2.2]
            exact ⟨rfl, by (repeat' (first | (with_reducible exact Below.refl _ _) | (with_reducible assumption) | (with_reducible refine Below.drew ?_) | (with_reducible refine belowDrewN ?_ _) | (with_reducible refine Below.alloc ?_ ?_ _) | (with_reducible refine Below.setCell ?_ ?_ _) | (with_reducible refine belowStep (by assumption) ?_ ?_) | (with_reducible exact Below.size (by assumption)) | go_size))⟩
      · obtain rfl : k = xs.length := by omega
        have hb : ffB xs = true := (ffB_iff xs).2 ⟨hl, fun i x hx => Hin.out i x (List.getElem?_eq_some_iff.1 hx).1 hx⟩
        have E := Lib.hid (ffR_yes hb)
        rw [List.take_length] at p0 p1 p2 p3 ⊢
        obtain ⟨g1, g2, g3, g4⟩ := ff_good hl p0 p1
        have HR : Hid (∀ w : World, Calls Tryz.prog 48 #[.int .i64 (ffN xs), .int .i64 (fac (xs.length + 1))] w (Ret (.tuple #[.agg #[.int .i64 (ffA xs), .int .i64 (ffC xs)], .bool true]) w)) := Lib.hid fun w => by
          have := reduce_any (ffN xs) (ffD xs) w p0 p2 (by omega) (by omega)
          rw [g3, g4, g2] at this
          exact this
        have HF : Hid (∀ w : World, Calls Tryz.prog 44 #[.int .i64 (((xs.length : Nat) : Int) + 1)] w (RetQ (.int .i64 (fac (xs.length + 1))) w)) := Lib.hid fun w => factorialOf_any (xs.length + 1) w (by omega)
        clear g1 g2 g3 g4 hb
        go_wp2_with (first | (go_at_call 44; refine (HF.out _).mono ?_; rintro e w1 ⟨rfl, k1, rfl⟩) | (go_at_call 48; refine (HR.out _).mono ?_; rintro e w2 ⟨rfl, hb2⟩; obtain ⟨hc2, hf2⟩ := bcellB hb2; have hz2 := hb2.size; (try simp only [World.heap_drewN] at hc2 hf2 hz2); (try have hy2_r_0 : wr.heap.size < w2.heap.size := by omega); (try have hn2_r_0 : wr.heap.size ≠ w2.heap.size := by omega); (try have hm2_r_0 : w2.heap.size ≠ wr.heap.size := by omega); (try have hy2_r_1 : wr.heap.size + 1 < w2.heap.size := by omega); (try have hn2_r_1 : wr.heap.size + 1 ≠ w2.heap.size := by omega); (try have hm2_r_1 : w2.heap.size ≠ wr.heap.size + 1 := by omega); (try have hy2_r_2 : wr.heap.size + 1 + 1 < w2.heap.size := by omega); (try have hp2_r_1 : wr.heap.size < w2.heap.size + 1 := by omega); (try have hp2_r_2 : wr.heap.size < w2.heap.size + 1 + 1 := by omega); (try have hy2_0_0 : w.heap.size < w2.heap.size := by omega); (try have hn2_0_0 : w.heap.size ≠ w2.heap.size := by omega); (try have hm2_0_0 : w2.heap.size ≠ w.heap.size := by omega); (try have hy2_0_1 : w.heap.size + 1 < w2.heap.size := by omega); (try have hn2_0_1 : w.heap.size + 1 ≠ w2.heap.size := by omega); (try have hm2_0_1 : w2.heap.size ≠ w.heap.size + 1 := by omega); (try have hy2_0_2 : w.heap.size + 1 + 1 < w2.heap.size := by omega); (try have hp2_0_1 : w.heap.size < w2.heap.size + 1 := by omega); (try have hp2_0_2 : w.heap.size < w2.heap.size + 1 + 1 := by omega); (try have hy2_1_0 : w1.heap.size < w2.heap.size := by omega); (try have hn2_1_0 : w1.heap.size ≠ w2.heap.size := by omega); (try have hm2_1_0 : w2.heap.size ≠ w1.heap.size := by omega); (try have hy2_1_1 : w1.heap.size + 1 < w2.heap.size := by omega); (try have hn2_1_1 : w1.heap.size + 1 ≠ w2.heap.size := by omega); (try have hm2_1_1 : w2.heap.size ≠ w1.heap.size + 1 := by omega); (try have hy2_1_2 : w1.heap.size + 1 + 1 < w2.heap.size := by omega); (try have hp2_1_1 : w1.heap.size < w2.heap.size + 1 := by omega); (try have hp2_1_2 : w1.heap.size < w2.heap.size + 1 + 1 := by omega); (try have hg2_g1 : g1 < w2.heap.size := by omega); (try have hi2_g1 : g1 ≠ w2.heap.size := by omega); (try have hj2_g1 : w2.heap.size ≠ g1 := by omega); (try have hk2_g1 : g1 < w2.heap.size + 1 := by omega); (try have hg2_g2 : g2 < w2.heap.size := by omega); (try have hi2_g2 : g2 ≠ w2.heap.size := by omega); (try have hj2_g2 : w2.heap.size ≠ g2 := by omega); (try have hk2_g2 : g2 < w2.heap.size + 1 := by omega)))
        refine bodyPost_ret (by simp [results, Tryz.results22, go_sem, *]; try rfl) rfl ?_
        rw [E.out.1, E.out.2.1, E.out.2.2]
        exact ⟨rfl, by (repeat' (first | (with_reducible exact Below.refl _ _) | (with_reducible assumption) | (with_reducible refine Below.drew ?_) | (with_reducible refine belowDrewN ?_ _) | (with_reducible refine Below.alloc ?_ ?_ _) | (with_reducible refine Below.setCell ?_ ?_ _) | (with_reducible refine belowStep (by assumption) ?_ ?_) | (with_reducible exact Below.size (by assumption)) | go_size))⟩
  · have E := Lib.hid (ffR_no (xs := xs) (ffB_not fun h => hl h.1))
    have hli : ¬ ((xs.length : Nat) : Int) + 1 ≤ 12 := by omega
    go_enter Tryz.func22, Tryz.ntmps22
    go_wp2
    refine bodyPost_ret (by simp [results, Tryz.results22, go_sem, *]; try rfl) rfl ?_
    rw [E.out.1, E.out.2.1, E.out.2.2]
    exact ⟨rfl, by (repeat' (first | (with_reducible exact Below.refl _ _) | (with_reducible assumption) | (with_reducible refine Below.drew ?_) | (with_reducible refine belowDrewN ?_ _) | (with_reducible refine Below.alloc ?_ ?_ _) | (with_reducible refine Below.setCell ?_ ?_ _) | (with_reducible refine belowStep (by assumption) ?_ ?_) | (with_reducible exact Below.size (by assumption)) | go_size))⟩
end Go.Proofs.YtbjblkfibinenadGreat
