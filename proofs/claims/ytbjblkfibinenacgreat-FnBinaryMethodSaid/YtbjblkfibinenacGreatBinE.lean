
/-
  Contracts of the program's expansion by binary digits.
-/
import Derived.Test.YtbjblkfibinenacGreatExpBy
import Derived.Test.YtbjblkfibinenacGreatBinQ
import Derived.Test.YtbjblkfibinenacGreatBinC
import Derived.Test.YtbjblkfibinenacGreatConcat
namespace Go.Proofs.YtbjblkfibinenacGreat
open Go.RowKit
open Go.Maps Go.WideMaps
def bxO (n d : Int) : Option (List Int) := pexO n d (biO n d)
set_option maxRecDepth 100000 in
set_option maxHeartbeats 8000000 in
theorem binTerms_any (n d : Int) (w : World) (hp : proB n d = true) : Calls Tryz.prog 94 #[.agg #[], .agg #[.int .i64 n, .int .i64 d]] w (RetM (biO n d) w) := by
  obtain ⟨n1, n2, d1, d2, hnd, hg, hgc, hi⟩ := proB_bounds hp
  obtain ⟨J, B⟩ := binS hp
  have N1 := B.N1
  have N2 := B.N2
  have s0 := B.s0
  have s1 := B.s1
  have r0 := B.r0
  have r1 := B.r1
  have hdN := Int.mul_le_mul d2 (show p2 d ≤ 2000000000 by omega) (by omega) (by omega : (0 : Int) ≤ 1000000000)
  have hdN1 : 1 * p2 d ≤ d * p2 d := Int.mul_le_mul_of_nonneg_right (by omega) (by omega)
  have E : Hid (bL n d = hvL 31 (n * p2 d / d) (p2 d) ++ hvL 31 (n * p2 d % d) (d * p2 d)) := Lib.hid rfl
  have l1 := hvL_len 31 (n * p2 d / d) (p2 d)
  have l2 := hvL_len 31 (n * p2 d % d) (d * p2 d)
  have HB : Hid (∀ w : World, Calls Tryz.prog 6 #[.agg #[.int .i64 n, .int .i64 d]] w (Ret (.tuple #[.int .i64 (p2 d), .int .i64 (n * p2 d / d), .int .i64 (n * p2 d % d), .bool true]) w)) := Lib.hid fun w => by
    have := binaryParts_any n d w ⟨by omega, by omega⟩ ⟨by omega, by omega⟩
    obtain ⟨e1, e2, e3⟩ := bpR_yes hp
    rw [e1, e2, e3, hp] at this
    exact this
  have H1 := Lib.hid fun (w : World) => halvesAt_any (n * p2 d / d) (p2 d) w s0 (by omega) (by omega) (by omega)
  have H2 := Lib.hid fun (w : World) (y : Int) (hy : y = d * p2 d) => (by subst hy; exact halvesAt_any (n * p2 d % d) (d * p2 d) w r0 (by omega) (by omega) (by omega) : Calls Tryz.prog 96 #[.int .i64 (n * p2 d % d), .int .i64 y] w (RetL (hvL 31 (n * p2 d % d) (d * p2 d)) w))
  have HW : Hid (IntKind.i64.wrap (d * p2 d) = d * p2 d) := Lib.hid (IntWalk.i64_in _ (by omega))
  clear B hg hgc hi hp
  have T0 := Lib.hid ((TwoAt.new (w.alloc (.cells #[] 65)) n d 25))
  generalize hvL 31 (n * p2 d / d) (p2 d) = xs at *
  generalize hvL 31 (n * p2 d % d) (d * p2 d) = ys at *
  generalize n * p2 d / d = s at *
  generalize n * p2 d % d = r at *
  generalize hP : p2 d = P at *
  clear hP
  go_enter Tryz.func94, Tryz.ntmps94
  go_wp2_with fail
  refine (HB.out _).mono ?_; rintro e w2 ⟨rfl, hb2⟩
  have hz2 := hb2.size
  simp only [World.size_alloc] at hz2
  obtain ⟨t1, t2, t3, t4, t5⟩ := T0.out.below hb2
  simp only [World.size_alloc] at t1 t2 t3 t4 t5
  go_upto_region 2 with fail
  go_region_held3 (fun w' => w'.cell? ⟨w.heap.size + 1, 0, none⟩ = some (.int .i64 n) ∧ w'.cell? ⟨w.heap.size + 1, 1, none⟩ = some (.int .i64 d)) (first | exact ⟨t1, t2⟩ | go_keep) (first
    | (go_at_call_of 96 (Value.int IntKind.i64 r); refine (H2.out _ _ HW.out).mono ?_; rintro e w4 ⟨v4, rfl, ho4, hb4⟩; obtain ⟨A4, c4, rfl, hr4⟩ := ho4.form; obtain ⟨hc4, hf4⟩ := bcellB hb4; have hz4 := hb4.size; (try simp only [World.size_alloc, World.size_setCell, World.size_drew, World.heap_drewN] at hc4 hf4 hz4); (try have hy4_00 : w.heap.size < w4.heap.size := by omega); (try have hn4_00 : w.heap.size ≠ w4.heap.size := by omega); (try have hm4_00 : w4.heap.size ≠ w.heap.size := by omega); (try have hp4_00 : w.heap.size < w4.heap.size + 1 := by omega); (try have hy4_01 : w.heap.size + 1 < w4.heap.size := by omega); (try have hn4_01 : w.heap.size + 1 ≠ w4.heap.size := by omega); (try have hm4_01 : w4.heap.size ≠ w.heap.size + 1 := by omega); (try have hp4_01 : w.heap.size + 1 < w4.heap.size + 1 := by omega); (try have hy4_10 : w2.heap.size < w4.heap.size := by omega); (try have hn4_10 : w2.heap.size ≠ w4.heap.size := by omega); (try have hm4_10 : w4.heap.size ≠ w2.heap.size := by omega); (try have hp4_10 : w2.heap.size < w4.heap.size + 1 := by omega); (try have hy4_11 : w2.heap.size + 1 < w4.heap.size := by omega); (try have hn4_11 : w2.heap.size + 1 ≠ w4.heap.size := by omega); (try have hm4_11 : w4.heap.size ≠ w2.heap.size + 1 := by omega); (try have hp4_11 : w2.heap.size + 1 < w4.heap.size + 1 := by omega); (try have hy4_20 : w3.heap.size < w4.heap.size := by omega); (try have hn4_20 : w3.heap.size ≠ w4.heap.size := by omega); (try have hm4_20 : w4.heap.size ≠ w3.heap.size := by omega); (try have hp4_20 : w3.heap.size < w4.heap.size + 1 := by omega); (try have hy4_21 : w3.heap.size + 1 < w4.heap.size := by omega); (try have hn4_21 : w3.heap.size + 1 ≠ w4.heap.size := by omega); (try have hm4_21 : w4.heap.size ≠ w3.heap.size + 1 := by omega); (try have hp4_21 : w3.heap.size + 1 < w4.heap.size + 1 := by omega))
    | (go_at_call_of 96 (Value.int IntKind.i64 s); refine (H1.out _).mono ?_; rintro e w3 ⟨v3, rfl, ho3, hb3⟩; obtain ⟨A3, c3, rfl, hr3⟩ := ho3.form; obtain ⟨hc3, hf3⟩ := bcellB hb3; have hz3 := hb3.size; (try simp only [World.size_drew] at hc3 hf3 hz3); (try have hy3_00 : w.heap.size < w3.heap.size := by omega); (try have hn3_00 : w.heap.size ≠ w3.heap.size := by omega); (try have hm3_00 : w3.heap.size ≠ w.heap.size := by omega); (try have hp3_00 : w.heap.size < w3.heap.size + 1 := by omega); (try have hy3_01 : w.heap.size + 1 < w3.heap.size := by omega); (try have hn3_01 : w.heap.size + 1 ≠ w3.heap.size := by omega); (try have hm3_01 : w3.heap.size ≠ w.heap.size + 1 := by omega); (try have hp3_01 : w.heap.size + 1 < w3.heap.size + 1 := by omega); (try have hy3_10 : w2.heap.size < w3.heap.size := by omega); (try have hn3_10 : w2.heap.size ≠ w3.heap.size := by omega); (try have hm3_10 : w3.heap.size ≠ w2.heap.size := by omega); (try have hp3_10 : w2.heap.size < w3.heap.size + 1 := by omega); (try have hy3_11 : w2.heap.size + 1 < w3.heap.size := by omega); (try have hn3_11 : w2.heap.size + 1 ≠ w3.heap.size := by omega); (try have hm3_11 : w3.heap.size ≠ w2.heap.size + 1 := by omega); (try have hp3_11 : w2.heap.size + 1 < w3.heap.size + 1 := by omega))
    | (go_at_call 95; refine (concat2_any _ _ _ (by (first | (go_size; done) | ((try simp only [World.size_alloc, World.size_setCell, World.size_drew, World.heap_drewN]); omega))) (by first | (simp; done) | exact litNew rfl rfl) (by first | (simp; done) | exact litNew rfl rfl) (hr3.below (by (repeat' (first | (with_reducible exact Below.refl _ _) | (with_reducible assumption) | (with_reducible refine Below.drew ?_) | (with_reducible refine belowDrewN ?_ _) | (with_reducible refine Below.alloc ?_ ?_ _) | (with_reducible refine Below.setCell ?_ ?_ _) | (with_reducible refine belowStep (by assumption) ?_ ?_) | (with_reducible exact Below.size (by assumption)) | go_size)))) (hr4.below (by (repeat' (first | (with_reducible exact Below.refl _ _) | (with_reducible assumption) | (with_reducible refine Below.drew ?_) | (with_reducible refine belowDrewN ?_ _) | (with_reducible refine Below.alloc ?_ ?_ _) | (with_reducible refine Below.setCell ?_ ?_ _) | (with_reducible refine belowStep (by assumption) ?_ ?_) | (with_reducible exact Below.size (by assumption)) | go_size)))) (by omega)).mono ?_; rintro e w5 ⟨v5, rfl, ho5, hb5⟩; obtain ⟨hc5, hf5⟩ := bcellB hb5; have hz5 := hb5.size; (try simp only [World.size_alloc] at hc5 hf5 hz5); (try have hy5_00 : w.heap.size < w5.heap.size := by omega); (try have hn5_00 : w.heap.size ≠ w5.heap.size := by omega); (try have hm5_00 : w5.heap.size ≠ w.heap.size := by omega); (try have hp5_00 : w.heap.size < w5.heap.size + 1 := by omega); (try have hy5_01 : w.heap.size + 1 < w5.heap.size := by omega); (try have hn5_01 : w.heap.size + 1 ≠ w5.heap.size := by omega); (try have hm5_01 : w5.heap.size ≠ w.heap.size + 1 := by omega); (try have hp5_01 : w.heap.size + 1 < w5.heap.size + 1 := by omega); (try have hy5_10 : w2.heap.size < w5.heap.size := by omega); (try have hn5_10 : w2.heap.size ≠ w5.heap.size := by omega); (try have hm5_10 : w5.heap.size ≠ w2.heap.size := by omega); (try have hp5_10 : w2.heap.size < w5.heap.size + 1 := by omega); (try have hy5_11 : w2.heap.size + 1 < w5.heap.size := by omega); (try have hn5_11 : w2.heap.size + 1 ≠ w5.heap.size := by omega); (try have hm5_11 : w5.heap.size ≠ w2.heap.size + 1 := by omega); (try have hp5_11 : w2.heap.size + 1 < w5.heap.size + 1 := by omega); (try have hy5_20 : w4.heap.size < w5.heap.size := by omega); (try have hn5_20 : w4.heap.size ≠ w5.heap.size := by omega); (try have hm5_20 : w5.heap.size ≠ w4.heap.size := by omega); (try have hp5_20 : w4.heap.size < w5.heap.size + 1 := by omega); (try have hy5_21 : w4.heap.size + 1 < w5.heap.size := by omega); (try have hn5_21 : w4.heap.size + 1 ≠ w5.heap.size := by omega); (try have hm5_21 : w5.heap.size ≠ w4.heap.size + 1 := by omega); (try have hp5_21 : w4.heap.size + 1 < w5.heap.size + 1 := by omega)))
  all_goals
    go_wp2
    go_ret2
    exact ⟨_, _, rfl, rfl, fun xs' hx => by injection hx with hx; subst hx; rw [E.out]; exact ho5.mono (by (first | (go_size; done) | ((try simp only [World.size_alloc, World.size_setCell, World.size_drew, World.heap_drewN]); omega))), by (repeat' (first | (with_reducible exact Below.refl _ _) | (with_reducible assumption) | (with_reducible refine Below.drew ?_) | (with_reducible refine belowDrewN ?_ _) | (with_reducible refine Below.alloc ?_ ?_ _) | (with_reducible refine Below.setCell ?_ ?_ _) | (with_reducible refine belowStep (by assumption) ?_ ?_) | (with_reducible exact Below.size (by assumption)) | go_size))⟩
set_option maxRecDepth 100000 in
theorem binMethod (j : Nat) (w : World) : (method (j + 1) 65 (.agg #[]) "loop.example/g01107/impl.termsOf").run Tryz.prog w = .ok (94, .agg #[]) w := by kernel_rfl
set_option maxRecDepth 100000 in
theorem binD (zd : DataW Unit) : mD.atKey (.string [98, 105, 110, 97, 114, 121]) zd = .lit (.int .i64 ((65 : Nat) : Int)) := by kernel_rfl
set_option maxRecDepth 100000 in
set_option maxHeartbeats 2000000 in
theorem binaryExp_any (n d : Int) (w : World) (rn : -9223372036854775808 ≤ n ∧ n ≤ 9223372036854775807) (rd : -9223372036854775808 ≤ d ∧ d ≤ 9223372036854775807) : Calls Tryz.prog 8 #[.agg #[.int .i64 n, .int .i64 d]] w (RetLB ((bxO n d).getD []) (bxO n d).isSome w) := by
  have HX := Lib.hid fun (w : World) => expandBy_any ⟨#[98, 105, 110, 97, 114, 121]⟩ (by decide) 65 94 binD n d (if proB n d = true then biO n d else none) w rn rd binMethod (fun _ _ => rfl) (fun hp w => by rw [if_pos hp]; exact binTerms_any n d w hp) (fun xs hx => by
    split at hx
    · rename_i hp
      injection hx with hx
      subst hx
      have := bL_facts hp
      exact ⟨this.1, by omega, In64.of_mem fun x hx => by have := this.2.2.1 x hx; omega⟩
    · cases hx)
  have E : Hid (pexO n d (if proB n d = true then biO n d else none) = bxO n d) := Lib.hid (by unfold bxO pexO; cases proB n d <;> rfl)
  go_enter Tryz.func8, Tryz.ntmps8
  go_wp2_with fail
  refine (HX.out _).mono ?_; rintro e w2 ⟨v2, rfl, ho2, hb2⟩
  rw [E.out] at ho2 ⊢
  have Ho2 := Lib.hid ho2
  have hz2 := hb2.size
  clear ho2
  go_wp2
  go_ret2
  exact ⟨_, rfl, Ho2.out.mono (by (first | (go_size; done) | ((try simp only [World.size_alloc, World.size_setCell, World.size_drew, World.heap_drewN]); omega))), by (repeat' (first | (with_reducible exact Below.refl _ _) | (with_reducible assumption) | (with_reducible refine Below.drew ?_) | (with_reducible refine belowDrewN ?_ _) | (with_reducible refine Below.alloc ?_ ?_ _) | (with_reducible refine Below.setCell ?_ ?_ _) | (with_reducible refine belowStep (by assumption) ?_ ?_) | (with_reducible exact Below.size (by assumption)) | go_size))⟩
end Go.Proofs.YtbjblkfibinenacGreat
