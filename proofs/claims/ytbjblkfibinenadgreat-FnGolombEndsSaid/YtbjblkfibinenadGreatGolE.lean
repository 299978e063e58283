
/-
  Contracts of the expansion by inverses, in the program and in the model.
-/
import Derived.Test.YtbjblkfibinenadGreatExpBy
import Derived.Test.YtbjblkfibinenadGreatGolR
namespace Go.Proofs.YtbjblkfibinenadGreat
open Go.RowKit
open Go.Maps Go.WideMaps
/-- the terms of the method by inverses -/
def golO (n d : Int) : Option (List Int) := (walkR stI 24 0 n d).map takenOf
def gxO (n d : Int) : Option (List Int) := pexO n d (golO n d)
/-- the numbers that are taken fall -/
theorem gol_falls : ∀ (k : Nat) {l n d : Int} {es : List (Int × Int × Int)}, goodB n d = true → n < d → walkR stI k l n d = some es → (takenOf es).Pairwise (fun a b => b < a) ∧ ∀ x ∈ takenOf es, 0 ≤ x ∧ x < d * d
  | 0, l, n, d, es, hg, hd, h => by
    by_cases h0 : n ≤ 0
    · rw [walkR_end h0] at h; injection h with h; subst h; simp [takenOf]
    · rw [walkR_out (by omega)] at h; cases h
  | k + 1, l, n, d, es, hg, hd, h => by
    by_cases h0 : n ≤ 0
    · rw [walkR_end h0] at h; injection h with h; subst h; simp [takenOf]
    · have hp : proB n d = true := (proB_iff n d).2 ⟨hg, by omega, hd⟩
      have G := goN_small hp
      have L := goT_less hp
      rw [walkR_some (by omega) (stI_yes (l := l) hp)] at h
      cases hr : walkR stI k (goT n d + 1) (goN n d) (goD n d) with
      | none => rw [hr] at h; cases h
      | some es' =>
        rw [hr] at h
        injection h with h
        subst h
        obtain ⟨i1, i2⟩ := gol_falls k G.1 G.2.1 hr
        refine ⟨List.pairwise_cons.2 ⟨fun x hx => ?_, i1⟩, fun x hx => ?_⟩
        · have := i2 x hx
          show x < goT n d
          omega
        · rcases List.mem_cons.1 hx with h1 | h1
          · rw [h1]; exact ⟨G.2.2.2.2.2.2.1, L.1⟩
          · have := i2 x h1; omega
theorem golO_facts {n d : Int} (hp : proB n d = true) {xs : List Int} (h : golO n d = some xs) : xs ≠ [] ∧ xs.length ≤ 1000 ∧ In64 xs ∧ xs.Nodup := by
  unfold golO at h
  cases hw : walkR stI 24 0 n d with
  | none => rw [hw] at h; cases h
  | some es =>
    rw [hw] at h
    injection h with h
    subst h
    obtain ⟨hg, hn, hd⟩ := (proB_iff n d).1 hp
    obtain ⟨f1, f2⟩ := gol_falls 24 hg hd hw
    have hl := walkR_len 24 hw
    obtain ⟨_, _, d1, d2⟩ := good_bounds hg
    have hdd := mul_bounds (a := d) (b := d) (by omega) d2 (by omega) d2
    refine ⟨fun e => ?_, by rw [takenOf_len]; omega, In64.of_mem fun x hx => by have := f2 x hx; omega, falling_nodup f1⟩
    have : es = [] := List.eq_nil_of_length_eq_zero (by rw [← takenOf_len, e]; rfl)
    subst this
    rw [walkR_some (k := 23) (by omega) (stI_yes (l := 0) hp)] at hw
    cases hr : walkR stI 23 (goT n d + 1) (goN n d) (goD n d) with
    | none => rw [hr] at hw; cases hw
    | some es' => rw [hr] at hw; cases hw
set_option maxRecDepth 100000 in
set_option maxHeartbeats 2000000 in
theorem golTerms_any (n d : Int) (w : World) (hp : proB n d = true) : Calls Tryz.prog 124 #[.agg #[], .agg #[.int .i64 n, .int .i64 d]] w (RetM (golO n d) w) := by
  have hg := ((proB_iff n d).1 hp).1
  have HW := Lib.hid fun (w : World) => walkM_any 1000000000000000000 24 (by omega) (by omega) 14 #[] stI (fun _ _ => True) none 0 n d w (by simp) (fun _ _ _ _ _ => trivial) (fun _ _ => rfl) (fun l n d w1 hg hn _ _ _ => golombStep_R (fun _ _ => True) (fun _ _ _ _ _ _ => trivial) l n d w1 hg hn trivial) hg (by omega) (by omega) trivial
  have EN : Hid (walkR stI 24 0 n d = none → golO n d = none) := Lib.hid (fun hw => by unfold golO; rw [hw]; rfl)
  have ES : Hid (∀ es, walkR stI 24 0 n d = some es → golO n d = some (takenOf es)) := Lib.hid (fun es hw => by unfold golO; rw [hw]; rfl)
  go_enter Tryz.func124, Tryz.ntmps124
  go_wp2_with fail
  refine (HW.out _).mono ?_
  rintro e w2 ⟨hg2, h2⟩
  have hb2 : Below w.heap.size w w2 := (show Below w.heap.size w ((w.alloc (.cells #[] 82)).alloc (.cells #[.int .i64 n, .int .i64 d] 25)) by (repeat' (first | (with_reducible exact Below.refl _ _) | (with_reducible assumption) | (with_reducible refine Below.drew ?_) | (with_reducible refine belowDrewN ?_ _) | (with_reducible refine Below.alloc ?_ ?_ _) | (with_reducible refine Below.setCell ?_ ?_ _) | (with_reducible refine belowStep (by assumption) ?_ ?_) | (with_reducible exact Below.size (by assumption)) | go_size))).trans ((Below.refl _ _).grown hg2 (by (first | (go_size; done) | ((try simp only [World.size_alloc, World.size_setCell, World.size_drew, World.heap_drewN]); omega))) (by simp))
  have hz2 := hg2.size
  simp only [World.size_alloc] at hz2
  clear hg2
  rcases h2 with ⟨es, v1, v2, hw, hl, rfl, ho1, ho2⟩ | ⟨hw, rfl⟩
  · have E := Lib.hid (ES.out es hw)
    have Ho1 := Lib.hid ho1
    clear ho1 ho2 hw
    go_wp2
    go_ret2
    rw [E.out]
    exact ⟨_, _, rfl, rfl, fun xs hx => by injection hx with hx; subst hx; exact Ho1.out.mono (by (first | (go_size; done) | ((try simp only [World.size_alloc, World.size_setCell, World.size_drew, World.heap_drewN]); omega))), hb2⟩
  · have E := Lib.hid (EN.out hw)
    go_wp2
    go_ret2
    rw [E.out]
    exact ⟨_, _, rfl, rfl, fun xs hx => by (cases hx), hb2⟩
set_option maxRecDepth 100000 in
theorem golMethod (j : Nat) (w : World) : (method (j + 1) 82 (.agg #[]) "loop.example/g01107/impl.termsOf").run Tryz.prog w = .ok (124, .agg #[]) w := by kernel_rfl
set_option maxRecDepth 100000 in
theorem golD (zd : DataW Unit) : mD.atKey (.string [103, 111, 108, 111, 109, 98]) zd = .lit (.int .i64 ((82 : Nat) : Int)) := by kernel_rfl
set_option maxRecDepth 100000 in
set_option maxHeartbeats 2000000 in
theorem golombExp_any (n d : Int) (w : World) (rn : -9223372036854775808 ≤ n ∧ n ≤ 9223372036854775807) (rd : -9223372036854775808 ≤ d ∧ d ≤ 9223372036854775807) : Calls Tryz.prog 10 #[.agg #[.int .i64 n, .int .i64 d]] w (RetLB ((gxO n d).getD []) (gxO n d).isSome w) := by
  have HX := Lib.hid fun (w : World) => expandBy_any ⟨#[103, 111, 108, 111, 109, 98]⟩ (by decide) 82 124 golD n d (if proB n d = true then golO n d else none) w rn rd golMethod (fun _ _ => rfl) (fun hp w => by rw [if_pos hp]; exact golTerms_any n d w hp) (fun xs hx => by
    split at hx
    · rename_i hp
      have := golO_facts hp hx
      exact ⟨this.1, this.2.1, this.2.2.1⟩
    · cases hx)
  have E : Hid (pexO n d (if proB n d = true then golO n d else none) = gxO n d) := Lib.hid (by unfold gxO pexO; cases proB n d <;> rfl)
  go_enter Tryz.func10, Tryz.ntmps10
  go_wp2_with fail
  refine (HX.out _).mono ?_; rintro e w2 ⟨v2, rfl, ho2, hb2⟩
  rw [E.out] at ho2 ⊢
  have Ho2 := Lib.hid ho2
  have hz2 := hb2.size
  clear ho2
  go_wp2
  go_ret2
  exact ⟨_, rfl, Ho2.out.mono (by (first | (go_size; done) | ((try simp only [World.size_alloc, World.size_setCell, World.size_drew, World.heap_drewN]); omega))), by (repeat' (first | (with_reducible exact Below.refl _ _) | (with_reducible assumption) | (with_reducible refine Below.drew ?_) | (with_reducible refine belowDrewN ?_ _) | (with_reducible refine Below.alloc ?_ ?_ _) | (with_reducible refine Below.setCell ?_ ?_ _) | (with_reducible refine belowStep (by assumption) ?_ ?_) | (with_reducible exact Below.size (by assumption)) | go_size))⟩
end Go.Proofs.YtbjblkfibinenadGreat
