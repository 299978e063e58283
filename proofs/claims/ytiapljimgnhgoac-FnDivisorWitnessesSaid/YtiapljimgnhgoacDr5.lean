
/-
  Contracts of what draws a number and a sum, and a list beside them.
-/
import Derived.Test.YtiapljimgnhgoacDr4
import Derived.Test.YtiapljimgnhgoacUnC
import Derived.Test.YtiapljimgnhgoacForS
namespace Go.Proofs.Ytiapljimgnhgoac
open Go.RowKit
theorem l1Most_q (a b : Int) (w : World) : Calls Try.prog 44 #[.int .i64 a, .int .i64 b] w (RetQ (.int .i64 (max a b)) w) := by
  by_cases h : b < a
  · have E : Hid (max a b = a) := Lib.hid (by omega)
    go_enter Try.func44, Try.ntmps44
    go_wp2
    go_ret
    exact ⟨ret_int E.out.symm, 0, rfl⟩
  · have E : Hid (max a b = b) := Lib.hid (by omega)
    go_enter Try.func44, Try.ntmps44
    go_wp2
    go_ret
    exact ⟨ret_int E.out.symm, 0, rfl⟩
def DrawNS (w : World) (e : Ending) (w' : World) : Prop := ∃ n s : Int, e = .returned (.tuple #[.int .i64 n, .int .i64 s]) ∧ -1 ≤ n ∧ n ≤ 2001 ∧ -1 ≤ s ∧ s ≤ 4000001 ∧ Below w.heap.size w w'
set_option maxHeartbeats 4000000 in
theorem drawDivisorsFor_any (w : World) (A : Option Addr) (n c : Nat) (hr : ReadsB w A n) (hn : n ≤ 1048576) : Calls Try.prog 7 #[.slice A n c] w (DrawNS w) := by
  have HC0 := Lib.hid (beginP w A n c 56 hr hn)
  clear hr
  go_enter Try.func7, Try.ntmps7
  go_wp2_with fail
  refine (number4_any w _ w.heap.size 0 (by omega) HC0.out).mono ?_; rintro e w2 ⟨x, rfl, x0, x1, hc2, hg2⟩
  have HC2 := Lib.hid hc2
  have hz2 := hg2.size
  simp only [World.size_alloc] at hz2
  clear hc2 hg2
  have HN := Lib.hid fun (w : World) => prNumber_any x w
  cases hx : numB x with
  | false =>
    rw [hx] at HN
    clear hx
    go_wp2_with fail
    refine (HN.out _).mono ?_; rintro e w3 ⟨rfl, k3, rfl⟩
    go_wp2_with fail
    refine (among_any w _ w.heap.size 4 (by omega) (-1) 4000001 _ 6 [-1, 0, 1, 5, 100000, 100001] (Reads.lit (w2.drewN k3) _ 6 rfl) (by simp) (by simp) (by simp) (fun a ha => by injection ha with ha; subst ha; show w2.heap.size ≠ w.heap.size; omega) (fun z hz => by simp only [List.mem_cons, List.not_mem_nil, or_false] at hz; omega) ((show Cur w (w2.drewN k3) w.heap.size 4 from HC2.out.below (by (repeat' (first | (with_reducible exact Below.refl _ _) | (with_reducible assumption) | (with_reducible refine Below.drew ?_) | (with_reducible refine belowDrewN ?_ _) | (with_reducible refine Below.alloc ?_ ?_ _) | (with_reducible refine Below.setCell ?_ ?_ _) | (with_reducible refine belowStep (by assumption) ?_ ?_) | (with_reducible exact Below.size (by assumption)) | go_size)))).below ((Below.refl _ _).alloc (Nat.le_refl _) _))).mono ?_; rintro e w4 ⟨z, rfl, z0, z1, hc4, hg4⟩
    have hbs := hc4.base.2.2
    clear hc4 hg4
    go_wp2
    go_ret2
    exact ⟨x, z, rfl, x0, x1, z0, z1, hbs⟩
  | true =>
    obtain ⟨N, rfl, h1, h2⟩ := numB_nat hx
    have HS := Lib.hid fun (w : World) => prSum_any N w h2
    have HU := Lib.hid fun (w : World) => prUnreached_any N w h1 h2
    have hsm := sig_small h2
    have hus := unI_small h1 h2
    obtain ⟨u0, u1⟩ := hus
    rw [hx] at HN
    clear hx
    generalize unI N = u at *
    generalize sig N = sm at *
    go_wp2_with fail
    refine (HN.out _).mono ?_; rintro e w3 ⟨rfl, k3, rfl⟩
    go_wp2_with fail
    refine (oneP_any w _ w.heap.size 4 (by omega) _ (by omega) (show Cur w (w2.drewN k3) w.heap.size 4 from HC2.out.below (by (repeat' (first | (with_reducible exact Below.refl _ _) | (with_reducible assumption) | (with_reducible refine Below.drew ?_) | (with_reducible refine belowDrewN ?_ _) | (with_reducible refine Below.alloc ?_ ?_ _) | (with_reducible refine Below.setCell ?_ ?_ _) | (with_reducible refine belowStep (by assumption) ?_ ?_) | (with_reducible exact Below.size (by assumption)) | go_size))))).mono ?_; rintro e w4 ⟨o, rfl, hc4, hg4⟩
    have HC4 := Lib.hid hc4
    have hz4 := hg4.size
    (try simp only [World.heap_drewN] at hz4)
    clear hc4 hg4
    cases o with
    | true =>
      go_wp2_with fail
      refine (among_any w _ w.heap.size 6 (by omega) (-1) 4000001 _ 6 [-1, 0, 1, 5, 100000, 100001] (Reads.lit w4 _ 6 rfl) (by simp) (by simp) (by simp) (fun a ha => by injection ha with ha; subst ha; show w4.heap.size ≠ w.heap.size; omega) (fun z hz => by simp only [List.mem_cons, List.not_mem_nil, or_false] at hz; omega) (HC4.out.below ((Below.refl _ _).alloc (Nat.le_refl _) _))).mono ?_; rintro e w5 ⟨z, rfl, z0, z1, hc5, hg5⟩
      have hbs := hc5.base.2.2
      clear hc5 hg5
      go_wp2
      go_ret2
      exact ⟨(N : Int), z, rfl, by omega, by omega, z0, z1, hbs⟩
    | false =>
      go_wp2_with fail
      refine (HS.out _).mono ?_; rintro e w5 ⟨rfl, hb5⟩
      have HC5 := Lib.hid (HC4.out.below hb5)
      have hz5 := hb5.size
      go_wp2_with fail
      refine (pick_any w _ w.heap.size 6 (by omega) _ (by omega) HC5.out).mono ?_; rintro e w6 ⟨p, rfl, p0, p1, hc6, hg6⟩
      have HC6 := Lib.hid hc6
      have hz6 := hg6.size
      clear hc6 hg6
      go_wp2_with fail
      refine (pick_any w _ w.heap.size 8 (by omega) _ (by omega) HC6.out).mono ?_; rintro e w7 ⟨q, rfl, q0, q1, hc7, hg7⟩
      have HC7 := Lib.hid hc7
      have hz7 := hg7.size
      clear hc7 hg7
      go_wp2_with fail
      refine (HU.out _).mono ?_; rintro e w8 ⟨rfl, hb8⟩
      have HC8 := Lib.hid (HC7.out.below hb8)
      have hz8 := hb8.size
      go_wp2_with fail
      refine (l1Most_q _ _ _).mono ?_; rintro e w9 ⟨rfl, k9, rfl⟩
      have hm0 : 0 ≤ max 0 u ∧ max 0 u ≤ 4000000 := by omega
      generalize max 0 u = mu at *
      obtain ⟨mu0, mu1⟩ := hm0
      go_wp2_with fail
      refine (among_any w _ w.heap.size 10 (by omega) (-1) 4000001 _ 6 [p, q, (sm : Int), (sm : Int) + 1, 0, mu] (Reads.lit (w8.drewN k9) _ 6 rfl) (by simp) (by simp) (by simp) (fun a ha => by injection ha with ha; subst ha; show w8.heap.size ≠ w.heap.size; omega) (fun z hz => by simp only [List.mem_cons, List.not_mem_nil, or_false] at hz; omega) ((show Cur w (w8.drewN k9) w.heap.size 10 from HC8.out.below (by (repeat' (first | (with_reducible exact Below.refl _ _) | (with_reducible assumption) | (with_reducible refine Below.drew ?_) | (with_reducible refine belowDrewN ?_ _) | (with_reducible refine Below.alloc ?_ ?_ _) | (with_reducible refine Below.setCell ?_ ?_ _) | (with_reducible refine belowStep (by assumption) ?_ ?_) | (with_reducible exact Below.size (by assumption)) | go_size)))).below ((Below.refl _ _).alloc (Nat.le_refl _) _))).mono ?_; rintro e w10 ⟨z, rfl, z0, z1, hc10, hg10⟩
      have hbs := hc10.base.2.2
      clear hc10 hg10
      go_wp2
      go_ret2
      exact ⟨(N : Int), z, rfl, by omega, by omega, z0, z1, hbs⟩
end Go.Proofs.Ytiapljimgnhgoac
