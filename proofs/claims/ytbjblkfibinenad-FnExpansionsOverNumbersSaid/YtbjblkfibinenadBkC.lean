
/-
  Contracts of BreakOf, in the program and in the model.
-/
import Derived.Test.YtbjblkfibinenadPpI
import Derived.Test.YtbjblkfibinenadDivS
namespace Go.Proofs.Ytbjblkfibinenad
open Go.RowKit
theorem pows_mem {p l : Nat} {L : List (Nat × Nat)} (h : Pows p l L) : 1 ≤ l ∧ ∀ x ∈ L, 2 ≤ x.1 ∧ 1 ≤ x.2 ∧ x.1 ^ x.2 ≤ l := by
  induction h with
  | nil p => simp
  | @cons p q c r L hpq hq hc hqr hr hro _ ih =>
    have hq2 := hq.1
    have hqc : 0 < q ^ c := Nat.pow_pos (by omega)
    have hl : r ≤ r * q ^ c := Nat.le_mul_of_pos_right r hqc
    refine ⟨by omega, fun x hx => ?_⟩
    rcases List.mem_cons.1 hx with rfl | hx
    · exact ⟨hq2, hc, Nat.le_mul_of_pos_left _ hr⟩
    · obtain ⟨a, b, d⟩ := ih.2 x hx
      exact ⟨a, b, by omega⟩
theorem prod_ge {L : List (Nat × Nat)} (h : ∀ x ∈ L, 2 ≤ x.1) : ∀ m, m ≤ prodP m L := by
  induction L with
  | nil => intro m; exact Nat.le_refl m
  | cons x L ih =>
    intro m
    obtain ⟨p, c⟩ := x
    have h1 := h (p, c) (by simp)
    have h2 : 0 < p ^ c := Nat.pow_pos (by have : 2 ≤ p := h1; omega)
    have h3 := ih (fun y hy => h y (by simp [hy])) (m * p ^ c)
    have h4 : m ≤ m * p ^ c := Nat.le_mul_of_pos_right m h2
    rw [prodP]
    omega
theorem fsts_at {L : List (Nat × Nat)} {k p c : Nat} (h : L[k]? = some (p, c)) : (fsts L)[k]? = some (p : Int) := by simp [fsts, ints, h]
theorem snds_at {L : List (Nat × Nat)} {k p c : Nat} (h : L[k]? = some (p, c)) : (snds L)[k]? = some (c : Int) := by simp [snds, ints, h]
theorem dropAt {L : List (Nat × Nat)} {k : Nat} {x : Nat × Nat} (h : L[k]? = some x) : L.drop k = x :: L.drop (k + 1) := by
  obtain ⟨h1, h2⟩ := List.getElem?_eq_some_iff.1 h
  rw [List.drop_eq_getElem_cons h1, h2]
/-- the loop's facts -/
structure Bk (N k m : Nat) : Prop where
  num : 1 ≤ N ∧ N ≤ 2000
  all : brkO N = brk m ((pps N).drop k)
  prod : prodP m ((pps N).drop k) = N
  one : 1 ≤ m
theorem Bk.start {N : Nat} (h1 : 1 ≤ N) (h2 : N ≤ 2000) : Bk N 0 1 := ⟨⟨h1, h2⟩, rfl, (pps_all h1 h2).1, Nat.le_refl 1⟩
theorem Bk.mem {N k m : Nat} (h : Bk N k m) : ∀ x ∈ (pps N).drop k, 2 ≤ x.1 := fun x hx => ((pows_mem (pps_pows h.num.1 h.num.2)).2 x (List.mem_of_mem_drop hx)).1
theorem Bk.top {N k m : Nat} (h : Bk N k m) : m ≤ 2000 := by
  have h1 := prod_ge h.mem m
  have h2 := h.num
  rw [h.prod] at h1
  omega
theorem Bk.hit {N k m p c : Nat} (h : Bk N k m) (hx : (pps N)[k]? = some (p, c)) (hs : sig m + 1 < p) : brkO N = some (p, m) := by
  rw [h.all, dropAt hx, brk, if_pos hs]
theorem Bk.next {N k m p c : Nat} (h : Bk N k m) (hx : (pps N)[k]? = some (p, c)) (hs : ¬ sig m + 1 < p) : Bk N (k + 1) (m * p ^ c) := by
  have h1 := h.all
  have h2 := h.prod
  have h3 := h.mem (p, c) (by rw [dropAt hx]; simp)
  rw [dropAt hx] at h1 h2
  rw [brk, if_neg hs] at h1
  exact ⟨h.num, h1, h2, Nat.mul_pos h.one (Nat.pow_pos (by have : 2 ≤ p := h3; omega))⟩
theorem Bk.done {N k m : Nat} (h : Bk N k m) (hk : (pps N).length ≤ k) : brkO N = none := by
  rw [h.all, List.drop_of_length_le hk]; rfl
theorem Bk.small {N k m p c : Nat} (h : Bk N k m) (hx : (pps N)[k]? = some (p, c)) : 2 ≤ p ∧ p ≤ 2000 ∧ 1 ≤ c ∧ c ≤ 2000 := by
  obtain ⟨a, b, d⟩ := (pows_mem (pps_pows h.num.1 h.num.2)).2 (p, c) (List.mem_of_getElem? hx)
  have hn := h.num
  have a' : 2 ≤ p := a
  have h1 : p ^ 1 ≤ p ^ c := Nat.pow_le_pow_right (by omega) b
  have h2 : c < p ^ c := Nat.lt_pow_self (by omega)
  rw [Nat.pow_one] at h1
  have d' : p ^ c ≤ N := d
  exact ⟨a', by omega, b, by omega⟩
/-- the products on the way to a power -/
theorem pow_way {m p c j : Nat} (hp : 2 ≤ p) (hj : j < c) (ht : m * p ^ c ≤ 2000) : m * p ^ j * p = m * p ^ (j + 1) ∧ m * p ^ (j + 1) ≤ 2000 := by
  refine ⟨by rw [Nat.pow_succ, Nat.mul_assoc], Nat.le_trans (Nat.mul_le_mul_left m (Nat.pow_le_pow_right (by omega) hj)) ht⟩
def brO (n : Int) : Option (Nat × Nat) := if numB n = true then brkO n.toNat else none
theorem brO_yes {N : Nat} (h : numB (N : Int) = true) : brO (N : Int) = brkO N := by unfold brO; rw [if_pos h]; rfl
theorem brO_no {n : Int} (h : numB n = false) : brO n = none := by unfold brO; rw [h]; rfl
def bkA (o : Option (Nat × Nat)) : Int := match o with | none => 0 | some (p, _) => (p : Int)
def bkB (o : Option (Nat × Nat)) : Int := match o with | none => 0 | some (_, m) => (m : Int)
def bkV (o : Option (Nat × Nat)) : Value := .tuple #[.int .i64 (bkA o), .int .i64 (bkB o), .bool o.isSome]
set_option maxRecDepth 100000 in
set_option maxHeartbeats 4000000 in
theorem spec_breakOf_any (n : Int) (w : World) : Calls Try.prog 64 #[.int .i64 n] w (Ret (bkV (brO n)) w) := by
  cases hn : numB n with
  | false =>
    have E := Lib.hid (brO_no hn)
    have HN : Hid (∀ w, Calls Try.prog 31 #[.int .i64 n] w (RetQ (.bool false) w)) := Lib.hid fun w => by have := prNumber_any n w; rwa [hn] at this
    clear hn
    go_enter Try.func64, Try.ntmps64
    go_wp2_with fail
    refine (HN.out _).mono ?_; rintro e w1 ⟨rfl, k1, rfl⟩
    go_wp2
    go_ret3
    rw [E.out]
    exact ⟨rfl, by (repeat' (first | (with_reducible exact Below.refl _ _) | (with_reducible assumption) | (with_reducible refine Below.drew ?_) | (with_reducible refine belowDrewN ?_ _) | (with_reducible refine Below.alloc ?_ ?_ _) | (with_reducible refine Below.setCell ?_ ?_ _) | (with_reducible refine belowStep (by assumption) ?_ ?_) | (with_reducible exact Below.size (by assumption)) | go_size))⟩
  | true =>
    obtain ⟨N, rfl, h1, h2⟩ := numB_nat hn
    have EO := Lib.hid (brO_yes hn)
    have HN : Hid (∀ w, Calls Try.prog 31 #[.int .i64 (N : Int)] w (RetQ (.bool true) w)) := Lib.hid fun w => by have := prNumber_any (N : Int) w; rwa [hn] at this
    have hL := ppO_len (N : Int)
    rw [ppO_yes hn] at hL
    simp only [Option.getD_some] at hL
    clear hn
    have hf1 := fsts_len (pps N)
    have hs1 := snds_len (pps N)
    have B0 := Lib.hid (Bk.start h1 h2)
    obtain ⟨ys, hys⟩ : ∃ ys, ys = fsts (pps N) := ⟨_, rfl⟩
    obtain ⟨zs, hzs⟩ : ∃ zs, zs = snds (pps N) := ⟨_, rfl⟩
    rw [← hys] at hf1
    rw [← hzs] at hs1
    obtain ⟨f2, f3⟩ : ys.length ≤ (pps N).length ∧ (pps N).length ≤ ys.length := by omega
    obtain ⟨s2, s3⟩ : zs.length ≤ (pps N).length ∧ (pps N).length ≤ zs.length := by omega
    have Hys := Lib.hid hys
    have Hzs := Lib.hid hzs
    clear hf1 hs1 hys hzs
    have HPP : Hid (∀ w, Calls Try.prog 80 #[.int .i64 (N : Int)] w (fun e w' => ∃ va vb, e = .returned (.tuple #[va, vb]) ∧ OwnI w' w.heap.size va ys ∧ OwnI w' w.heap.size vb zs ∧ Below w.heap.size w w')) := Lib.hid fun w => by
      refine (prPowers_any N w h1 h2).mono ?_
      rintro e w' ⟨va, vb, rfl, a, b, _, d⟩
      rw [Hys.out, Hzs.out]
      exact ⟨va, vb, rfl, a, b, d⟩
    go_enter Try.func64, Try.ntmps64
    go_wp2_with fail
    refine (HN.out _).mono ?_; rintro e w1 ⟨rfl, k1, rfl⟩
    go_wp2_with fail
    refine (HPP.out _).mono ?_; rintro e w2 ⟨va, vb, rfl, ho, hq, hb2⟩; obtain ⟨A2, c2, rfl, hra⟩ := ho.form; obtain ⟨B2, d2, rfl, hrb⟩ := hq.form
    have RA := Lib.hid hra
    have RB := Lib.hid hrb
    have hz2 := hb2.size
    (try simp only [World.heap_drewN] at hz2)
    clear ho hq hra hrb
    go_wp2
    go_loopw [5, 21] (fun v5 v21 wr => ∃ (k m : Nat), v5 = .int .i64 (m : Int) ∧ v21 = .int .i64 (k : Int) ∧ k ≤ ys.length ∧ Bk N k m ∧ Below w2.heap.size w2 wr) (fun _ v21 _ => ys.length - (intOf v21).toNat)
    case atStart => exact ⟨0, 1, rfl, rfl, Nat.zero_le _, B0.out, by (repeat' (first | (with_reducible exact Below.refl _ _) | (with_reducible assumption) | (with_reducible refine Below.drew ?_) | (with_reducible refine belowDrewN ?_ _) | (with_reducible refine Below.alloc ?_ ?_ _) | (with_reducible refine Below.setCell ?_ ?_ _) | (with_reducible refine belowStep (by assumption) ?_ ?_) | (with_reducible exact Below.size (by assumption)) | go_size))⟩
    case round =>
      obtain ⟨k, m, rfl, rfl, hk, hB, hbr⟩ := hrel
      have HB := Lib.hid hB
      have hm1 := hB.one
      have hm2 := hB.top
      have hzr := hbr.size
      clear hB
      by_cases hlt : k < ys.length
      · obtain ⟨⟨p, c⟩, hx⟩ : ∃ x, (pps N)[k]? = some x := ⟨_, List.getElem?_eq_getElem (show k < (pps N).length by omega)⟩
        obtain ⟨hp1, hp2, hc1, hc2⟩ := HB.out.small hx
        obtain ⟨b, o, x, rfl, hbb, hy, hcell⟩ := (RA.out.below hbr).at_ hlt
        obtain ⟨b', o', x', rfl, hbb', hy', hcell'⟩ := (RB.out.below hbr).at_ (show k < zs.length by omega)
        rw [Hys.out, fsts_at hx] at hy
        rw [Hzs.out, snds_at hx] at hy'
        injection hy with hy
        injection hy' with hy'
        subst hy hy'
        have hki : (k : Int) < (ys.length : Int) := by omega
        have hkz : (k : Int) < (zs.length : Int) := by omega
        have HS := Lib.hid fun (w : World) => prSum_any m w hm2
        have hsg := sig_small hm2
        by_cases hs : sig m + 1 < p
        · have E := Lib.hid (HB.out.hit hx hs)
          have hs' : (1 : Int) + (sig m : Int) < (p : Int) := by omega
          generalize sig m = sm at *
          clear hx
          go_wp2_with fail
          refine (HS.out _).mono ?_; rintro e w3 ⟨rfl, hb3⟩; have hz3 := hb3.size; (try simp only [World.size_alloc, World.size_setCell, World.size_drew, World.heap_drewN] at hz3)
          go_wp2
          go_ret3
          rw [EO.out, E.out]
          exact ⟨rfl, by (repeat' (first | (with_reducible exact Below.refl _ _) | (with_reducible assumption) | (with_reducible refine Below.drew ?_) | (with_reducible refine belowDrewN ?_ _) | (with_reducible refine Below.alloc ?_ ?_ _) | (with_reducible refine Below.setCell ?_ ?_ _) | (with_reducible refine belowStep (by assumption) ?_ ?_) | (with_reducible exact Below.size (by assumption)) | go_size))⟩
        · have hnx := HB.out.next hx hs
          have ht := hnx.top
          have HX := Lib.hid hnx
          have hs' : ¬ (1 : Int) + (sig m : Int) < (p : Int) := by omega
          generalize sig m = sm at *
          clear hx hnx hs
          go_wp2_with fail
          refine (HS.out _).mono ?_; rintro e w3 ⟨rfl, hb3⟩; have hz3 := hb3.size; (try simp only [World.size_alloc, World.size_setCell, World.size_drew, World.heap_drewN] at hz3)
          obtain ⟨hc3, hf3⟩ := bcellB hb3; have hz3 := hb3.size; (try simp only [World.size_alloc, World.size_setCell, World.size_drew, World.heap_drewN] at hc3 hf3 hz3); (try have hy3_r_0 : wr.heap.size < w3.heap.size := by omega); (try have hn3_r_0 : wr.heap.size ≠ w3.heap.size := by omega); (try have hm3_r_0 : w3.heap.size ≠ wr.heap.size := by omega); (try have hy3_r_1 : wr.heap.size + 1 < w3.heap.size := by omega); (try have hn3_r_1 : wr.heap.size + 1 ≠ w3.heap.size := by omega); (try have hm3_r_1 : w3.heap.size ≠ wr.heap.size + 1 := by omega); (try have hy3_r_2 : wr.heap.size + 1 + 1 < w3.heap.size := by omega); (try have hp3_r_1 : wr.heap.size < w3.heap.size + 1 := by omega); (try have hp3_r_2 : wr.heap.size < w3.heap.size + 1 + 1 := by omega); (try have hy3_0_0 : w.heap.size < w3.heap.size := by omega); (try have hn3_0_0 : w.heap.size ≠ w3.heap.size := by omega); (try have hm3_0_0 : w3.heap.size ≠ w.heap.size := by omega); (try have hy3_0_1 : w.heap.size + 1 < w3.heap.size := by omega); (try have hn3_0_1 : w.heap.size + 1 ≠ w3.heap.size := by omega); (try have hm3_0_1 : w3.heap.size ≠ w.heap.size + 1 := by omega); (try have hy3_0_2 : w.heap.size + 1 + 1 < w3.heap.size := by omega); (try have hp3_0_1 : w.heap.size < w3.heap.size + 1 := by omega); (try have hp3_0_2 : w.heap.size < w3.heap.size + 1 + 1 := by omega); (try have hy3_1_0 : w1.heap.size < w3.heap.size := by omega); (try have hn3_1_0 : w1.heap.size ≠ w3.heap.size := by omega); (try have hm3_1_0 : w3.heap.size ≠ w1.heap.size := by omega); (try have hy3_1_1 : w1.heap.size + 1 < w3.heap.size := by omega); (try have hn3_1_1 : w1.heap.size + 1 ≠ w3.heap.size := by omega); (try have hm3_1_1 : w3.heap.size ≠ w1.heap.size + 1 := by omega); (try have hy3_1_2 : w1.heap.size + 1 + 1 < w3.heap.size := by omega); (try have hp3_1_1 : w1.heap.size < w3.heap.size + 1 := by omega); (try have hp3_1_2 : w1.heap.size < w3.heap.size + 1 + 1 := by omega); (try have hy3_2_0 : w2.heap.size < w3.heap.size := by omega); (try have hn3_2_0 : w2.heap.size ≠ w3.heap.size := by omega); (try have hm3_2_0 : w3.heap.size ≠ w2.heap.size := by omega); (try have hy3_2_1 : w2.heap.size + 1 < w3.heap.size := by omega); (try have hn3_2_1 : w2.heap.size + 1 ≠ w3.heap.size := by omega); (try have hm3_2_1 : w3.heap.size ≠ w2.heap.size + 1 := by omega); (try have hy3_2_2 : w2.heap.size + 1 + 1 < w3.heap.size := by omega); (try have hp3_2_1 : w2.heap.size < w3.heap.size + 1 := by omega); (try have hp3_2_2 : w2.heap.size < w3.heap.size + 1 + 1 := by omega); (try have hg3_g1 : g1 < w3.heap.size := by omega); (try have hi3_g1 : g1 ≠ w3.heap.size := by omega); (try have hj3_g1 : w3.heap.size ≠ g1 := by omega); (try have hk3_g1 : g1 < w3.heap.size + 1 := by omega); (try have hg3_g2 : g2 < w3.heap.size := by omega); (try have hi3_g2 : g2 ≠ w3.heap.size := by omega); (try have hj3_g2 : w3.heap.size ≠ g2 := by omega); (try have hk3_g2 : g2 < w3.heap.size + 1 := by omega)
          go_wp2
          go_loopw [5, 10] (fun v5 v10 wq => ∃ j : Nat, j ≤ c ∧ v5 = .int .i64 ((m * p ^ j : Nat) : Int) ∧ v10 = .int .i64 ((c - j : Nat) : Int) ∧ ∃ i, wq = w3.drewN i) (fun _ v10 _ => (intOf v10).toNat)
          case atStart => exact ⟨0, Nat.zero_le _, by simp, by simp, 0, rfl⟩
          case round =>
            obtain ⟨j, hj, rfl, rfl, i, rfl⟩ := hrel
            by_cases hjt : j < c
            · obtain ⟨e1, e2⟩ := pow_way hp1 hjt ht
              have hcj : (0 : Int) < ((c - j : Nat) : Int) := by omega
              have hcj2 : ((c - j : Nat) : Int) - 1 = ((c - (j + 1) : Nat) : Int) := by omega
              have e3 : ((m * p ^ j : Nat) : Int) * (p : Int) = ((m * p ^ (j + 1) : Nat) : Int) := by rw [← e1, Int.natCast_mul (m * p ^ j) p]
              have e4 : m * p ^ j ≤ 2000 := Nat.le_trans (Nat.mul_le_mul_left m (Nat.pow_le_pow_right (by omega) (by omega))) e2
              have E3 := Lib.hid e3
              have E4 := Lib.hid hcj2
              have hcc : c - j ≤ 2000 := by omega
              have hw : IntKind.i64.wrap (((m * p ^ j : Nat) : Int) * (p : Int)) = ((m * p ^ (j + 1) : Nat) : Int) := by rw [e3]; exact IntWalk.i64_in _ (by omega)
              clear e1 e3 hcj2
              obtain ⟨z, hz9⟩ : ∃ z, z = m * p ^ (j + 1) := ⟨_, rfl⟩
              rw [← hz9] at E3 e2 hw
              have EZ := Lib.hid hz9
              clear hz9
              generalize m * p ^ j = y at *
              obtain ⟨cj, hcj9⟩ : ∃ cj, cj = c - j := ⟨_, rfl⟩
              rw [← hcj9] at hcj hcc E4 ⊢
              go_wp2
              go_roundw
              case rel => exact ⟨j + 1, by omega, by rw [← EZ.out], by rw [← E4.out, hcj9], i, rfl⟩
              case measure => simp [intOf]; omega
            · obtain rfl : j = c := by omega
              have hc0 : ((j - j : Nat) : Int) = 0 := by omega
              rw [hc0]
              generalize m * p ^ j = y at *
              go_wp2
              go_roundw
              case rel => exact ⟨k + 1, y, rfl, by go_num, by omega, HX.out, by (repeat' (first | (with_reducible exact Below.refl _ _) | (with_reducible assumption) | (with_reducible refine Below.drew ?_) | (with_reducible refine belowDrewN ?_ _) | (with_reducible refine Below.alloc ?_ ?_ _) | (with_reducible refine Below.setCell ?_ ?_ _) | (with_reducible refine belowStep (by assumption) ?_ ?_) | (with_reducible exact Below.size (by assumption)) | go_size))⟩
              case measure => simp [intOf]; omega
      · have E := Lib.hid (HB.out.done (show (pps N).length ≤ k by omega))
        have hki : ¬ (k : Int) < (ys.length : Int) := by omega
        go_wp2
        go_ret3
        rw [EO.out, E.out]
        exact ⟨rfl, by (repeat' (first | (with_reducible exact Below.refl _ _) | (with_reducible assumption) | (with_reducible refine Below.drew ?_) | (with_reducible refine belowDrewN ?_ _) | (with_reducible refine Below.alloc ?_ ?_ _) | (with_reducible refine Below.setCell ?_ ?_ _) | (with_reducible refine belowStep (by assumption) ?_ ?_) | (with_reducible exact Below.size (by assumption)) | go_size))⟩
end Go.Proofs.Ytbjblkfibinenad
