
/-
  Contracts of the prime numbers that divide a number, and how often, in the program and in the model.
-/
import Derived.Test.YtbjblkfibinenadDivC
namespace Go.Proofs.Ytbjblkfibinenad
open Go.RowKit
/-- two slices that lie in blocks of their own -/
def Sep (va vb : Value) : Prop := ∀ k, va.ownBlock = some k → vb.ownBlock = some k → False
theorem OwnI.beside {w w' : World} {base : Nat} {va vb : Value} {xs : List Int} (h : OwnI w base vb xs) (hg : w.grownBy w' va.ownBlock) (hs : Sep va vb) : OwnI w' base vb xs := by
  refine World.ownsRow.kept h hg ?_
  cases hv : vb.ownBlock with
  | none => exact .inl rfl
  | some k => exact .inr fun e => hs k e.symm hv
theorem Sep.next {w : World} {base : Nat} {va vb va' : Value} {xs : List Int} (hs : Sep va vb) (h : OwnI w base vb xs) (ht : va'.ownBlock = va.ownBlock ∨ va'.ownBlock = some w.heap.size) : Sep va' vb := by
  intro k h1 h2
  rcases ht with ht | ht
  · exact hs k (ht ▸ h1) h2
  · rw [ht] at h1
    injection h1 with h1
    have := (h.block k h2).2
    omega
theorem Sep.symm {va vb : Value} (h : Sep va vb) : Sep vb va := fun k h1 h2 => h k h2 h1
theorem remv {n p : Nat} : ((n : Int).tmod (p : Int) = ((n % p : Nat) : Int)) ∧ ((n : Int) % (p : Int) = ((n % p : Nat) : Int)) ∧ ((n : Int).tdiv (p : Int) = ((n / p : Nat) : Int)) ∧ ((n : Int) / (p : Int) = ((n / p : Nat) : Int)) := by
  refine ⟨?_, (Int.natCast_emod n p).symm, ?_, (Int.natCast_ediv n p).symm⟩
  · rw [Int.tmod_eq_emod_of_nonneg (by omega), Int.natCast_emod]
  · rw [Int.tdiv_eq_ediv_of_nonneg (by omega), Int.natCast_ediv]
theorem ppw_yes {f p l : Nat} (h : ¬ l ≤ 1) (h2 : 0 < (strip p 11 l).1) : ppw (f + 1) p l = (p, (strip p 11 l).1) :: ppw f (p + 1) (strip p 11 l).2 := by rw [ppw, if_neg h, if_pos h2]
theorem ppw_no {f p l : Nat} (h : ¬ l ≤ 1) (h2 : ¬ 0 < (strip p 11 l).1) : ppw (f + 1) p l = ppw f (p + 1) (strip p 11 l).2 := by rw [ppw, if_neg h, if_neg h2]
theorem ppw_end {f p l : Nat} (h : l ≤ 1) : ppw f p l = [] := by
  cases f with
  | zero => rfl
  | succ f => rw [ppw, if_pos h]
def fsts (L : List (Nat × Nat)) : List Int := ints (L.map Prod.fst)
def snds (L : List (Nat × Nat)) : List Int := ints (L.map Prod.snd)
theorem fsts_len (L : List (Nat × Nat)) : (fsts L).length = L.length := by simp [fsts, ints]
theorem snds_len (L : List (Nat × Nat)) : (snds L).length = L.length := by simp [snds, ints]
theorem fsts_app (L : List (Nat × Nat)) (p c : Nat) : fsts (L ++ [(p, c)]) = fsts L ++ [(p : Int)] := by simp [fsts, ints]
theorem snds_app (L : List (Nat × Nat)) (p c : Nat) : snds (L ++ [(p, c)]) = snds L ++ [(c : Int)] := by simp [snds, ints]
/-- the loop's facts -/
structure Pp (N f p l : Nat) (L : List (Nat × Nat)) : Prop where
  all : pps N = L ++ ppw f p l
  fuel : p + f = 2002
  two : 2 ≤ p
  one : 1 ≤ l
  top : l ≤ 2000
  rough : Rough p l
  few : L.length ≤ p
theorem Pp.start {N : Nat} (h1 : 1 ≤ N) (h2 : N ≤ 2000) : Pp N 2000 2 N [] := ⟨rfl, rfl, Nat.le_refl _, h1, h2, fun _ hq _ => hq, by simp⟩
theorem Pp.fuel_pos {N f p l : Nat} {L : List (Nat × Nat)} (h : Pp N f p l L) (hl : 2 ≤ l) : 1 ≤ f := by
  have h1 := rough_le h.rough hl
  have h2 := h.fuel
  have h3 := h.top
  omega
theorem Pp.next {N f p l : Nat} {L : List (Nat × Nat)} (h : Pp N (f + 1) p l L) (hl : 2 ≤ l) :
    Pp N f (p + 1) (strip p 11 l).2 (if 0 < (strip p 11 l).1 then L ++ [(p, (strip p 11 l).1)] else L) := by
  have ht := h.top
  obtain ⟨a, b, c⟩ := strip_facts h.two 11 l h.one (by omega)
  have hr : (strip p 11 l).2 ∣ l := by
    have h : (strip p 11 l).2 ∣ (strip p 11 l).2 * p ^ (strip p 11 l).1 := Nat.dvd_mul_right _ _
    rw [← a] at h
    exact h
  have hle := Nat.le_of_dvd h.one hr
  have hf := h.fuel
  have h2 := h.two
  have h9 := h.few
  refine ⟨?_, by omega, by omega, c, by omega, rough_next h.rough hr b, ?_⟩
  · rw [h.all]
    by_cases hc : 0 < (strip p 11 l).1
    · rw [if_pos hc, ppw_yes (by omega) hc, List.append_assoc]; rfl
    · rw [if_neg hc, ppw_no (by omega) hc]
  · split
    · simp; omega
    · omega
/-- the inner loop's facts -/
structure St (p l c g m : Nat) : Prop where
  all : strip p 11 l = (c + (strip p g m).1, (strip p g m).2)
  fuel : c + g = 11
  one : 1 ≤ m
  fit : m < 2 ^ g
  top : m ≤ 2000
theorem St.start {p l : Nat} (h1 : 1 ≤ l) (h2 : l ≤ 2000) : St p l 0 11 l := ⟨by simp, rfl, h1, by omega, h2⟩
theorem St.next {p l c g m : Nat} (hp : 2 ≤ p) (h : St p l c g m) (hm : m % p = 0) : St p l (c + 1) (g - 1) (m / p) ∧ 1 ≤ g := by
  have hg : 1 ≤ g := by
    rcases Nat.eq_zero_or_pos g with h0 | h0
    · have h1 := h.fit
      have h2 := h.one
      rw [h0] at h1
      simp at h1
      omega
    · exact h0
  obtain ⟨g, rfl⟩ : ∃ j, g = j + 1 := ⟨g - 1, by omega⟩
  have h1 := h.one
  have e : m / p * p = m := Nat.div_mul_cancel (Nat.dvd_of_mod_eq_zero hm)
  have h3 : 1 ≤ m / p := by
    rcases Nat.eq_zero_or_pos (m / p) with h0 | h0
    · rw [h0] at e; omega
    · exact h0
  have h4 := h.fit
  rw [Nat.pow_succ] at h4
  have h5 : m / p * 2 ≤ m / p * p := Nat.mul_le_mul_left _ hp
  have h6 := h.top
  have h7 := h.fuel
  refine ⟨⟨?_, by omega, h3, by rw [Nat.add_sub_cancel]; omega, by omega⟩, hg⟩
  rw [h.all, strip_yes hm, Nat.add_sub_cancel]
  simp only [Prod.mk.injEq, and_true]
  omega
theorem St.done {p l c g m : Nat} (h : St p l c g m) (hm : m % p ≠ 0) : strip p 11 l = (c, m) := by
  cases g with
  | zero =>
    have h1 := h.fit
    have h2 := h.one
    simp at h1
    omega
  | succ g => rw [h.all, strip_no hm]; rfl
set_option maxRecDepth 100000 in
set_option maxHeartbeats 4000000 in
theorem prPowers_any (N : Nat) (w : World) (h1 : 1 ≤ N) (h2 : N ≤ 2000) : Calls Try.prog 80 #[.int .i64 (N : Int)] w (fun e w' => ∃ va vb, e = .returned (.tuple #[va, vb]) ∧ OwnI w' w.heap.size va (fsts (pps N)) ∧ OwnI w' w.heap.size vb (snds (pps N)) ∧ Sep va vb ∧ Below w.heap.size w w') := by
  go_enter Try.func80, Try.ntmps80
  go_wp2
  go_loopw [0, 4, 5, 6] (fun v0 v4 v5 v6 wr => ∃ (f p l : Nat) (L : List (Nat × Nat)), v0 = .int .i64 (l : Int) ∧ v6 = .int .i64 (p : Int) ∧ Pp N f p l L ∧ OwnI wr w.heap.size v4 (fsts L) ∧ OwnI wr w.heap.size v5 (snds L) ∧ Sep v4 v5 ∧ Below w.heap.size w wr) (fun _ _ _ v6 _ => 2002 - (intOf v6).toNat)
  case atStart => exact ⟨2000, 2, N, [], rfl, rfl, Pp.start h1 h2, OwnI.empty _ _, OwnI.empty _ _, (by intro k h1 h2; simp [Value.ownBlock] at h1), by (repeat' (first | (with_reducible exact Below.refl _ _) | (with_reducible assumption) | (with_reducible refine Below.drew ?_) | (with_reducible refine belowDrewN ?_ _) | (with_reducible refine Below.alloc ?_ ?_ _) | (with_reducible refine Below.setCell ?_ ?_ _) | (with_reducible refine belowStep (by assumption) ?_ ?_) | (with_reducible exact Below.size (by assumption)) | go_size))⟩
  case round =>
    obtain ⟨f, p, l, L, rfl, rfl, hp, ho, hq, hs, hbr⟩ := hrel
    have HP := Lib.hid hp
    have Ho := Lib.hid ho
    have Hq := Lib.hid hq
    have Hs := Lib.hid hs
    have hzr := hbr.size
    have hp2 := hp.two
    have hp3 := hp.fuel
    have hp4 := hp.few
    have hl1 := hp.one
    have hl2 := hp.top
    have hle1 := fsts_len L
    have hle2 := snds_len L
    clear hp ho hq hs
    by_cases hlt : 2 ≤ l
    · have hf := HP.out.fuel_pos hlt
      obtain ⟨f, rfl⟩ : ∃ j, f = j + 1 := ⟨f - 1, by omega⟩
      have hlt' : (1 : Int) < (l : Int) := by omega
      have hne : (p : Int) ≠ 0 := by omega
      go_wp2
      go_loopw [0, 7] (fun v0 v7 wq => ∃ (c g m : Nat), v0 = .int .i64 (m : Int) ∧ v7 = .int .i64 (c : Int) ∧ St p l c g m ∧ ∃ k, wq = wr.drewN k) (fun _ v7 _ => 11 - (intOf v7).toNat)
      case atStart => exact ⟨0, 11, l, rfl, rfl, St.start hl1 hl2, 0, rfl⟩
      case round =>
        obtain ⟨c, g, m, rfl, rfl, hst, k, rfl⟩ := hrel
        have HS := Lib.hid hst
        have hm1 := hst.one
        have hm2 := hst.top
        have hm3 := hst.fuel
        clear hst
        obtain ⟨e1, e2, e3, e4⟩ := @remv m p
        by_cases hm : m % p = 0
        · obtain ⟨hn, hg⟩ := HS.out.next hp2 hm
          have HN := Lib.hid hn
          rw [hm] at e1 e2
          have hq1 : m / p ≤ m := Nat.div_le_self m p
          clear hn hm
          generalize m / p = q at *
          go_wp2
          go_roundw
          case rel => exact ⟨c + 1, g - 1, q, by first | rfl | (rw [e3]; done) | (rw [e4]; done) | go_num, by go_num, HN.out, k, rfl⟩
          case measure => simp [intOf]; omega
        · have hd := HS.out.done hm
          have hnx := HP.out.next hlt
          rw [hd] at hnx
          have hr1 : m % p ≤ m := Nat.mod_le m p
          generalize m % p = r at *
          have hb1 : ((r : Int) == 0) = false := by simp; omega
          have hb2 : (r : Int) ≠ 0 := by omega
          by_cases hc : 0 < c
          · have hc' : (0 : Int) < (c : Int) := by omega
            rw [if_pos hc] at hnx
            have HX := Lib.hid hnx
            clear hnx hd
            go_wp2_with (first
              | (at_builtin; refine wpList_app _ (o := ⟨some 26, _, _, _, _, _⟩) (ys := [(p : Int)]) rfl _ _ rfl rfl (OwnI.below (Ho.out.drewN k) ((Below.refl _ _).alloc (Nat.le_refl _) _)) (1) (1) (by first | (simp; done) | (simp; omega)) rfl (Reads.one _ (p : Int)) (by (try simp only [List.length_nil, List.length_cons]); omega) (by first | exact Nat.le_refl _ | ((try simp only [World.size_alloc, World.heap_drewN]); omega)) ?_; intro v3 w3 ho3 hb3 hg3 ht3; have hz3 := hb3.size; (try simp only [World.size_alloc, World.heap_drewN] at hz3))
              | (at_builtin; refine wpList_app _ (o := ⟨some 30, _, _, _, _, _⟩) (ys := [(c : Int)]) rfl _ _ rfl rfl (OwnI.below (OwnI.beside (OwnI.below (Hq.out.drewN k) ((Below.refl _ _).alloc (Nat.le_refl _) _)) hg3 Hs.out) ((Below.refl _ _).alloc (Nat.le_refl _) _)) (1) (1) (by first | (simp; done) | (simp; omega)) rfl (Reads.one _ (c : Int)) (by (try simp only [List.length_nil, List.length_cons]); omega) (by first | exact Nat.le_refl _ | ((try simp only [World.size_alloc]); omega)) ?_; intro v4 w4 ho4 hb4 hg4 ht4; have hz4 := hb4.size; (try simp only [World.size_alloc] at hz4)))
            have S1 := Lib.hid (Sep.next Hs.out (OwnI.below (Hq.out.drewN k) ((Below.refl _ _).alloc (Nat.le_refl _) _)) ht3)
            go_roundw
            case rel => exact ⟨f, p + 1, m, L ++ [(p, c)], rfl, by go_num, HX.out, by rw [fsts_app]; exact OwnI.beside (OwnI.below ho3 ((Below.refl _ _).alloc (Nat.le_refl _) _)) hg4 S1.out.symm, by rw [snds_app]; exact ho4, (Sep.next S1.out.symm (OwnI.below ho3 ((Below.refl _ _).alloc (Nat.le_refl _) _)) ht4).symm, by (repeat' (first | (with_reducible exact Below.refl _ _) | (with_reducible assumption) | (with_reducible refine Below.drew ?_) | (with_reducible refine belowDrewN ?_ _) | (with_reducible refine Below.alloc ?_ ?_ _) | (with_reducible refine Below.setCell ?_ ?_ _) | (with_reducible refine belowStep (by assumption) ?_ ?_) | (with_reducible exact Below.size (by assumption)) | go_size))⟩
            case measure => simp [intOf]; omega
          · have hc' : ¬ (0 : Int) < (c : Int) := by omega
            rw [if_neg hc] at hnx
            have HX := Lib.hid hnx
            clear hnx hd
            go_wp2
            go_roundw
            case rel => exact ⟨f, p + 1, m, L, rfl, by go_num, HX.out, Ho.out.drewN k, Hq.out.drewN k, Hs.out, by (repeat' (first | (with_reducible exact Below.refl _ _) | (with_reducible assumption) | (with_reducible refine Below.drew ?_) | (with_reducible refine belowDrewN ?_ _) | (with_reducible refine Below.alloc ?_ ?_ _) | (with_reducible refine Below.setCell ?_ ?_ _) | (with_reducible refine belowStep (by assumption) ?_ ?_) | (with_reducible exact Below.size (by assumption)) | go_size))⟩
            case measure => simp [intOf]; omega
    · have hlt' : ¬ (1 : Int) < (l : Int) := by omega
      have E : Hid (pps N = L) := Lib.hid (by rw [HP.out.all, ppw_end (by omega), List.append_nil])
      go_wp2
      go_ret2
      rw [E.out]
      exact ⟨_, _, rfl, Ho.out, Hq.out, Hs.out, by (repeat' (first | (with_reducible exact Below.refl _ _) | (with_reducible assumption) | (with_reducible refine Below.drew ?_) | (with_reducible refine belowDrewN ?_ _) | (with_reducible refine Below.alloc ?_ ?_ _) | (with_reducible refine Below.setCell ?_ ?_ _) | (with_reducible refine belowStep (by assumption) ?_ ?_) | (with_reducible exact Below.size (by assumption)) | go_size))⟩
end Go.Proofs.Ytbjblkfibinenad
