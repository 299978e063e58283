
/-
  Contracts of PrimePowers, in the program and in the model.
-/
import Derived.Test.YtbjblkfibinenadPpC
namespace Go.Proofs.Ytbjblkfibinenad
open Go.RowKit
def ppO (n : Int) : Option (List (Nat × Nat)) := if numB n = true then some (pps n.toNat) else none
theorem ppO_yes {N : Nat} (h : numB (N : Int) = true) : ppO (N : Int) = some (pps N) := by unfold ppO; rw [if_pos h]; rfl
theorem ppO_no {n : Int} (h : numB n = false) : ppO n = none := by unfold ppO; rw [h]; rfl
theorem pows_len {p l : Nat} {L : List (Nat × Nat)} (h : Pows p l L) : p + L.length ≤ p + l := by
  induction h with
  | nil p => simp
  | @cons p q c r L hpq hq hc hqr hr hro _ ih =>
    have h1 : r * 2 ≤ r * q ^ c := Nat.mul_le_mul_left _ (by
      have h3 : q ^ 1 ≤ q ^ c := Nat.pow_le_pow_right (by have := hq.1; omega) hc
      rw [Nat.pow_one] at h3
      have := hq.1
      omega)
    rw [List.length_cons]
    omega
theorem ppO_len (n : Int) : ((ppO n).getD []).length ≤ 2000 := by
  unfold ppO
  split
  · rename_i h
    have h0 := (numB_iff n).1 h
    have := pows_len (pps_pows (n := n.toNat) (by omega) (by omega))
    rw [Option.getD_some]
    omega
  · simp
/-- what calls leave that return two lists beside each other and whether they are told -/
def RetPP (L : List (Nat × Nat)) (b : Bool) (w : World) (e : Ending) (w' : World) : Prop := ∃ va vb, e = .returned (.tuple #[va, vb, .bool b]) ∧ OwnI w' w.heap.size va (fsts L) ∧ OwnI w' w.heap.size vb (snds L) ∧ Sep va vb ∧ Below w.heap.size w w'
set_option maxRecDepth 100000 in
set_option maxHeartbeats 4000000 in
theorem primePowers_any (n : Int) (w : World) : Calls Try.prog 81 #[.int .i64 n] w (RetPP ((ppO n).getD []) (ppO n).isSome w) := by
  cases hn : numB n with
  | false =>
    have E := Lib.hid (ppO_no hn)
    have HN : Hid (∀ w, Calls Try.prog 34 #[.int .i64 n] w (RetQ (.bool false) w)) := Lib.hid fun w => by have := isNumber_any n w; rwa [hn] at this
    clear hn
    go_enter Try.func81, Try.ntmps81
    go_wp2_with fail
    refine (HN.out _).mono ?_; rintro e w1 ⟨rfl, k1, rfl⟩
    go_wp2
    go_ret3
    rw [E.out]
    exact ⟨_, _, rfl, OwnI.empty _ _, OwnI.empty _ _, (by intro k h1 h2; simp [Value.ownBlock] at h1), by (repeat' (first | (with_reducible exact Below.refl _ _) | (with_reducible assumption) | (with_reducible refine Below.drew ?_) | (with_reducible refine belowDrewN ?_ _) | (with_reducible refine Below.alloc ?_ ?_ _) | (with_reducible refine Below.setCell ?_ ?_ _) | (with_reducible refine belowStep (by assumption) ?_ ?_) | (with_reducible exact Below.size (by assumption)) | go_size))⟩
  | true =>
    obtain ⟨N, rfl, h1, h2⟩ := numB_nat hn
    have EO := Lib.hid (ppO_yes hn)
    have HN : Hid (∀ w, Calls Try.prog 34 #[.int .i64 (N : Int)] w (RetQ (.bool true) w)) := Lib.hid fun w => by have := isNumber_any (N : Int) w; rwa [hn] at this
    clear hn
    go_enter Try.func81, Try.ntmps81
    go_wp2_with fail
    refine (HN.out _).mono ?_; rintro e w1 ⟨rfl, k1, rfl⟩
    go_wp2
    go_loopw [5, 6, 7, 8] (fun v4 v5 v6 v0 wr => ∃ (f p l : Nat) (L : List (Nat × Nat)), v0 = .int .i64 (l : Int) ∧ v6 = .int .i64 (p : Int) ∧ Pp N f p l L ∧ OwnI wr w.heap.size v4 (fsts L) ∧ OwnI wr w.heap.size v5 (snds L) ∧ Sep v4 v5 ∧ Below w.heap.size w wr) (fun _ _ v6 _ _ => 2002 - (intOf v6).toNat)
    case atStart => exact ⟨2000, 2, N, [], rfl, rfl, Pp.start h1 h2, OwnI.below (OwnI.zero (w.drewN k1) w.heap.size (by (first | (go_size; done) | ((try simp only [World.size_alloc, World.size_setCell, World.size_drew, World.heap_drewN]); omega)))) ((Below.refl _ _).alloc (Nat.le_refl _) _), (by have h9 := OwnI.zero ((w.drewN k1).alloc (.cells #[] 3)) w.heap.size (by (first | (go_size; done) | ((try simp only [World.size_alloc, World.size_setCell, World.size_drew, World.heap_drewN]); omega))); rw [World.size_alloc] at h9; exact h9), (by intro k h1 h2; simp [Value.ownBlock] at h1 h2; omega), by (repeat' (first | (with_reducible exact Below.refl _ _) | (with_reducible assumption) | (with_reducible refine Below.drew ?_) | (with_reducible refine belowDrewN ?_ _) | (with_reducible refine Below.alloc ?_ ?_ _) | (with_reducible refine Below.setCell ?_ ?_ _) | (with_reducible refine belowStep (by assumption) ?_ ?_) | (with_reducible exact Below.size (by assumption)) | go_size))⟩
    case round =>
      obtain ⟨f, p, l, L, rfl, rfl, hp, ho, hq, hs, hbr⟩ := hrel
      have HP := Lib.hid hp
      have Ho := Lib.hid ho
      have Hq := Lib.hid hq
      have Hs := Lib.hid hs
      have hzr := hbr.size
      have hp2 := hp.two
      have hp3 := hp.fuel
      have hp4 := hp.few
      have hl1 := hp.one
      have hl2 := hp.top
      have hle1 := fsts_len L
      have hle2 := snds_len L
      clear hp ho hq hs
      by_cases hlt : 2 ≤ l
      · have hf := HP.out.fuel_pos hlt
        obtain ⟨f, rfl⟩ : ∃ j, f = j + 1 := ⟨f - 1, by omega⟩
        have hlt' : (1 : Int) < (l : Int) := by omega
        have hne : (p : Int) ≠ 0 := by omega
        go_wp2
        go_loopw [8, 9] (fun v0 v7 wq => ∃ (c g m : Nat), v0 = .int .i64 (m : Int) ∧ v7 = .int .i64 (c : Int) ∧ St p l c g m ∧ ∃ k, wq = wr.drewN k) (fun _ v7 _ => 11 - (intOf v7).toNat)
        case atStart => exact ⟨0, 11, l, rfl, rfl, St.start hl1 hl2, 0, rfl⟩
        case round =>
          obtain ⟨c, g, m, rfl, rfl, hst, k, rfl⟩ := hrel
          have HS := Lib.hid hst
          have hm1 := hst.one
          have hm2 := hst.top
          have hm3 := hst.fuel
          clear hst
          obtain ⟨e1, e2, e3, e4⟩ := @remv m p
          by_cases hm : m % p = 0
          · obtain ⟨hn, hg⟩ := HS.out.next hp2 hm
            have HN := Lib.hid hn
            rw [hm] at e1 e2
            have hq1 : m / p ≤ m := Nat.div_le_self m p
            clear hn hm
            generalize m / p = q at *
            go_wp2
            go_roundw
            case rel => exact ⟨c + 1, g - 1, q, by first | rfl | (rw [e3]; done) | (rw [e4]; done) | go_num, by go_num, HN.out, k, rfl⟩
            case measure => simp [intOf]; omega
          · have hd := HS.out.done hm
            have hnx := HP.out.next hlt
            rw [hd] at hnx
            have hr1 : m % p ≤ m := Nat.mod_le m p
            generalize m % p = r at *
            have hb1 : ((r : Int) == 0) = false := by simp; omega
            have hb2 : (r : Int) ≠ 0 := by omega
            by_cases hc : 0 < c
            · have hc' : (0 : Int) < (c : Int) := by omega
              rw [if_pos hc] at hnx
              have HX := Lib.hid hnx
              clear hnx hd
              go_wp2_with (first
                | (at_builtin; refine wpList_app _ (o := ⟨some 34, _, _, _, _, _⟩) (ys := [(p : Int)]) rfl _ _ rfl rfl (OwnI.below (Ho.out.drewN k) ((Below.refl _ _).alloc (Nat.le_refl _) _)) (1) (1) (by first | (simp; done) | (simp; omega)) rfl (Reads.one _ (p : Int)) (by (try simp only [List.length_nil, List.length_cons]); omega) (by first | exact Nat.le_refl _ | ((try simp only [World.size_alloc, World.heap_drewN]); omega)) ?_; intro v3 w3 ho3 hb3 hg3 ht3; have hz3 := hb3.size; (try simp only [World.size_alloc, World.heap_drewN] at hz3))
                | (at_builtin; refine wpList_app _ (o := ⟨some 38, _, _, _, _, _⟩) (ys := [(c : Int)]) rfl _ _ rfl rfl (OwnI.below (OwnI.beside (OwnI.below (Hq.out.drewN k) ((Below.refl _ _).alloc (Nat.le_refl _) _)) hg3 Hs.out) ((Below.refl _ _).alloc (Nat.le_refl _) _)) (1) (1) (by first | (simp; done) | (simp; omega)) rfl (Reads.one _ (c : Int)) (by (try simp only [List.length_nil, List.length_cons]); omega) (by first | exact Nat.le_refl _ | ((try simp only [World.size_alloc]); omega)) ?_; intro v4 w4 ho4 hb4 hg4 ht4; have hz4 := hb4.size; (try simp only [World.size_alloc] at hz4)))
              have S1 := Lib.hid (Sep.next Hs.out (OwnI.below (Hq.out.drewN k) ((Below.refl _ _).alloc (Nat.le_refl _) _)) ht3)
              go_roundw
              case rel => exact ⟨f, p + 1, m, L ++ [(p, c)], rfl, by go_num, HX.out, by rw [fsts_app]; exact OwnI.beside (OwnI.below ho3 ((Below.refl _ _).alloc (Nat.le_refl _) _)) hg4 S1.out.symm, by rw [snds_app]; exact ho4, (Sep.next S1.out.symm (OwnI.below ho3 ((Below.refl _ _).alloc (Nat.le_refl _) _)) ht4).symm, by (repeat' (first | (with_reducible exact Below.refl _ _) | (with_reducible assumption) | (with_reducible refine Below.drew ?_) | (with_reducible refine belowDrewN ?_ _) | (with_reducible refine Below.alloc ?_ ?_ _) | (with_reducible refine Below.setCell ?_ ?_ _) | (with_reducible refine belowStep (by assumption) ?_ ?_) | (with_reducible exact Below.size (by assumption)) | go_size))⟩
              case measure => simp [intOf]; omega
            · have hc' : ¬ (0 : Int) < (c : Int) := by omega
              rw [if_neg hc] at hnx
              have HX := Lib.hid hnx
              clear hnx hd
              go_wp2
              go_roundw
              case rel => exact ⟨f, p + 1, m, L, rfl, by go_num, HX.out, Ho.out.drewN k, Hq.out.drewN k, Hs.out, by (repeat' (first | (with_reducible exact Below.refl _ _) | (with_reducible assumption) | (with_reducible refine Below.drew ?_) | (with_reducible refine belowDrewN ?_ _) | (with_reducible refine Below.alloc ?_ ?_ _) | (with_reducible refine Below.setCell ?_ ?_ _) | (with_reducible refine belowStep (by assumption) ?_ ?_) | (with_reducible exact Below.size (by assumption)) | go_size))⟩
              case measure => simp [intOf]; omega
      · have hlt' : ¬ (1 : Int) < (l : Int) := by omega
        have E : Hid (pps N = L) := Lib.hid (by rw [HP.out.all, ppw_end (by omega), List.append_nil])
        go_wp2
        go_ret3
        rw [EO.out, Option.getD_some, E.out]
        exact ⟨_, _, rfl, Ho.out, Hq.out, Hs.out, by (repeat' (first | (with_reducible exact Below.refl _ _) | (with_reducible assumption) | (with_reducible refine Below.drew ?_) | (with_reducible refine belowDrewN ?_ _) | (with_reducible refine Below.alloc ?_ ?_ _) | (with_reducible refine Below.setCell ?_ ?_ _) | (with_reducible refine belowStep (by assumption) ?_ ?_) | (with_reducible exact Below.size (by assumption)) | go_size))⟩
end Go.Proofs.Ytbjblkfibinenad
