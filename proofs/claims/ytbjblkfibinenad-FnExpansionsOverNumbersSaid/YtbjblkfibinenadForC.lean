
/-
  Contract of DivisorsFor in the model.
-/
import Derived.Test.YtbjblkfibinenadDivW
import Derived.Test.YtbjblkfibinenadRchC
import Derived.Test.YtbjblkfibinenadCntC
namespace Go.Proofs.Ytbjblkfibinenad
open Go.RowKit
theorem ints_take (l : List Nat) (k : Nat) : (ints l).take k = ints (l.take k) := by unfold ints; rw [List.map_take]
/-- what DivisorsFor tells -/
def dfO (n s : Int) : Option (List Nat) := if numB n = true ∧ askB s = true ∧ 0 < ways (dsc n.toNat n.toNat) s.toNat then some (pick (dsc n.toNat n.toNat) s.toNat) else none
theorem dfO_n {n s : Int} (h : numB n = false) : dfO n s = none := by unfold dfO; rw [if_neg (fun e => by rw [h] at e; cases e.1)]
theorem dfO_s {n s : Int} (h : askB s = false) : dfO n s = none := by unfold dfO; rw [if_neg (fun e => by rw [h] at e; cases e.2.1)]
theorem dfO_no {N S : Nat} (h : ¬ 0 < ways (dsc N N) S) : dfO (N : Int) (S : Int) = none := by unfold dfO; rw [if_neg (fun e => h (by simpa using e.2.2))]
theorem dfO_yes {N S : Nat} (hn : numB (N : Int) = true) (hs : askB (S : Int) = true) (h : 0 < ways (dsc N N) S) : dfO (N : Int) (S : Int) = some (pick (dsc N N) S) := by
  unfold dfO
  rw [if_pos ⟨hn, hs, by simpa using h⟩]
  rfl
theorem pick_len (l : List Nat) (s : Nat) : (pick l s).length ≤ l.length := (pick_sub l s).length_le
theorem dfO_len (n s : Int) : ((dfO n s).getD []).length ≤ 2000 := by
  unfold dfO
  split
  · rename_i h
    have h1 := (numB_iff n).1 h.1
    have h2 := pick_len (dsc n.toNat n.toNat) s.toNat
    have h3 := dsc_len n.toNat n.toNat
    rw [Option.getD_some]
    omega
  · simp
/-- the loop's facts: k divisors are still to come -/
structure Pf (ds : List Nat) (S k s : Nat) (xs : List Nat) : Prop where
  all : pick ds.reverse S = xs ++ pick (ds.take k).reverse s
  told : 0 < ways ds.reverse S ↔ 0 < ways (ds.take k).reverse s
  le : s ≤ S
  few : xs.length + k ≤ ds.length
theorem Pf.start (ds : List Nat) (S : Nat) : Pf ds S ds.length S [] := ⟨by rw [List.take_length]; rfl, by rw [List.take_length], Nat.le_refl _, by simp⟩
theorem Pf.yes {ds : List Nat} {S k s d : Nat} {xs : List Nat} (h : Pf ds S (k + 1) s xs) (hd : ds[k]? = some d) (h1 : d ≤ s) (h2 : 0 < ways (ds.take k).reverse (s - d)) : Pf ds S k (s - d) (xs ++ [d]) := by
  have e := take_rev hd
  have a := h.all
  have b := h.told
  have l := h.le
  have f := h.few
  rw [e] at a b
  refine ⟨?_, ?_, by omega, by simp; omega⟩
  · rw [a, pick_yes h1 h2, List.append_assoc]; rfl
  · rw [b, ways, if_pos h1]
    constructor <;> omega
theorem Pf.no {ds : List Nat} {S k s d : Nat} {xs : List Nat} (h : Pf ds S (k + 1) s xs) (hd : ds[k]? = some d) (h1 : ¬ (d ≤ s ∧ 0 < ways (ds.take k).reverse (s - d))) : Pf ds S k s xs := by
  have e := take_rev hd
  have a := h.all
  have b := h.told
  have f := h.few
  rw [e] at a b
  refine ⟨by rw [a, pick_no h1], ?_, h.le, by omega⟩
  rw [b, ways]
  by_cases h2 : d ≤ s
  · rw [if_pos h2]
    have : ¬ 0 < ways (ds.take k).reverse (s - d) := fun h3 => h1 ⟨h2, h3⟩
    constructor <;> omega
  · rw [if_neg h2]
    rfl
theorem Pf.done {ds : List Nat} {S s : Nat} {xs : List Nat} (h : Pf ds S 0 s xs) : pick ds.reverse S = xs ∧ decide (0 < ways ds.reverse S) = decide (s = 0) := by
  have a := h.all
  have b := h.told
  rw [List.take_zero, List.reverse_nil] at a b
  refine ⟨by rw [a]; exact List.append_nil _, ?_⟩
  rw [decide_eq_decide, b, ways]
  by_cases h0 : s = 0 <;> simp [h0]
set_option maxRecDepth 100000 in
set_option maxHeartbeats 8000000 in
theorem prFor_any (ds : List Nat) (S : Nat) (w : World) (A : Option Addr) (c : Nat) (hr : Reads w A (ints ds)) (hd : ∀ d ∈ ds, d ≤ 2000) (hl : ds.length ≤ 2000) (hc : ds.length ≤ c) (hS : S ≤ 100000) :
    Calls Try.prog 57 #[.slice A ds.length c, .int .i64 (S : Int)] w (RetLB (ints (pick ds.reverse S)) (decide (0 < ways ds.reverse S)) w) := by
  have HR := Lib.hid hr
  have HS := Lib.hid hd
  have hle := ints_len ds
  have h1 : ds.length ≤ (ints ds).length := by omega
  have h2 : (ints ds).length ≤ ds.length := by omega
  have P0 := Lib.hid (Pf.start ds S)
  clear hr hd hle
  go_enter Try.func57, Try.ntmps57
  go_wp2
  go_loopw [1, 6, 7] (fun v1 v6 v7 wr => ∃ (k s : Nat) (xs : List Nat), k ≤ ds.length ∧ v1 = .int .i64 (s : Int) ∧ v7 = .int .i64 ((k : Int) - 1) ∧ Pf ds S k s xs ∧ OwnI wr w.heap.size v6 (ints xs) ∧ Below w.heap.size w wr) (fun _ _ v7 _ => (intOf v7 + 1).toNat)
  case atStart => exact ⟨ds.length, S, [], Nat.le_refl _, rfl, by go_num, P0.out, OwnI.empty _ _, by (repeat' (first | (with_reducible exact Below.refl _ _) | (with_reducible assumption) | (with_reducible refine Below.drew ?_) | (with_reducible refine belowDrewN ?_ _) | (with_reducible refine Below.alloc ?_ ?_ _) | (with_reducible refine Below.setCell ?_ ?_ _) | (with_reducible refine belowStep (by assumption) ?_ ?_) | (with_reducible exact Below.size (by assumption)) | go_size))⟩
  case round =>
    obtain ⟨k, s, xs, hk, rfl, rfl, hp, ho, hbr⟩ := hrel
    obtain ⟨wo, rfl⟩ : ∃ x : World, x = wr := ⟨_, rfl⟩
    have HP := Lib.hid hp
    have Ho := Lib.hid ho
    have hzo := hbr.size
    have hs := hp.le
    have hf := hp.few
    have hxl := ints_len xs
    have hx1 : (ints xs).length ≤ 2000 := by omega
    clear hp ho hxl
    by_cases hk0 : 0 < k
    · obtain ⟨j, rfl⟩ : ∃ j, k = j + 1 := ⟨k - 1, by omega⟩
      have hj : (((j + 1 : Nat) : Int) - 1) = (j : Int) := by omega
      rw [hj]
      obtain ⟨b9, o9, x, rfl, hbb, hx, hcell⟩ := (HR.out.below hbr).at_ (show j < (ints ds).length by omega)
      obtain ⟨d, rfl, hdx⟩ := ints_at hx
      have hd2 := HS.out d (List.mem_of_getElem? hdx)
      have HDX := Lib.hid hdx
      have hji : (j : Int) < (ds.length : Int) := by omega
      have hj0 : (0 : Int) ≤ (j : Int) := by omega
      have hjc : (j : Int) ≤ (c : Int) := by omega
      have hjc' : j ≤ c := by omega
      clear hx hdx
      have hws : IntKind.i64.wrap ((s : Int) - (d : Int)) = (s : Int) - (d : Int) := IntWalk.i64_in _ (by omega)
      by_cases hds : d ≤ s
      · have hds' : ¬ (s : Int) - (d : Int) < 0 := by omega
        have hsd : (s : Int) - (d : Int) = ((s - d : Nat) : Int) := by omega
        have HC : Hid (∀ w', Reads w' (some ⟨b9, o9, none⟩) (ints ds) → Calls Try.prog 75 #[.slice (some ⟨b9, o9, none⟩) j c] w' (fun e w' => ∃ A' c', e = .returned (.slice A' (rl (ds.take j).reverse).length c') ∧ ReadsT w' A' (rl (ds.take j).reverse) ∧ True) ∧ Calls Try.prog 75 #[.slice (some ⟨b9, o9, none⟩) j c] w' (fun e w'' => ∃ A' c', e = .returned (.slice A' (rl (ds.take j).reverse).length c') ∧ ReadsT w'' A' (rl (ds.take j).reverse) ∧ Below w'.heap.size w' w'')) := Lib.hid fun w' h => by
          have := prReached_any (ds.take j) w' (some ⟨b9, o9, none⟩) c (by rw [← ints_take]; exact h.cutTo j) (fun d hd => HS.out d (List.mem_of_mem_take hd)) (by rw [List.length_take]; omega)
          rw [List.length_take, Nat.min_eq_left (show j ≤ ds.length by omega)] at this
          exact ⟨this.mono fun e w2 ⟨A', c', a, b, _⟩ => ⟨A', c', a, b, trivial⟩, this⟩
        have hrl := rl_len (ds.take j).reverse
        have hrl1 : (rl (ds.take j).reverse).length ≤ (ds.take j).reverse.sum + 1 := by omega
        have hrl2 : (ds.take j).reverse.sum + 1 ≤ (rl (ds.take j).reverse).length := by omega
        have hsum := sum_take_le HS.out j
        have hsumr := rev_sum (ds.take j)
        have HAT : Hid (∀ t, t ≤ (ds.take j).reverse.sum → (rl (ds.take j).reverse)[t]? = some (decide (0 < ways (ds.take j).reverse t))) := Lib.hid fun t h => rl_at _ h
        have HY := Lib.hid fun (h : 0 < ways (ds.take j).reverse (s - d)) => HP.out.yes HDX.out hds h
        have HN := Lib.hid fun (h : ¬ 0 < ways (ds.take j).reverse (s - d)) => HP.out.no HDX.out (fun e => h e.2)
        have HZ := Lib.hid fun (h : (ds.take j).reverse.sum < s - d) => ways_none (l := (ds.take j).reverse) h
        have hRr := HR.out.below hbr
        have HRR := Lib.hid hRr
        clear hrl hRr HR HP
        have hsm : (ds.take j).reverse.sum ≤ 4000000 := by omega
        clear hsum hsumr
        generalize (ds.take j).reverse = P at *
        obtain ⟨bs, hbs⟩ : ∃ bs, bs = rl P := ⟨_, rfl⟩
        rw [← hbs] at HC hrl1 hrl2 HAT
        clear hbs
        go_wp2_with fail
        refine ((HC.out _ HRR.out).2).mono ?_; rintro e w4 ⟨A4, c4, rfl, hr4, hb4⟩
        have hz4 := hb4.size
        have H4 := Lib.hid hr4
        clear hr4
        by_cases hin : s - d ≤ P.sum
        · obtain ⟨b5, o5, x5, rfl, hb5, hx5, hc5⟩ := H4.out.at_ (show s - d < bs.length by omega)
          rw [HAT.out (s - d) hin] at hx5
          injection hx5 with hx5
          subst hx5
          have hli : ((s - d : Nat) : Int) < (bs.length : Int) := by omega
          by_cases hw : 0 < ways P (s - d)
          · rw [decide_eq_true hw] at hc5
            have HPN := Lib.hid (HY.out hw)
            clear hw
            generalize s - d = t at *
            have hcell4 := (bcell hb4).1 b9 (o9 + j) hbb
            rw [hcell] at hcell4
            go_wp2_with (at_builtin; refine wpList_app _ (o := ⟨some 45, _, _, _, _, _⟩) (ys := [(d : Int)]) rfl _ _ rfl rfl (OwnI.below (Ho.out.below (by (repeat' (first | (with_reducible exact Below.refl _ _) | (with_reducible assumption) | (with_reducible refine Below.drew ?_) | (with_reducible refine belowDrewN ?_ _) | (with_reducible refine Below.alloc ?_ ?_ _) | (with_reducible refine Below.setCell ?_ ?_ _) | (with_reducible refine belowStep (by assumption) ?_ ?_) | (with_reducible exact Below.size (by assumption)) | go_size)))) ((Below.refl _ _).alloc (Nat.le_refl _) _)) (1) (1) (by first | (simp; done) | (simp; omega)) rfl (Reads.one _ (d : Int)) (by (try simp only [List.length_nil, List.length_cons]); omega) (by first | exact Nat.le_refl _ | ((try simp only [World.size_alloc]); omega)) ?_; intro v6 w6 ho6 hb6 hg6 ht6; clear hg6 ht6; have hz6 := hb6.size; (try simp only [World.size_alloc] at hz6))
            go_roundw
            case rel => exact ⟨j, t, xs ++ [d], by omega, rfl, rfl, HPN.out, by rw [ints_app]; exact ho6, by (repeat' (first | (with_reducible exact Below.refl _ _) | (with_reducible assumption) | (with_reducible refine Below.drew ?_) | (with_reducible refine belowDrewN ?_ _) | (with_reducible refine Below.alloc ?_ ?_ _) | (with_reducible refine Below.setCell ?_ ?_ _) | (with_reducible refine belowStep (by assumption) ?_ ?_) | (with_reducible exact Below.size (by assumption)) | go_size))⟩
            case measure => simp [intOf]
          · rw [decide_eq_false hw] at hc5
            have HPN := Lib.hid (HN.out hw)
            clear hw
            generalize s - d = t at *
            go_wp2
            go_roundw
            case rel => exact ⟨j, s, xs, by omega, rfl, rfl, HPN.out, Ho.out.below (by (repeat' (first | (with_reducible exact Below.refl _ _) | (with_reducible assumption) | (with_reducible refine Below.drew ?_) | (with_reducible refine belowDrewN ?_ _) | (with_reducible refine Below.alloc ?_ ?_ _) | (with_reducible refine Below.setCell ?_ ?_ _) | (with_reducible refine belowStep (by assumption) ?_ ?_) | (with_reducible exact Below.size (by assumption)) | go_size))), by (repeat' (first | (with_reducible exact Below.refl _ _) | (with_reducible assumption) | (with_reducible refine Below.drew ?_) | (with_reducible refine belowDrewN ?_ _) | (with_reducible refine Below.alloc ?_ ?_ _) | (with_reducible refine Below.setCell ?_ ?_ _) | (with_reducible refine belowStep (by assumption) ?_ ?_) | (with_reducible exact Below.size (by assumption)) | go_size))⟩
            case measure => simp [intOf]
        · have HPN := Lib.hid (HN.out (by rw [HZ.out (by omega)]; omega))
          have hli : ¬ ((s - d : Nat) : Int) < (bs.length : Int) := by omega
          generalize s - d = t at *
          go_wp2
          go_roundw
          case rel => exact ⟨j, s, xs, by omega, rfl, rfl, HPN.out, Ho.out.below (by (repeat' (first | (with_reducible exact Below.refl _ _) | (with_reducible assumption) | (with_reducible refine Below.drew ?_) | (with_reducible refine belowDrewN ?_ _) | (with_reducible refine Below.alloc ?_ ?_ _) | (with_reducible refine Below.setCell ?_ ?_ _) | (with_reducible refine belowStep (by assumption) ?_ ?_) | (with_reducible exact Below.size (by assumption)) | go_size))), by (repeat' (first | (with_reducible exact Below.refl _ _) | (with_reducible assumption) | (with_reducible refine Below.drew ?_) | (with_reducible refine belowDrewN ?_ _) | (with_reducible refine Below.alloc ?_ ?_ _) | (with_reducible refine Below.setCell ?_ ?_ _) | (with_reducible refine belowStep (by assumption) ?_ ?_) | (with_reducible exact Below.size (by assumption)) | go_size))⟩
          case measure => simp [intOf]
      · have hds' : (s : Int) - (d : Int) < 0 := by omega
        have HPN := Lib.hid (HP.out.no HDX.out (fun e => hds e.1))
        go_wp2
        go_roundw
        case rel => exact ⟨j, s, xs, by omega, rfl, rfl, HPN.out, Ho.out, by (repeat' (first | (with_reducible exact Below.refl _ _) | (with_reducible assumption) | (with_reducible refine Below.drew ?_) | (with_reducible refine belowDrewN ?_ _) | (with_reducible refine Below.alloc ?_ ?_ _) | (with_reducible refine Below.setCell ?_ ?_ _) | (with_reducible refine belowStep (by assumption) ?_ ?_) | (with_reducible exact Below.size (by assumption)) | go_size))⟩
        case measure => simp [intOf]
    · obtain rfl : k = 0 := by omega
      obtain ⟨e1, e2⟩ := HP.out.done
      have E1 := Lib.hid e1
      have E2 := Lib.hid e2
      have hk1 : ((0 : Nat) : Int) - 1 = -1 := rfl
      have e3 : ((s : Int) == 0) = decide (s = 0) := by by_cases h : s = 0 <;> simp [h]
      clear e1 e2
      rw [hk1]
      go_wp2
      go_ret2
      rw [E1.out, E2.out]
      exact ⟨_, by simp, Ho.out, by (repeat' (first | (with_reducible exact Below.refl _ _) | (with_reducible assumption) | (with_reducible refine Below.drew ?_) | (with_reducible refine belowDrewN ?_ _) | (with_reducible refine Below.alloc ?_ ?_ _) | (with_reducible refine Below.setCell ?_ ?_ _) | (with_reducible refine belowStep (by assumption) ?_ ?_) | (with_reducible exact Below.size (by assumption)) | go_size))⟩
end Go.Proofs.Ytbjblkfibinenad
