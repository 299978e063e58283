
/-
  Contract of the model's list of what is reached.
-/
import Derived.Test.YtbjblkfibinenadRchP
import Derived.Test.YtbjblkfibinenadBoo
import Derived.Test.YtbjblkfibinenadDivS
namespace Go.Proofs.Ytbjblkfibinenad
open Go.RowKit
theorem OwnB.oneT (w : World) (base : Nat) (x : Bool) (hb : base ≤ w.heap.size) : OwnB (w.alloc (.cells #[.bool x] 4)) base (.slice (some ⟨w.heap.size, 0, none⟩) 1 1) [x] :=
  World.ownsRow_lit w #[.bool x] 1 hb (by unfold maxLen; omega) rfl
theorem take_rev {l : List Nat} {k d : Nat} (h : l[k]? = some d) : (l.take (k + 1)).reverse = d :: (l.take k).reverse := by
  rw [List.take_add_one, h]
  simp
theorem rev_sum (l : List Nat) : l.reverse.sum = l.sum := (List.reverse_perm l).sum_nat
theorem rep_app (k : Nat) (xs : List Bool) : xs ++ List.replicate k false ++ [false] = xs ++ List.replicate (k + 1) false := by
  rw [List.append_assoc, List.replicate_succ']
set_option maxRecDepth 100000 in
set_option maxHeartbeats 8000000 in
theorem prReached_any (ds : List Nat) (w : World) (A : Option Addr) (c : Nat) (hr : Reads w A (ints ds)) (hd : ∀ d ∈ ds, d ≤ 2000) (hl : ds.length ≤ 2000) :
    Calls Try.prog 75 #[.slice A ds.length c] w (fun e w' => ∃ A' c', e = .returned (.slice A' (rl ds.reverse).length c') ∧ ReadsT w' A' (rl ds.reverse) ∧ Below w.heap.size w w') := by
  have HR := Lib.hid hr
  have HS := Lib.hid hd
  have hle := ints_len ds
  have h1 : ds.length ≤ (ints ds).length := by omega
  have h2 : (ints ds).length ≤ ds.length := by omega
  clear hr hd hle
  have O0 := Lib.hid (OwnB.oneT w w.heap.size true (Nat.le_refl _))
  go_enter Try.func75, Try.ntmps75
  go_wp2
  go_loopw [3, 12] (fun v3 v12 wr => ∃ (k : Nat) (A' : Option Addr) (c' : Nat), k ≤ ds.length ∧ v12 = .int .i64 (k : Int) ∧ v3 = .slice A' (rl (ds.take k).reverse).length c' ∧ ReadsT wr A' (rl (ds.take k).reverse) ∧ Below w.heap.size w wr) (fun _ v12 _ => ds.length - (intOf v12).toNat)
  case atStart =>
    refine ⟨0, _, _, Nat.zero_le _, rfl, rfl, ?_, by (repeat' (first | (with_reducible exact Below.refl _ _) | (with_reducible assumption) | (with_reducible refine Below.drew ?_) | (with_reducible refine belowDrewN ?_ _) | (with_reducible refine Below.alloc ?_ ?_ _) | (with_reducible refine Below.setCell ?_ ?_ _) | (with_reducible refine belowStep (by assumption) ?_ ?_) | (with_reducible exact Below.size (by assumption)) | go_size))⟩
    have := O0.out.reads.1
    rw [List.take_zero, List.reverse_nil, rl_nil]
    exact this
  case round =>
    obtain ⟨k, A', c', hk, rfl, rfl, hp, hbr⟩ := hrel
    obtain ⟨wo, rfl⟩ : ∃ x : World, x = wr := ⟨_, rfl⟩
    have hzr := hbr.size
    have HP := Lib.hid hp
    clear hp
    have hsum := sum_take_le HS.out k
    have hlen := rl_len (ds.take k).reverse
    rw [rev_sum] at hlen
    by_cases hlt : k < ds.length
    · obtain ⟨b, o, x, rfl, hbb, hx, hcell⟩ := (HR.out.below hbr).at_ (show k < (ints ds).length by omega)
      obtain ⟨d, rfl, hdx⟩ := ints_at hx
      have hd2 := HS.out d (List.mem_of_getElem? hdx)
      have E := Lib.hid (take_rev hdx)
      have hki : (k : Int) < (ds.length : Int) := by omega
      have Esum := rev_sum (ds.take k)
      have hs2 : (ds.take k).reverse.sum ≤ 4000000 := by omega
      have hlen2 : (rl (ds.take k).reverse).length ≤ 4000001 := by omega
      have hlen3 := rl_len (ds.take k).reverse
      clear hx hdx hlen Esum hsum
      obtain ⟨P, hP⟩ : ∃ P, P = (ds.take k).reverse := ⟨_, rfl⟩
      rw [← hP] at HP E hs2 hlen2 hlen3 ⊢
      have hPl1 : (rl P).length ≤ P.sum + 1 := by omega
      have hPl2 : P.sum + 1 ≤ (rl P).length := by omega
      clear hP hlen3
      go_wp2_with (at_builtin; refine wpList_appB _ (o := ⟨some 18, _, _, _, _, _⟩) (ys := rl P) rfl _ _ rfl rfl (OwnB.zero wo wo.heap.size (Nat.le_refl _)) ((rl P).length) (c') (by first | (simp; done) | (simp; omega)) rfl (HP.out.below (by (repeat' (first | (with_reducible exact Below.refl _ _) | (with_reducible assumption) | (with_reducible refine Below.drew ?_) | (with_reducible refine belowDrewN ?_ _) | (with_reducible refine Below.alloc ?_ ?_ _) | (with_reducible refine Below.setCell ?_ ?_ _) | (with_reducible refine belowStep (by assumption) ?_ ?_) | (with_reducible exact Below.size (by assumption)) | go_size)))) (by (try simp only [List.length_nil]); omega) (by first | exact Nat.le_refl _ | ((try simp only [World.size_alloc]); omega)) ?_; intro v2 w2 ho2 hb2 hg2 ht2; clear hg2 ht2; have hz2 := hb2.size; (try simp only [World.size_alloc] at hz2))
      rw [List.nil_append] at ho2
      go_loopw [6, 20] (fun v6 v20 wq => ∃ j : Nat, j ≤ d ∧ v20 = .int .i64 (j : Int) ∧ OwnB wq wo.heap.size v6 (rl P ++ List.replicate j false) ∧ Below wo.heap.size wo wq) (fun _ v20 _ => d - (intOf v20).toNat)
      case atStart => exact ⟨0, Nat.zero_le _, rfl, by rw [List.replicate_zero, List.append_nil]; exact ho2, by (repeat' (first | (with_reducible exact Below.refl _ _) | (with_reducible assumption) | (with_reducible refine Below.drew ?_) | (with_reducible refine belowDrewN ?_ _) | (with_reducible refine Below.alloc ?_ ?_ _) | (with_reducible refine Below.setCell ?_ ?_ _) | (with_reducible refine belowStep (by assumption) ?_ ?_) | (with_reducible exact Below.size (by assumption)) | go_size))⟩
      case round =>
        obtain ⟨j, hj, rfl, ho, hbq⟩ := hrel
        obtain ⟨wq, rfl⟩ : ∃ x : World, x = wr := ⟨_, rfl⟩
        have hzq := hbq.size
        have Ho := Lib.hid ho
        clear ho
        by_cases hjt : j < d
        · have hji : (j : Int) < (d : Int) := by omega
          have hll : (rl P ++ List.replicate j false).length ≤ 5000000 := by rw [List.length_append, List.length_replicate]; omega
          have EJ := Lib.hid (rep_app j (rl P))
          generalize rl P ++ List.replicate j false = zs at *
          go_wp2_with (at_builtin; refine wpList_appB _ (o := ⟨some 24, _, _, _, _, _⟩) (ys := [false]) rfl _ _ rfl rfl (OwnB.below Ho.out ((Below.refl _ _).alloc (Nat.le_refl _) _)) (1) (1) (by first | (simp; done) | (simp; omega)) rfl (ReadsT.one _ false) (by (try simp only [List.length_nil, List.length_cons]); omega) (by first | exact Nat.le_refl _ | ((try simp only [World.size_alloc]); omega)) ?_; intro v4 w4 ho4 hb4 hg4 ht4; clear hg4 ht4; have hz4 := hb4.size; (try simp only [World.size_alloc] at hz4))
          go_roundw
          case rel => exact ⟨j + 1, by omega, by go_num, by rw [← EJ.out]; exact ho4, by (repeat' (first | (with_reducible exact Below.refl _ _) | (with_reducible assumption) | (with_reducible refine Below.drew ?_) | (with_reducible refine belowDrewN ?_ _) | (with_reducible refine Below.alloc ?_ ?_ _) | (with_reducible refine Below.setCell ?_ ?_ _) | (with_reducible refine belowStep (by assumption) ?_ ?_) | (with_reducible exact Below.size (by assumption)) | go_size))⟩
          case measure => simp [intOf]; omega
        · obtain rfl : j = d := by omega
          have ho9 := Ho.out
          rw [← rn_zero] at ho9
          have hn := rn_len P j 0
          have hn1 : (rn P j 0).length ≤ P.sum + j + 1 := by omega
          have hn2 : P.sum + j + 1 ≤ (rn P j 0).length := by omega
          clear hn Ho
          rcases ho9.2 with ⟨hv, h0⟩ | ⟨g, cap, cur, hv, hgb, hgr⟩
          · omega
          · subst hv
            have H9 := Lib.hid ho9
            have hgq : g < wq.heap.size := (ho9.block g rfl).2
            have hcap := ho9.cap_
            clear ho9 hgr
            go_wp2
            go_loopw [28] (fun v28 wz => ∃ i : Nat, i ≤ P.sum + 1 ∧ v28 = .int .i64 (i : Int) ∧ OwnB wz wo.heap.size (.slice (some ⟨g, 0, none⟩) (rn P j 0).length cap) (rn P j i) ∧ Below wo.heap.size wo wz) (fun v28 _ => P.sum + 1 - (intOf v28).toNat)
            case atStart => exact ⟨0, Nat.zero_le _, rfl, H9.out, by (repeat' (first | (with_reducible exact Below.refl _ _) | (with_reducible assumption) | (with_reducible refine Below.drew ?_) | (with_reducible refine belowDrewN ?_ _) | (with_reducible refine Below.alloc ?_ ?_ _) | (with_reducible refine Below.setCell ?_ ?_ _) | (with_reducible refine belowStep (by assumption) ?_ ?_) | (with_reducible exact Below.size (by assumption)) | go_size))⟩
            case round =>
              obtain ⟨i, hi, rfl, ho, hbz⟩ := hrel
              have hzz := hbz.size
              have Ho := Lib.hid ho
              clear ho
              by_cases hit : i < P.sum + 1
              · obtain ⟨b3, o3, x3, rfl, hb3, hx3, hc3⟩ := (HP.out.below hbz).at_ (show i < (rl P).length by omega)
                rw [rl_at P (by omega)] at hx3
                injection hx3 with hx3
                subst hx3
                have hii : (i : Int) < ((rl P).length : Int) := by omega
                by_cases hw : 0 < ways P i
                · rw [decide_eq_true hw] at hc3
                  have hat := rn_at P j i (s := i + j) (by omega)
                  obtain ⟨q1, q2⟩ := Ho.out.cell_ (by rw [rn_len, rn_len]) hat
                  have ES := Lib.hid (rn_yes P j i hw (by omega))
                  have hij : i + j < (rn P j 0).length := by omega
                  have hij2 : (i : Int) + (j : Int) < ((rn P j 0).length : Int) := by omega
                  have hijn : ((i : Int) + (j : Int)).toNat = i + j := by omega
                  have hwr : IntKind.i64.wrap ((i : Int) + (j : Int)) = ((i + j : Nat) : Int) := by rw [IntWalk.i64_in _ (by omega)]; omega
                  have hO2 := Lib.hid (OwnB.set_ Ho.out (by rw [rn_len, rn_len]) (i + j) true)
                  clear hat
                  go_wp2
                  go_roundw
                  case rel => exact ⟨i + 1, by omega, by go_num, by rw [← ES.out]; exact hO2.out, by (repeat' (first | (with_reducible exact Below.refl _ _) | (with_reducible assumption) | (with_reducible refine Below.drew ?_) | (with_reducible refine belowDrewN ?_ _) | (with_reducible refine Below.alloc ?_ ?_ _) | (with_reducible refine Below.setCell ?_ ?_ _) | (with_reducible refine belowStep (by assumption) ?_ ?_) | (with_reducible exact Below.size (by assumption)) | go_size))⟩
                  case measure => simp [intOf]; omega
                · rw [decide_eq_false hw] at hc3
                  have ES := Lib.hid (rn_no P j i hw)
                  go_wp2
                  go_roundw
                  case rel => exact ⟨i + 1, by omega, by go_num, by rw [← ES.out]; exact Ho.out, by (repeat' (first | (with_reducible exact Below.refl _ _) | (with_reducible assumption) | (with_reducible refine Below.drew ?_) | (with_reducible refine belowDrewN ?_ _) | (with_reducible refine Below.alloc ?_ ?_ _) | (with_reducible refine Below.setCell ?_ ?_ _) | (with_reducible refine belowStep (by assumption) ?_ ?_) | (with_reducible exact Below.size (by assumption)) | go_size))⟩
                  case measure => simp [intOf]; omega
              · obtain rfl : i = P.sum + 1 := by omega
                have hii : ¬ (((P.sum + 1 : Nat)) : Int) < ((rl P).length : Int) := by omega
                have hf := Ho.out
                rw [rn_all, ← E.out] at hf
                have hf2 := hf.reads.2
                have hfr := Lib.hid hf.reads.1
                clear hf
                rw [hf2]
                go_wp2
                go_roundw
                case rel => exact ⟨k + 1, _, _, by omega, by go_num, rfl, hfr.out, by (repeat' (first | (with_reducible exact Below.refl _ _) | (with_reducible assumption) | (with_reducible refine Below.drew ?_) | (with_reducible refine belowDrewN ?_ _) | (with_reducible refine Below.alloc ?_ ?_ _) | (with_reducible refine Below.setCell ?_ ?_ _) | (with_reducible refine belowStep (by assumption) ?_ ?_) | (with_reducible exact Below.size (by assumption)) | go_size))⟩
                case measure => simp [intOf]; omega
    · obtain rfl : k = ds.length := by omega
      have hp := HP.out
      rw [List.take_length] at hp
      have HP2 := Lib.hid hp
      rw [List.take_length]
      clear hp HP
      go_wp2
      go_ret
      exact ⟨_, _, rfl, HP2.out, by (repeat' (first | (with_reducible exact Below.refl _ _) | (with_reducible assumption) | (with_reducible refine Below.drew ?_) | (with_reducible refine belowDrewN ?_ _) | (with_reducible refine Below.alloc ?_ ?_ _) | (with_reducible refine Below.setCell ?_ ?_ _) | (with_reducible refine belowStep (by assumption) ?_ ?_) | (with_reducible exact Below.size (by assumption)) | go_size))⟩
end Go.Proofs.Ytbjblkfibinenad
