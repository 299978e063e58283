import Derived.Test.YthkchhjidihkpabPk3
import Derived.Test.YthkchhjidihkpabPk4
import Derived.Test.YthkchhjidihkpabPk2

/-
  Contract of the model's list of what is reached.
-/
namespace Go.Proofs.Ythkchhjidihkpab
open Go.RowKit
theorem OwnB.oneT (w : World) (base : Nat) (x : Bool) (hb : base ≤ w.heap.size) : OwnB (w.alloc (.cells #[.bool x] 4)) base (.slice (some ⟨w.heap.size, 0, none⟩) 1 1) [x] :=
  World.ownsRow_lit w #[.bool x] 1 hb (by unfold maxLen; omega) rfl
theorem take_rev {l : List Nat} {k d : Nat} (h : l[k]? = some d) : (l.take (k + 1)).reverse = d :: (l.take k).reverse := by
  rw [List.take_add_one, h]
  simp
theorem rev_sum (l : List Nat) : l.reverse.sum = l.sum := (List.reverse_perm l).sum_nat
theorem rep_app (k : Nat) (xs : List Bool) : xs ++ List.replicate k false ++ [false] = xs ++ List.replicate (k + 1) false := by
  rw [List.append_assoc, List.replicate_succ']
set_option maxRecDepth 100000 in
set_option maxHeartbeats 8000000 in
theorem prReached_any (ds : List Nat) (w : World) (A : Option Addr) (c : Nat) (hr : Reads w A (ints ds)) (hd : ∀ d ∈ ds, d ≤ 2000) (hl : ds.length ≤ 2000) :
    Calls Try.prog 133 #[.slice A ds.length c] w (fun e w' => ∃ A' c', e = .returned (.slice A' (rl ds.reverse).length c') ∧ ReadsT w' A' (rl ds.reverse) ∧ Below w.heap.size w w') := by
  have HR := Lib.hid hr
  have HS := Lib.hid hd
  have hle := ints_len ds
  have h1 : ds.length ≤ (ints ds).length := by omega
  have h2 : (ints ds).length ≤ ds.length := by omega
  clear hr hd hle
  have O0 := Lib.hid (OwnB.oneT w w.heap.size true (Nat.le_refl _))
  go_enter Try.func133, Try.ntmps133
  go_wp2
  go_loopw [3, 12] (fun v3 v12 wr => ∃ (k : Nat) (A' : Option Addr) (c' : Nat), k ≤ ds.length ∧ v12 = .int .i64 (k : Int) ∧ v3 = .slice A' (rl (ds.take k).reverse).length c' ∧ ReadsT wr A' (rl (ds.take k).reverse) ∧ Below w.heap.size w wr) (fun _ v12 _ => ds.length - (intOf v12).toNat)
  case atStart =>
    refine ⟨0, _, _, Nat.zero_le _, rfl, rfl, ?_, by (repeat' (first | (with_reducible exact Below.refl _ _) | (with_reducible assumption) | (with_reducible refine Below.drew ?_) | (with_reducible refine belowDrewN ?_ _) | (with_reducible refine Below.alloc ?_ ?_ _) | (with_reducible refine Below.setCell ?_ ?_ _) | (with_reducible refine belowStep (by assumption) ?_ ?_) | (with_reducible exact Below.size (by assumption)) | go_size))⟩
    have := O0.out.reads.1
    rw [List.take_zero, List.reverse_nil, rl_nil]
    exact this
  case round =>
    obtain ⟨k, A', c', hk, rfl, rfl, hp, hbr⟩ := hrel
    obtain ⟨wo, rfl⟩ : ∃ x : World, x = wr := ⟨_, rfl⟩
    have hzr := hbr.size
    have HP := Lib.hid hp
    clear hp
    have hsum := sum_take_le HS.out k
    have hlen := rl_len (ds.take k).reverse
    rw [rev_sum] at hlen
    by_cases hlt : k < ds.length
    · obtain ⟨b, o, x, rfl, hbb, hx, hcell⟩ := (HR.out.below hbr).at_ (show k < (ints ds).length by omega)
      obtain ⟨d, rfl, hdx⟩ := ints_at hx
      have hd2 := HS.out d (List.mem_of_getElem? hdx)
      have E := Lib.hid (take_rev hdx)
      have hki : (k : Int) < (ds.length : Int) := by omega
      have Esum := rev_sum (ds.take k)
      have hs2 : (ds.take k).reverse.sum ≤ 4000000 := by omega
      have hlen2 : (rl (ds.take k).reverse).length ≤ 4000001 := by omega
      have hlen3 := rl_len (ds.take k).reverse
      clear hx hdx hlen Esum hsum
      obtain ⟨P, hP⟩ : ∃ P, P = (ds.take k).reverse := ⟨_, rfl⟩
      rw [← hP] at HP E hs2 hlen2 hlen3 ⊢
      have hPl1 : (rl P).length ≤ P.sum + 1 := by omega
      have hPl2 : P.sum + 1 ≤ (rl P).length := by omega
      clear hP hlen3
      go_wp2_with (at_builtin; refine wpList_appB _ (o := ⟨some 18, _, _, _, _, _⟩) (ys := rl P) rfl _ _ rfl rfl (OwnB.zero wo wo.heap.size (Nat.le_refl _)) ((rl P).length) (c') (by first | (simp; done) | (simp; omega)) rfl (HP.out.below (by (repeat' (first | (with_reducible exact Below.refl _ _) | (with_reducible assumption) | (with_reducible refine Below.drew ?_) | (with_reducible refine belowDrewN ?_ _) | (with_reducible refine Below.alloc ?_ ?_ _) | (with_reducible refine Below.setCell ?_ ?_ _) | (with_reducible refine belowStep (by assumption) ?_ ?_) | (with_reducible exact Below.size (by assumption)) | go_size)))) (by (try simp only [List.length_nil]); omega) (by first | exact Nat.le_refl _ | ((try simp only [World.size_alloc]); omega)) ?_; intro v2 w2 ho2 hb2 hg2 ht2; clear hg2 ht2; have hz2 := hb2.size; (try simp only [World.size_alloc] at hz2))
      rw [List.nil_append] at ho2
      go_loopw [6, 20] (fun v6 v20 wq => ∃ j : Nat, j ≤ d ∧ v20 = .int .i64 (j : Int) ∧ OwnB wq wo.heap.size v6 (rl P ++ List.replicate j false) ∧ Below wo.heap.size wo wq) (fun _ v20 _ => d - (intOf v20).toNat)
      case atStart => exact ⟨0, Nat.zero_le _, rfl, by rw [List.replicate_zero, List.append_nil]; exact ho2, by (repeat' (first | (with_reducible exact Below.refl _ _) | (with_reducible assumption) | (with_reducible refine Below.drew ?_) | (with_reducible refine belowDrewN ?_ _) | (with_reducible refine Below.alloc ?_ ?_ _) | (with_reducible refine Below.setCell ?_ ?_ _) | (with_reducible refine belowStep (by assumption) ?_ ?_) | (with_reducible exact Below.size (by assumption)) | go_size))⟩
      case round =>
        obtain ⟨j, hj, rfl, ho, hbq⟩ := hrel
        obtain ⟨wq, rfl⟩ : ∃ x : World, x = wr := ⟨_, rfl⟩
        have hzq := hbq.size
        have Ho := Lib.hid ho
        clear ho
        by_cases hjt : j < d
        · have hji : (j : Int) < (d : Int) := by omega
          have hll : (rl P ++ List.replicate j false).length ≤ 5000000 := by rw [List.length_append, List.length_replicate]; omega
          have EJ := Lib.hid (rep_app j (rl P))
          generalize rl P ++ List.replicate j false = zs at *
          go_wp2_with (at_builtin; refine wpList_appB _ (o := ⟨some 24, _, _, _, _, _⟩) (ys := [false]) rfl _ _ rfl rfl (OwnB.below Ho.out ((Below.refl _ _).alloc (Nat.le_refl _) _)) (1) (1) (by first | (simp; done) | (simp; omega)) rfl (ReadsT.one _ false) (by (try simp only [List.length_nil, List.length_cons]); omega) (by first | exact Nat.le_refl _ | ((try simp only [World.size_alloc]); omega)) ?_; intro v4 w4 ho4 hb4 hg4 ht4; clear hg4 ht4; have hz4 := hb4.size; (try simp only [World.size_alloc] at hz4))
          go_roundw
          case rel => exact ⟨j + 1, by omega, by go_num, by rw [← EJ.out]; exact ho4, by (repeat' (first | (with_reducible exact Below.refl _ _) | (with_reducible assumption) | (with_reducible refine Below.drew ?_) | (with_reducible refine belowDrewN ?_ _) | (with_reducible refine Below.alloc ?_ ?_ _) | (with_reducible refine Below.setCell ?_ ?_ _) | (with_reducible refine belowStep (by assumption) ?_ ?_) | (with_reducible exact Below.size (by assumption)) | go_size))⟩
          case measure => simp [intOf]; omega
        · obtain rfl : j = d := by omega
          have ho9 := Ho.out
          rw [← rn_zero] at ho9
          have hn := rn_len P j 0
          have hn1 : (rn P j 0).length ≤ P.sum + j + 1 := by omega
          have hn2 : P.sum + j + 1 ≤ (rn P j 0).length := by omega
          clear hn Ho
          rcases ho9.2 with ⟨hv, h0⟩ | ⟨g, cap, cur, hv, hgb, hgr⟩
          · omega
          · subst hv
            have H9 := Lib.hid ho9
            have hgq : g < wq.heap.size := (ho9.block g rfl).2
            have hcap := ho9.cap_
            clear ho9 hgr
            go_wp2
            go_loopw [28] (fun v28 wz => ∃ i : Nat, i ≤ P.sum + 1 ∧ v28 = .int .i64 (i : Int) ∧ OwnB wz wo.heap.size (.slice (some ⟨g, 0, none⟩) (rn P j 0).length cap) (rn P j i) ∧ Below wo.heap.size wo wz) (fun v28 _ => P.sum + 1 - (intOf v28).toNat)
            case atStart => exact ⟨0, Nat.zero_le _, rfl, H9.out, by (repeat' (first | (with_reducible exact Below.refl _ _) | (with_reducible assumption) | (with_reducible refine Below.drew ?_) | (with_reducible refine belowDrewN ?_ _) | (with_reducible refine Below.alloc ?_ ?_ _) | (with_reducible refine Below.setCell ?_ ?_ _) | (with_reducible refine belowStep (by assumption) ?_ ?_) | (with_reducible exact Below.size (by assumption)) | go_size))⟩
            case round =>
              obtain ⟨i, hi, rfl, ho, hbz⟩ := hrel
              have hzz := hbz.size
              have Ho := Lib.hid ho
              clear ho
              by_cases hit : i < P.sum + 1
              · obtain ⟨b3, o3, x3, rfl, hb3, hx3, hc3⟩ := (HP.out.below hbz).at_ (show i < (rl P).length by omega)
                rw [rl_at P (by omega)] at hx3
                injection hx3 with hx3
                subst hx3
                have hii : (i : Int) < ((rl P).length : Int) := by omega
                by_cases hw : 0 < ways P i
                · rw [decide_eq_true hw] at hc3
                  have hat := rn_at P j i (s := i + j) (by omega)
                  obtain ⟨q1, q2⟩ := Ho.out.cell_ (by rw [rn_len, rn_len]) hat
                  have ES := Lib.hid (rn_yes P j i hw (by omega))
                  have hij : i + j < (rn P j 0).length := by omega
                  have hij2 : (i : Int) + (j : Int) < ((rn P j 0).length : Int) := by omega
                  have hijn : ((i : Int) + (j : Int)).toNat = i + j := by omega
                  have hwr : IntKind.i64.wrap ((i : Int) + (j : Int)) = ((i + j : Nat) : Int) := by rw [IntWalk.i64_in _ (by omega)]; omega
                  have hO2 := Lib.hid (OwnB.set_ Ho.out (by rw [rn_len, rn_len]) (i + j) true)
                  clear hat
                  go_wp2
                  go_roundw
                  case rel => exact ⟨i + 1, by omega, by go_num, by rw [← ES.out]; exact hO2.out, by (repeat' (first | (with_reducible exact Below.refl _ _) | (with_reducible assumption) | (with_reducible refine Below.drew ?_) | (with_reducible refine belowDrewN ?_ _) | (with_reducible refine Below.alloc ?_ ?_ _) | (with_reducible refine Below.setCell ?_ ?_ _) | (with_reducible refine belowStep (by assumption) ?_ ?_) | (with_reducible exact Below.size (by assumption)) | go_size))⟩
                  case measure => simp [intOf]; omega
                · rw [decide_eq_false hw] at hc3
                  have ES := Lib.hid (rn_no P j i hw)
                  go_wp2
                  go_roundw
                  case rel => exact ⟨i + 1, by omega, by go_num, by rw [← ES.out]; exact Ho.out, by (repeat' (first | (with_reducible exact Below.refl _ _) | (with_reducible assumption) | (with_reducible refine Below.drew ?_) | (with_reducible refine belowDrewN ?_ _) | (with_reducible refine Below.alloc ?_ ?_ _) | (with_reducible refine Below.setCell ?_ ?_ _) | (with_reducible refine belowStep (by assumption) ?_ ?_) | (with_reducible exact Below.size (by assumption)) | go_size))⟩
                  case measure => simp [intOf]; omega
              · obtain rfl : i = P.sum + 1 := by omega
                have hii : ¬ (((P.sum + 1 : Nat)) : Int) < ((rl P).length : Int) := by omega
                have hf := Ho.out
                rw [rn_all, ← E.out] at hf
                have hf2 := hf.reads.2
                have hfr := Lib.hid hf.reads.1
                clear hf
                rw [hf2]
                go_wp2
                go_roundw
                case rel => exact ⟨k + 1, _, _, by omega, by go_num, rfl, hfr.out, by (repeat' (first | (with_reducible exact Below.refl _ _) | (with_reducible assumption) | (with_reducible refine Below.drew ?_) | (with_reducible refine belowDrewN ?_ _) | (with_reducible refine Below.alloc ?_ ?_ _) | (with_reducible refine Below.setCell ?_ ?_ _) | (with_reducible refine belowStep (by assumption) ?_ ?_) | (with_reducible exact Below.size (by assumption)) | go_size))⟩
                case measure => simp [intOf]; omega
    · obtain rfl : k = ds.length := by omega
      have hp := HP.out
      rw [List.take_length] at hp
      have HP2 := Lib.hid hp
      rw [List.take_length]
      clear hp HP
      go_wp2
      go_ret
      exact ⟨_, _, rfl, HP2.out, by (repeat' (first | (with_reducible exact Below.refl _ _) | (with_reducible assumption) | (with_reducible refine Below.drew ?_) | (with_reducible refine belowDrewN ?_ _) | (with_reducible refine Below.alloc ?_ ?_ _) | (with_reducible refine Below.setCell ?_ ?_ _) | (with_reducible refine belowStep (by assumption) ?_ ?_) | (with_reducible exact Below.size (by assumption)) | go_size))⟩
end Go.Proofs.Ythkchhjidihkpab


/-
  Plain facts: the model's counts of ways, capped, as a list. No program.
-/
namespace Go.Proofs.Ythkchhjidihkpab
def capN (x : Nat) : Nat := min x 1000000001
theorem capN_le (x : Nat) : capN x ≤ 1000000001 := Nat.min_le_right _ _
theorem capN_add (a b : Nat) : capN (capN a + capN b) = capN (a + b) := by unfold capN; omega
def wl (P : List Nat) (S : Nat) : List Int := (List.range (S + 1)).map (fun s => ((capN (ways P s) : Nat) : Int))
def wm (P : List Nat) (d j S : Nat) : List Int := (List.range (S + 1)).map (fun s => if j < s then ((capN (ways (d :: P) s) : Nat) : Int) else ((capN (ways P s) : Nat) : Int))
theorem wl_len (P : List Nat) (S : Nat) : (wl P S).length = S + 1 := by simp [wl]
theorem wm_len (P : List Nat) (d j S : Nat) : (wm P d j S).length = S + 1 := by simp [wm]
theorem wl_at (P : List Nat) {S s : Nat} (h : s ≤ S) : (wl P S)[s]? = some ((capN (ways P s) : Nat) : Int) := by
  unfold wl
  rw [List.getElem?_map, List.getElem?_range (by omega)]
  rfl
theorem wm_at (P : List Nat) (d j : Nat) {S s : Nat} (h : s ≤ S) : (wm P d j S)[s]? = some (if j < s then ((capN (ways (d :: P) s) : Nat) : Int) else ((capN (ways P s) : Nat) : Int)) := by
  unfold wm
  rw [List.getElem?_map, List.getElem?_range (by omega)]
  rfl
theorem wm_low (P : List Nat) (d j : Nat) {S s : Nat} (h : s ≤ S) (hj : s ≤ j) : (wm P d j S)[s]? = some ((capN (ways P s) : Nat) : Int) := by
  rw [wm_at P d j h, if_neg (by omega)]
theorem wm_start (P : List Nat) (d S : Nat) : wm P d S S = wl P S := by
  apply List.ext_getElem?
  intro s
  by_cases h : s ≤ S
  · rw [wm_low P d S h h, wl_at P h]
  · rw [List.getElem?_eq_none (by rw [wm_len]; omega), List.getElem?_eq_none (by rw [wl_len]; omega)]
theorem wm_end (P : List Nat) (d j S : Nat) (hj : j < d) : wm P d j S = wl (d :: P) S := by
  apply List.ext_getElem?
  intro s
  by_cases h : s ≤ S
  · rw [wm_at P d j h, wl_at (d :: P) h]
    by_cases h2 : j < s
    · rw [if_pos h2]
    · rw [if_neg h2, ways, if_neg (show ¬ d ≤ s by omega), Nat.add_zero]
  · rw [List.getElem?_eq_none (by rw [wm_len]; omega), List.getElem?_eq_none (by rw [wl_len]; omega)]
theorem wm_step (P : List Nat) (d j S : Nat) (h1 : 1 ≤ d) (hd : d ≤ j) (hS : j ≤ S) :
    (wm P d j S).set j (min (((capN (ways P j) : Nat) : Int) + ((capN (ways P (j - d)) : Nat) : Int)) 1000000001) = wm P d (j - 1) S := by
  have e : min (((capN (ways P j) : Nat) : Int) + ((capN (ways P (j - d)) : Nat) : Int)) 1000000001 = ((capN (ways (d :: P) j) : Nat) : Int) := by
    rw [ways, if_pos hd, ← capN_add]
    unfold capN
    omega
  rw [e]
  apply List.ext_getElem?
  intro s
  rw [List.getElem?_set]
  by_cases h : s ≤ S
  · by_cases h2 : j = s
    · subst h2
      rw [if_pos rfl, wm_len, if_pos (by omega), wm_at P d (j - 1) h, if_pos (by omega)]
    · rw [if_neg h2, wm_at P d j h, wm_at P d (j - 1) h]
      by_cases h3 : j < s
      · rw [if_pos h3, if_pos (by omega)]
      · rw [if_neg h3, if_neg (by omega)]
  · rw [if_neg (by omega), List.getElem?_eq_none (by rw [wm_len]; omega), List.getElem?_eq_none (by rw [wm_len]; omega)]
theorem wl_begin (S : Nat) : (List.replicate (S + 1) (0 : Int)).set 0 1 = wl [] S := by
  apply List.ext_getElem?
  intro s
  rw [List.getElem?_set]
  by_cases h : s ≤ S
  · rw [wl_at [] h, ways]
    by_cases h2 : 0 = s
    · subst h2
      rw [if_pos rfl, if_pos (by simp), if_pos rfl]
      rfl
    · rw [if_neg h2, List.getElem?_replicate, if_pos (by omega), if_neg (fun e => h2 e.symm)]
      rfl
  · rw [if_neg (by omega), List.getElem?_eq_none (by simp; omega), List.getElem?_eq_none (by rw [wl_len]; omega)]
end Go.Proofs.Ythkchhjidihkpab


/-
  Contracts of AreDivisorsFor, in the program and in the model.
-/
namespace Go.Proofs.Ythkchhjidihkpab
open Go.RowKit
/-- a sum that may be asked for -/
def askB (s : Int) : Bool := decide (0 ≤ s) && decide (s ≤ 100000)
theorem askB_iff (s : Int) : askB s = true ↔ 0 ≤ s ∧ s ≤ 100000 := by simp [askB]
theorem isAskedSum_any (n : Int) (w : World) : Calls Try.prog 134 #[.int .i64 n] w (RetQ (.bool (askB n)) w) := by
  by_cases h : 0 ≤ n ∧ n ≤ 100000
  · have E := Lib.hid ((askB_iff n).2 h)
    obtain ⟨h1, h2⟩ := h
    go_enter Try.func134, Try.ntmps134
    go_wp2
    go_ret
    exact ⟨ret_bool E.out.symm, 0, rfl⟩
  · have E : Hid (askB n = false) := Lib.hid (by simp [askB]; omega)
    by_cases h1 : 0 ≤ n
    · have h2 : ¬ n ≤ 100000 := fun h2 => h ⟨h1, h2⟩
      go_enter Try.func134, Try.ntmps134
      go_wp2
      go_ret
      exact ⟨ret_bool E.out.symm, 0, rfl⟩
    · clear h
      go_enter Try.func134, Try.ntmps134
      go_wp2
      go_ret
      exact ⟨ret_bool E.out.symm, 0, rfl⟩
/-- a falling list of divisors, and its sum -/
def adF (n : Int) : Int → Int → List Int → Option Int
  | _, t, [] => some t
  | last, t, d :: ds => if d < 1 ∨ last ≤ d ∨ n % d ≠ 0 then none else adF n d (t + d) ds
theorem adF_yes {n last t d : Int} {ds : List Int} (h : ¬ (d < 1 ∨ last ≤ d ∨ n % d ≠ 0)) : adF n last t (d :: ds) = adF n d (t + d) ds := by rw [adF, if_neg h]
theorem adF_no {n last t d : Int} {ds : List Int} (h : d < 1 ∨ last ≤ d ∨ n % d ≠ 0) : adF n last t (d :: ds) = none := by rw [adF, if_pos h]
def adB (n s : Int) (xs : List Int) : Bool := numB n && askB s && decide (adF n (n + 1) 0 xs = some s)
theorem adB_bad {n s : Int} {xs : List Int} (h : (numB n && askB s) = false) : adB n s xs = false := by unfold adB; rw [h]; rfl
theorem adB_ok {n s : Int} {xs : List Int} (h : (numB n && askB s) = true) : adB n s xs = decide (adF n (n + 1) 0 xs = some s) := by unfold adB; rw [h]; rfl
theorem dropI {xs : List Int} {k : Nat} {x : Int} (h : xs[k]? = some x) : xs.drop k = x :: xs.drop (k + 1) := by
  obtain ⟨h1, h2⟩ := List.getElem?_eq_some_iff.1 h
  rw [List.drop_eq_getElem_cons h1, h2]
/-- the last number ahead of place k -/
def lastI (n : Int) (xs : List Int) (k : Nat) : Int := match k with | 0 => n + 1 | j + 1 => (xs[j]?).getD 0
theorem lastI_next {n : Int} {xs : List Int} {k : Nat} {x : Int} (h : xs[k]? = some x) : lastI n xs (k + 1) = x := by simp [lastI, h]
structure Ad (n s : Int) (xs : List Int) (k : Nat) (last t : Int) : Prop where
  all : adF n (n + 1) 0 xs = adF n last t (xs.drop k)
  low : 0 ≤ t
  high : t ≤ 2000 * (k : Int)
  le : last ≤ n + 1
  is : last = lastI n xs k
theorem Ad.start (n s : Int) (xs : List Int) : Ad n s xs 0 (n + 1) 0 := ⟨rfl, by omega, by simp, by omega, rfl⟩
theorem Ad.next {n s : Int} {xs : List Int} {k : Nat} {last t d : Int} (h : Ad n s xs k last t) (hx : xs[k]? = some d) (hd : ¬ (d < 1 ∨ last ≤ d ∨ n % d ≠ 0)) (hn : n ≤ 2000) : Ad n s xs (k + 1) d (t + d) := by
  have h1 := h.low
  have h2 := h.high
  have h3 := h.le
  refine ⟨by rw [h.all, dropI hx, adF_yes hd], by omega, by omega, by omega, (lastI_next hx).symm⟩
theorem Ad.bad {n s : Int} {xs : List Int} {k : Nat} {last t d : Int} (h : Ad n s xs k last t) (hx : xs[k]? = some d) (hd : d < 1 ∨ last ≤ d ∨ n % d ≠ 0) (hk : (numB n && askB s) = true) : adB n s xs = false := by
  rw [adB_ok hk, h.all, dropI hx, adF_no hd]
  rfl
theorem Ad.done {n s : Int} {xs : List Int} {k : Nat} {last t : Int} (h : Ad n s xs k last t) (hl : xs.length ≤ k) (hk : (numB n && askB s) = true) : adB n s xs = (t == s) := by
  rw [adB_ok hk, h.all, List.drop_of_length_le hl, adF]
  by_cases e : t = s <;> simp [e]
end Go.Proofs.Ythkchhjidihkpab


/-
  Contract of CountSums in the model.
-/
namespace Go.Proofs.Ythkchhjidihkpab
open Go.RowKit
theorem l1Least_q (a b : Int) (w : World) : Calls Try.prog 85 #[.int .i64 a, .int .i64 b] w (RetQ (.int .i64 (min a b)) w) := by
  by_cases h : a < b
  · have E : Hid (min a b = a) := Lib.hid (by omega)
    go_enter Try.func85, Try.ntmps85
    go_wp2
    go_ret
    exact ⟨ret_int E.out.symm, 0, rfl⟩
  · have E : Hid (min a b = b) := Lib.hid (by omega)
    go_enter Try.func85, Try.ntmps85
    go_wp2
    go_ret
    exact ⟨ret_int E.out.symm, 0, rfl⟩
theorem mk_own {w1 : World} {base n : Nat} {v : Value} (h : w1.ownsRow base 3 1 v n (madeCells (Value.int .i64 0).cells (n * 1)).toList) : OwnI w1 base v (List.replicate n 0) := by
  unfold OwnI
  rw [List.map_replicate, List.length_replicate]
  rw [show (Value.int IntKind.i64 0).cells = #[Value.int IntKind.i64 0] from rfl, Nat.mul_one, toList_madeCells_one] at h
  exact h
theorem mk_one {w1 : World} {base g S c : Nat} (h : OwnI w1 base (.slice (some ⟨g, 0, none⟩) (S + 1) c) (List.replicate (S + 1) 0)) : OwnI (w1.setCell ⟨g, 0, none⟩ (.int .i64 1)) base (.slice (some ⟨g, 0, none⟩) (S + 1) c) (wl [] S) := by
  rw [← wl_begin]
  exact h.set_ (by simp) 0 1
/-- what the counts tell -/
def csV (n s : Int) : Value := if numB n = true ∧ askB s = true ∧ ways (dsc n.toNat n.toNat) s.toNat ≤ 1000000000 then .tuple #[.int .i64 (ways (dsc n.toNat n.toNat) s.toNat : Nat), .bool true] else .tuple #[.int .i64 0, .bool false]
theorem csV_n {n s : Int} (h : numB n = false) : csV n s = .tuple #[.int .i64 0, .bool false] := by unfold csV; rw [if_neg (fun e => by rw [h] at e; cases e.1)]
theorem csV_s {n s : Int} (h : askB s = false) : csV n s = .tuple #[.int .i64 0, .bool false] := by unfold csV; rw [if_neg (fun e => by rw [h] at e; cases e.2.1)]
theorem csV_big {N S : Nat} (h : ¬ ways (dsc N N) S ≤ 1000000000) : csV (N : Int) (S : Int) = .tuple #[.int .i64 0, .bool false] := by unfold csV; rw [if_neg (fun e => h (by simpa using e.2.2))]
theorem csV_ok {N S : Nat} (hn : numB (N : Int) = true) (hs : askB (S : Int) = true) (h : ways (dsc N N) S ≤ 1000000000) : csV (N : Int) (S : Int) = .tuple #[.int .i64 ((ways (dsc N N) S : Nat) : Int), .bool true] := by
  unfold csV
  rw [if_pos ⟨hn, hs, by simpa using h⟩]
  rfl
theorem askB_nat {s : Int} (h : askB s = true) : ∃ S : Nat, s = (S : Int) ∧ S ≤ 100000 := by
  obtain ⟨h1, h2⟩ := (askB_iff s).1 h
  exact ⟨s.toNat, by omega, by omega⟩
end Go.Proofs.Ythkchhjidihkpab
