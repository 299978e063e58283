
/-
  For all bytes: divisors are told for a sum just where it is counted, they are divisors with this sum, practical numbers have them for every sum, what is left out makes the other sum, and a list that is told to be of divisors tells that there are some. No condition.
-/
import Derived.Test.YtiapljimgnhgoacDr6
import Derived.Test.YtiapljimgnhgoacForI
import Derived.Test.YtiapljimgnhgoacCntI
import Derived.Test.YtiapljimgnhgoacAdS
import Derived.Test.YtiapljimgnhgoacShell
import Derived.Test.YtiapljimgnhgoacUnC
namespace Go.Proofs.Ytiapljimgnhgoac
open Go.ChangeShapes Go.WideShapes Go.ChangeAt Go.RowKit Go.Joins Go.Deep
theorem ways_app_le (hi lo : List Nat) (s : Nat) : ways lo s ≤ ways (hi ++ lo) s := by
  induction hi with
  | nil => exact Nat.le_refl _
  | cons d ds ih => rw [List.cons_append, ways]; omega
theorem ways_more {N j k s : Nat} (h : j ≤ k) (hw : 0 < ways (dsc N j) s) : 0 < ways (dsc N k) s := by
  obtain ⟨hi, e, _⟩ := dsc_split N j (k - j)
  rw [show j + (k - j) = k from by omega] at e
  rw [e]
  have := ways_app_le hi (dsc N j) s
  omega
theorem ad_ways {N : Nat} : ∀ {xs : List Int} {last t s : Int} {k : Nat}, adF (N : Int) last t xs = some s → last ≤ (k : Int) + 1 → t ≤ s ∧ 0 < ways (dsc N k) (s - t).toNat
  | [], last, t, s, k, h, hl => by
    rw [adF] at h
    injection h with h
    subst h
    refine ⟨Int.le_refl _, ?_⟩
    rw [Int.sub_self]
    exact ways_pos0 _
  | d :: ds, last, t, s, k, h, hl => by
    by_cases hd : d < 1 ∨ last ≤ d ∨ (N : Int) % d ≠ 0
    · rw [adF_no hd] at h; cases h
    · rw [adF_yes hd] at h
      have h1 : ¬ d < 1 := fun e => hd (.inl e)
      have h2 : ¬ last ≤ d := fun e => hd (.inr (.inl e))
      have h3 : (N : Int) % d = 0 := by
        by_cases e : (N : Int) % d = 0
        · exact e
        · exact absurd (.inr (.inr e)) hd
      obtain ⟨D, rfl⟩ := Int.eq_ofNat_of_zero_le (show 0 ≤ d by omega)
      obtain ⟨j, rfl⟩ : ∃ j, D = j + 1 := ⟨D - 1, by omega⟩
      obtain ⟨a, b⟩ := ad_ways (k := j) h (by omega)
      refine ⟨by omega, ways_more (j := j + 1) (by omega) ?_⟩
      have hm : N % (j + 1) = 0 := by
        have : ((N % (j + 1) : Nat) : Int) = 0 := by rw [Int.natCast_emod]; exact h3
        omega
      rw [dsc_yes hm, ways, if_pos (by omega)]
      rw [show (s - (t + ((j + 1 : Nat) : Int))).toNat = (s - t).toNat - (j + 1) from by omega] at b
      omega
theorem ad_told {n s : Int} {xs : List Int} (h : adB n s xs = true) : (dfO n s).isSome = true := by
  unfold adB at h
  simp only [Bool.and_eq_true, decide_eq_true_eq] at h
  obtain ⟨⟨hn, hs⟩, ha⟩ := h
  obtain ⟨N, rfl, h1, h2⟩ := numB_nat hn
  obtain ⟨S, rfl, hS⟩ := askB_nat hs
  obtain ⟨_, hw⟩ := ad_ways (k := N) ha (Int.le_refl _)
  rw [show ((S : Int) - 0).toNat = S from by omega] at hw
  rw [dfO_yes hn hs hw]
  rfl
theorem ad_fall {N : Nat} : ∀ {ls : List Nat} {last t : Int}, ls.Pairwise (fun a b => b < a) → (∀ d ∈ ls, 1 ≤ d ∧ (d : Int) < last ∧ N % d = 0) → adF (N : Int) last t (ints ls) = some (t + (ls.sum : Nat))
  | [], last, t, _, _ => by simp [ints, adF]
  | d :: ls, last, t, hp, hm => by
    obtain ⟨a, b, c⟩ := hm d (by simp)
    have h0 := List.pairwise_cons.1 hp
    show adF (N : Int) last t ((d : Int) :: ints ls) = _
    rw [adF_yes (fun e => by
      rcases e with e | e | e
      · omega
      · omega
      · exact e (by rw [← Int.natCast_emod, c]; rfl))]
    rw [ad_fall h0.2 (fun x hx => ⟨(hm x (by simp [hx])).1, by have := h0.1 x hx; omega, (hm x (by simp [hx])).2.2⟩), List.sum_cons]
    congr 1
    omega
theorem ad_pick {N S : Nat} (hn : numB (N : Int) = true) (hs : askB (S : Int) = true) (hw : 0 < ways (dsc N N) S) : adB (N : Int) (S : Int) (ints (pick (dsc N N) S)) = true := by
  unfold adB
  rw [hn, hs, ad_fall (N := N) ((dsc_fall N N).sublist (pick_sub _ _)) (fun d hd => by
    have := (dsc_mem N N d).1 ((pick_sub _ _).subset hd)
    exact ⟨this.1, by omega, this.2.2⟩), pick_sum _ hw]
  simp
theorem sig_few {N : Nat} (h1 : 1 ≤ N) (h2 : N ≤ 2000) : sig N ≤ 88000 := by
  have h3 := sum_take_le (asc_small h2) (asc N N).length
  rw [List.take_length, asc_sum] at h3
  have h4 : (asc N N).length ≤ 44 := by unfold asc; rw [List.length_reverse]; exact dsc_few h1 h2
  omega
set_option maxHeartbeats 2000000 in
theorem zSame_any (w : World) (A B : Option Addr) (c d : Nat) (xs ys : List Int) (ha : Reads w A xs) (hb : Reads w B ys) (hl : xs.length ≤ 1048576) (hl2 : ys.length ≤ 1048576) :
    Calls Try.prog 12 #[.slice A xs.length c, .slice B ys.length d] w (RetQ (.bool (decide (xs = ys))) w) := by
  have HA := Lib.hid ha
  have HB := Lib.hid hb
  clear ha hb
  by_cases hlen : xs.length = ys.length
  · have h1 : xs.length ≤ ys.length := by omega
    have h2 : ys.length ≤ xs.length := by omega
    have Hlen := Lib.hid hlen
    have hne : (((xs.length : Nat) : Int) != ((ys.length : Nat) : Int)) = false := by simp; omega
    clear hlen
    go_enter Try.func12, Try.ntmps12
    go_wp2
    go_loopw [13] (fun v13 wr => ∃ k : Nat, k ≤ xs.length ∧ v13 = .int .i64 k ∧ xs.take k = ys.take k ∧ ∃ n, wr = w.drewN n) (fun v13 _ => xs.length - (intOf v13).toNat)
    case atStart => exact ⟨0, Nat.zero_le _, rfl, by simp, 0, rfl⟩
    case round =>
      obtain ⟨k, hk, rfl, ht, n, rfl⟩ := hrel
      have HT := Lib.hid ht
      clear ht
      by_cases hlt : k < xs.length
      · obtain ⟨b, o, x, rfl, _, hx, hcell⟩ := HA.out.at_ hlt
        obtain ⟨b', o', y, rfl, _, hy, hcell'⟩ := HB.out.at_ (show k < ys.length by omega)
        have hki : (k : Int) < (xs.length : Int) := by omega
        have hki2 : (k : Int) < (ys.length : Int) := by omega
        by_cases hxy : x = y
        · subst hxy
          have HT2 : Hid (xs.take (k + 1) = ys.take (k + 1)) := Lib.hid (by
            rw [List.take_add_one, List.take_add_one, HT.out, hx, hy])
          clear hx hy
          go_wp2
          go_quiet (fail)
          go_wp2
          go_roundw
          case rel => exact ⟨k + 1, by omega, by go_num, HT2.out, _, rfl⟩
          case measure => simp [intOf]; omega
        · have E : Hid (decide (xs = ys) = false) := Lib.hid (by
            refine decide_eq_false fun e => hxy ?_
            rw [e, hy] at hx
            injection hx with hx
            exact hx.symm)
          have hnb : (x != y) = true := by simp [hxy]
          clear hx hy hxy
          go_wp2
          go_quiet (fail)
          go_wp2
          go_ret
          exact ⟨ret_bool E.out.symm, _, World.drewN_drewN _ _ _⟩
      · obtain rfl : k = xs.length := by omega
        have E : Hid (decide (xs = ys) = true) := Lib.hid (by
          refine decide_eq_true ?_
          have := HT.out
          rw [List.take_length, Hlen.out, List.take_length] at this
          exact this)
        go_wp2
        go_ret
        exact ⟨ret_bool E.out.symm, n, rfl⟩
  · have E : Hid (decide (xs = ys) = false) := Lib.hid (decide_eq_false fun e => hlen (by rw [e]))
    have hne : (((xs.length : Nat) : Int) != ((ys.length : Nat) : Int)) = true := by simp; omega
    clear hlen
    go_enter Try.func12, Try.ntmps12
    go_wp2
    go_ret
    exact ⟨ret_bool E.out.symm, 0, rfl⟩
set_option maxRecDepth 100000 in
set_option maxHeartbeats 16000000 in
theorem dw_whole (w : World) (A : Option Addr) (c n : Nat) (B : Option Addr) (d m' : Nat) (hbig : bigB n m' = false) (hn2 : n ≤ 1048576) (hm2 : m' ≤ 1048576)
    (hdr : ∀ w', Below w.heap.size w w' → Calls Try.prog 7 #[.slice A n c] w' (DrawNS w'))
    (hdr2 : ∀ w', Below w.heap.size w w' → Calls Try.prog 16 #[.slice B m' d] w' (DrawNSL w')) :
    Calls Try.prog 3 #[.slice A n c, .slice B m' d] w (Ret (.bool true) w) := by
  have HDR := Lib.hid hdr
  have HDR2 := Lib.hid hdr2
  have hn : n ≤ 9223372036854775807 := by omega
  have hm' : m' ≤ 9223372036854775807 := by omega
  clear hdr hdr2
  go_enter Try.func3, Try.ntmps3
  go_wp2_with fail
  refine (big_any _ _ _ _ _ _ _ hn hm').mono ?_; rintro e w1 ⟨rfl, k1, rfl⟩
  rw [hbig]
  clear hbig
  go_wp2_with fail
  refine (HDR.out _ (by (repeat' (first | (with_reducible exact Below.refl _ _) | (with_reducible assumption) | (with_reducible refine Below.drew ?_) | (with_reducible refine belowDrewN ?_ _) | (with_reducible refine Below.alloc ?_ ?_ _) | (with_reducible refine Below.setCell ?_ ?_ _) | (with_reducible refine belowStep (by assumption) ?_ ?_) | (with_reducible exact Below.size (by assumption)) | go_size)))).mono ?_; rintro e w2 ⟨x, s, rfl, x0, x1, s0, s1, hb2⟩
  have hz2 := hb2.size
  (try simp only [World.heap_drewN] at hz2)
  have hlen := dfO_len x s
  rw [← ints_len] at hlen
  have ID1 : Hid (∀ w, Calls Try.prog 8 #[.int .i64 x, .int .i64 s] w (RetLB (ints ((dfO x s).getD [])) (dfO x s).isSome w)) := Lib.hid fun w => divisorsFor_any x s w
  have ID2 : Hid (∀ w, Calls Try.prog 9 #[.int .i64 x, .int .i64 s] w (RetLB (ints ((dfO x s).getD [])) (dfO x s).isSome w)) := Lib.hid fun w => spec_divisorsFor_any x s w
  have IC1 := Lib.hid fun (w : World) => countSums_any x s w
  have IC2 := Lib.hid fun (w : World) => spec_countSums_any x s w
  have IPR := Lib.hid fun (w : World) => isPractical_any x w
  have ISM := Lib.hid fun (w : World) => divisorSum_any x w
  cases hx : numB x with
  | false =>
    rw [dfO_n hx] at ID1 ID2 hlen
    rw [csV_n hx] at IC1 IC2
    rw [prcB_no hx, hx] at IPR
    rw [sgR_no hx, hx] at ISM
    simp only [Option.getD_none, Option.isSome_none] at ID1 ID2 hlen
    clear hx
    obtain ⟨ys, hys⟩ : ∃ ys, ys = ints [] := ⟨_, rfl⟩
    rw [← hys] at ID1 ID2 hlen
    clear hys
    go_wp2_with fail
    refine (ID1.out _).mono ?_; rintro e w3 ⟨v3, rfl, ho3, hb3⟩; obtain ⟨A3, c3, rfl, hr3⟩ := ho3.form
    have hz3 := hb3.size
    have R3 := Lib.hid hr3
    clear ho3 hr3
    go_wp2_with fail
    refine (ID2.out _).mono ?_; rintro e w4 ⟨v4, rfl, ho4, hb4⟩; obtain ⟨A4, c4, rfl, hr4⟩ := ho4.form
    have hz4 := hb4.size
    have R4 := Lib.hid hr4
    clear ho4 hr4
    go_wp2_with fail
    refine (IC1.out _).mono ?_; rintro e w5 ⟨rfl, hb5⟩; have hz5 := hb5.size; (try simp only [World.size_alloc, World.size_setCell, World.size_drew, World.heap_drewN] at hz5)
    go_wp2_with fail
    refine (IC2.out _).mono ?_; rintro e w6 ⟨rfl, hb6⟩; have hz6 := hb6.size; (try simp only [World.size_alloc, World.size_setCell, World.size_drew, World.heap_drewN] at hz6)
    have HZ : Hid (∀ w, Reads w A3 ys → Reads w A4 ys → Calls Try.prog 12 #[.slice A3 ys.length c3, .slice A4 ys.length c4] w (RetQ (.bool true) w)) := Lib.hid fun w h h' => by
      have := zSame_any w A3 A4 c3 c4 ys ys h h' (by omega) (by omega)
      rwa [decide_eq_true rfl] at this
    go_wp2_with fail
    refine (HZ.out _ (R3.out.below (by (repeat' (first | (with_reducible exact Below.refl _ _) | (with_reducible assumption) | (with_reducible refine Below.drew ?_) | (with_reducible refine belowDrewN ?_ _) | (with_reducible refine Below.alloc ?_ ?_ _) | (with_reducible refine Below.setCell ?_ ?_ _) | (with_reducible refine belowStep (by assumption) ?_ ?_) | (with_reducible exact Below.size (by assumption)) | go_size)))) (R4.out.below (by (repeat' (first | (with_reducible exact Below.refl _ _) | (with_reducible assumption) | (with_reducible refine Below.drew ?_) | (with_reducible refine belowDrewN ?_ _) | (with_reducible refine Below.alloc ?_ ?_ _) | (with_reducible refine Below.setCell ?_ ?_ _) | (with_reducible refine belowStep (by assumption) ?_ ?_) | (with_reducible exact Below.size (by assumption)) | go_size))))).mono ?_; rintro e w7 ⟨rfl, k7, rfl⟩
    go_wp2_with fail
    refine (IPR.out _).mono ?_; rintro e w8 ⟨rfl, hb8⟩; have hz8 := hb8.size; (try simp only [World.size_alloc, World.size_setCell, World.size_drew, World.heap_drewN] at hz8)
    go_wp2_with fail
    refine (ISM.out _).mono ?_; rintro e w9 ⟨rfl, hb9⟩; have hz9 := hb9.size; (try simp only [World.size_alloc, World.size_setCell, World.size_drew, World.heap_drewN] at hz9)
    go_wp2_with fail
    refine (HDR2.out _ (by (repeat' (first | (with_reducible exact Below.refl _ _) | (with_reducible assumption) | (with_reducible refine Below.drew ?_) | (with_reducible refine belowDrewN ?_ _) | (with_reducible refine Below.alloc ?_ ?_ _) | (with_reducible refine Below.setCell ?_ ?_ _) | (with_reducible refine belowStep (by assumption) ?_ ?_) | (with_reducible exact Below.size (by assumption)) | go_size)))).mono ?_; rintro e w21 ⟨n2, g2, A2, c2, xs, rfl, hr2, hl2, h642, n0, n1, g0, g1, hb21⟩
    have hz21 := hb21.size; (try simp only [World.size_alloc, World.size_setCell, World.size_drew, World.heap_drewN] at hz21)
    have hby : Below w.heap.size w w21 := by (repeat' (first | (with_reducible exact Below.refl _ _) | (with_reducible assumption) | (with_reducible refine Below.drew ?_) | (with_reducible refine belowDrewN ?_ _) | (with_reducible refine Below.alloc ?_ ?_ _) | (with_reducible refine Below.setCell ?_ ?_ _) | (with_reducible refine belowStep (by assumption) ?_ ?_) | (with_reducible exact Below.size (by assumption)) | go_size))
    have R2 := Lib.hid hr2
    have H642 := Lib.hid h642
    clear hr2 h642
    have lx2 : xs.length ≤ 1048576 := by omega
    have AD1 := Lib.hid fun (w : World) (h : Reads w A2 xs) => areDivisorsFor_any n2 g2 w ⟨by omega, by omega⟩ ⟨by omega, by omega⟩ A2 c2 xs h lx2 (fun i x hx => H642.out x (List.mem_of_getElem? hx))
    have AD2 := Lib.hid fun (w : World) (h : Reads w A2 xs) => spec_areDivisorsFor_any n2 g2 w ⟨by omega, by omega⟩ ⟨by omega, by omega⟩ A2 c2 xs h lx2 (fun i x hx => H642.out x (List.mem_of_getElem? hx))
    have HF2 := Lib.hid fun (w : World) => divisorsFor_any n2 g2 w
    cases had : adB n2 g2 xs with
    | false =>
      rw [had] at AD1 AD2
      clear had
      generalize (numB n2 && askB g2) = nt at *
      go_wp2_with fail
      refine (AD1.out _ R2.out).mono ?_; rintro e w22 ⟨rfl, k22, rfl⟩
      go_wp2_with fail
      refine (AD2.out _ (R2.out.drewN _)).mono ?_; rintro e w23 ⟨rfl, k23, rfl⟩
      have hnt : (nt != nt) = false := by simp
      go_wp2
      go_ret
      exact ⟨rfl, by (repeat' (first | (with_reducible exact Below.refl _ _) | (with_reducible assumption) | (with_reducible refine Below.drew ?_) | (with_reducible refine belowDrewN ?_ _) | (with_reducible refine Below.alloc ?_ ?_ _) | (with_reducible refine Below.setCell ?_ ?_ _) | (with_reducible refine belowStep (by assumption) ?_ ?_) | (with_reducible exact Below.size (by assumption)) | go_size))⟩
    | true =>
      have hsm := ad_told had
      rw [hsm] at HF2
      rw [had] at AD1 AD2
      clear had hsm
      generalize (numB n2 && askB g2) = nt at *
      go_wp2_with fail
      refine (AD1.out _ R2.out).mono ?_; rintro e w22 ⟨rfl, k22, rfl⟩
      go_wp2_with fail
      refine (AD2.out _ (R2.out.drewN _)).mono ?_; rintro e w23 ⟨rfl, k23, rfl⟩
      have hnt : (nt != nt) = false := by simp
      go_wp2_with fail
      refine (HF2.out _).mono ?_; rintro e w24 ⟨v24, rfl, _, hb24⟩
      have hz24 := hb24.size
      go_wp2
      go_ret
      exact ⟨rfl, by (repeat' (first | (with_reducible exact Below.refl _ _) | (with_reducible assumption) | (with_reducible refine Below.drew ?_) | (with_reducible refine belowDrewN ?_ _) | (with_reducible refine Below.alloc ?_ ?_ _) | (with_reducible refine Below.setCell ?_ ?_ _) | (with_reducible refine belowStep (by assumption) ?_ ?_) | (with_reducible exact Below.size (by assumption)) | go_size))⟩
  | true =>
    obtain ⟨N, rfl, h1, h2⟩ := numB_nat hx
    have hsf := sig_few h1 h2
    rw [prcB_yes h1 h2, hx] at IPR
    rw [sgR_yes hx, hx] at ISM
    cases hs : askB s with
    | false =>
      have hrange : ¬ (0 ≤ s ∧ s ≤ 100000) := fun h => by rw [(askB_iff s).2 h] at hs; cases hs
      rw [dfO_s hs] at ID1 ID2 hlen
      rw [csV_s hs] at IC1 IC2
      simp only [Option.getD_none, Option.isSome_none] at ID1 ID2 hlen
      clear hx hs
      generalize sig N = sm at *
      generalize (brkO N).isNone = p at *
      obtain ⟨ys, hys⟩ : ∃ ys, ys = ints [] := ⟨_, rfl⟩
      rw [← hys] at ID1 ID2 hlen
      clear hys
      cases p with
      | false =>
        go_wp2_with fail
        refine (ID1.out _).mono ?_; rintro e w3 ⟨v3, rfl, ho3, hb3⟩; obtain ⟨A3, c3, rfl, hr3⟩ := ho3.form
        have hz3 := hb3.size
        have R3 := Lib.hid hr3
        clear ho3 hr3
        go_wp2_with fail
        refine (ID2.out _).mono ?_; rintro e w4 ⟨v4, rfl, ho4, hb4⟩; obtain ⟨A4, c4, rfl, hr4⟩ := ho4.form
        have hz4 := hb4.size
        have R4 := Lib.hid hr4
        clear ho4 hr4
        go_wp2_with fail
        refine (IC1.out _).mono ?_; rintro e w5 ⟨rfl, hb5⟩; have hz5 := hb5.size; (try simp only [World.size_alloc, World.size_setCell, World.size_drew, World.heap_drewN] at hz5)
        go_wp2_with fail
        refine (IC2.out _).mono ?_; rintro e w6 ⟨rfl, hb6⟩; have hz6 := hb6.size; (try simp only [World.size_alloc, World.size_setCell, World.size_drew, World.heap_drewN] at hz6)
        have HZ : Hid (∀ w, Reads w A3 ys → Reads w A4 ys → Calls Try.prog 12 #[.slice A3 ys.length c3, .slice A4 ys.length c4] w (RetQ (.bool true) w)) := Lib.hid fun w h h' => by
          have := zSame_any w A3 A4 c3 c4 ys ys h h' (by omega) (by omega)
          rwa [decide_eq_true rfl] at this
        go_wp2_with fail
        refine (HZ.out _ (R3.out.below (by (repeat' (first | (with_reducible exact Below.refl _ _) | (with_reducible assumption) | (with_reducible refine Below.drew ?_) | (with_reducible refine belowDrewN ?_ _) | (with_reducible refine Below.alloc ?_ ?_ _) | (with_reducible refine Below.setCell ?_ ?_ _) | (with_reducible refine belowStep (by assumption) ?_ ?_) | (with_reducible exact Below.size (by assumption)) | go_size)))) (R4.out.below (by (repeat' (first | (with_reducible exact Below.refl _ _) | (with_reducible assumption) | (with_reducible refine Below.drew ?_) | (with_reducible refine belowDrewN ?_ _) | (with_reducible refine Below.alloc ?_ ?_ _) | (with_reducible refine Below.setCell ?_ ?_ _) | (with_reducible refine belowStep (by assumption) ?_ ?_) | (with_reducible exact Below.size (by assumption)) | go_size))))).mono ?_; rintro e w7 ⟨rfl, k7, rfl⟩
        go_wp2_with fail
        refine (IPR.out _).mono ?_; rintro e w8 ⟨rfl, hb8⟩; have hz8 := hb8.size; (try simp only [World.size_alloc, World.size_setCell, World.size_drew, World.heap_drewN] at hz8)
        go_wp2_with fail
        refine (ISM.out _).mono ?_; rintro e w9 ⟨rfl, hb9⟩; have hz9 := hb9.size; (try simp only [World.size_alloc, World.size_setCell, World.size_drew, World.heap_drewN] at hz9)
        go_wp2_with fail
        refine (HDR2.out _ (by (repeat' (first | (with_reducible exact Below.refl _ _) | (with_reducible assumption) | (with_reducible refine Below.drew ?_) | (with_reducible refine belowDrewN ?_ _) | (with_reducible refine Below.alloc ?_ ?_ _) | (with_reducible refine Below.setCell ?_ ?_ _) | (with_reducible refine belowStep (by assumption) ?_ ?_) | (with_reducible exact Below.size (by assumption)) | go_size)))).mono ?_; rintro e w21 ⟨n2, g2, A2, c2, xs, rfl, hr2, hl2, h642, n0, n1, g0, g1, hb21⟩
        have hz21 := hb21.size; (try simp only [World.size_alloc, World.size_setCell, World.size_drew, World.heap_drewN] at hz21)
        have hby : Below w.heap.size w w21 := by (repeat' (first | (with_reducible exact Below.refl _ _) | (with_reducible assumption) | (with_reducible refine Below.drew ?_) | (with_reducible refine belowDrewN ?_ _) | (with_reducible refine Below.alloc ?_ ?_ _) | (with_reducible refine Below.setCell ?_ ?_ _) | (with_reducible refine belowStep (by assumption) ?_ ?_) | (with_reducible exact Below.size (by assumption)) | go_size))
        have R2 := Lib.hid hr2
        have H642 := Lib.hid h642
        clear hr2 h642
        have lx2 : xs.length ≤ 1048576 := by omega
        have AD1 := Lib.hid fun (w : World) (h : Reads w A2 xs) => areDivisorsFor_any n2 g2 w ⟨by omega, by omega⟩ ⟨by omega, by omega⟩ A2 c2 xs h lx2 (fun i x hx => H642.out x (List.mem_of_getElem? hx))
        have AD2 := Lib.hid fun (w : World) (h : Reads w A2 xs) => spec_areDivisorsFor_any n2 g2 w ⟨by omega, by omega⟩ ⟨by omega, by omega⟩ A2 c2 xs h lx2 (fun i x hx => H642.out x (List.mem_of_getElem? hx))
        have HF2 := Lib.hid fun (w : World) => divisorsFor_any n2 g2 w
        cases had : adB n2 g2 xs with
        | false =>
          rw [had] at AD1 AD2
          clear had
          generalize (numB n2 && askB g2) = nt at *
          go_wp2_with fail
          refine (AD1.out _ R2.out).mono ?_; rintro e w22 ⟨rfl, k22, rfl⟩
          go_wp2_with fail
          refine (AD2.out _ (R2.out.drewN _)).mono ?_; rintro e w23 ⟨rfl, k23, rfl⟩
          have hnt : (nt != nt) = false := by simp
          go_wp2
          go_ret
          exact ⟨rfl, by (repeat' (first | (with_reducible exact Below.refl _ _) | (with_reducible assumption) | (with_reducible refine Below.drew ?_) | (with_reducible refine belowDrewN ?_ _) | (with_reducible refine Below.alloc ?_ ?_ _) | (with_reducible refine Below.setCell ?_ ?_ _) | (with_reducible refine belowStep (by assumption) ?_ ?_) | (with_reducible exact Below.size (by assumption)) | go_size))⟩
        | true =>
          have hsm := ad_told had
          rw [hsm] at HF2
          rw [had] at AD1 AD2
          clear had hsm
          generalize (numB n2 && askB g2) = nt at *
          go_wp2_with fail
          refine (AD1.out _ R2.out).mono ?_; rintro e w22 ⟨rfl, k22, rfl⟩
          go_wp2_with fail
          refine (AD2.out _ (R2.out.drewN _)).mono ?_; rintro e w23 ⟨rfl, k23, rfl⟩
          have hnt : (nt != nt) = false := by simp
          go_wp2_with fail
          refine (HF2.out _).mono ?_; rintro e w24 ⟨v24, rfl, _, hb24⟩
          have hz24 := hb24.size
          go_wp2
          go_ret
          exact ⟨rfl, by (repeat' (first | (with_reducible exact Below.refl _ _) | (with_reducible assumption) | (with_reducible refine Below.drew ?_) | (with_reducible refine belowDrewN ?_ _) | (with_reducible refine Below.alloc ?_ ?_ _) | (with_reducible refine Below.setCell ?_ ?_ _) | (with_reducible refine belowStep (by assumption) ?_ ?_) | (with_reducible exact Below.size (by assumption)) | go_size))⟩
      | true =>
        by_cases hs0 : 0 ≤ s
        · have hs1 : ¬ s ≤ (sm : Int) := by omega
          clear hrange
          go_wp2_with fail
          refine (ID1.out _).mono ?_; rintro e w3 ⟨v3, rfl, ho3, hb3⟩; obtain ⟨A3, c3, rfl, hr3⟩ := ho3.form
          have hz3 := hb3.size
          have R3 := Lib.hid hr3
          clear ho3 hr3
          go_wp2_with fail
          refine (ID2.out _).mono ?_; rintro e w4 ⟨v4, rfl, ho4, hb4⟩; obtain ⟨A4, c4, rfl, hr4⟩ := ho4.form
          have hz4 := hb4.size
          have R4 := Lib.hid hr4
          clear ho4 hr4
          go_wp2_with fail
          refine (IC1.out _).mono ?_; rintro e w5 ⟨rfl, hb5⟩; have hz5 := hb5.size; (try simp only [World.size_alloc, World.size_setCell, World.size_drew, World.heap_drewN] at hz5)
          go_wp2_with fail
          refine (IC2.out _).mono ?_; rintro e w6 ⟨rfl, hb6⟩; have hz6 := hb6.size; (try simp only [World.size_alloc, World.size_setCell, World.size_drew, World.heap_drewN] at hz6)
          have HZ : Hid (∀ w, Reads w A3 ys → Reads w A4 ys → Calls Try.prog 12 #[.slice A3 ys.length c3, .slice A4 ys.length c4] w (RetQ (.bool true) w)) := Lib.hid fun w h h' => by
            have := zSame_any w A3 A4 c3 c4 ys ys h h' (by omega) (by omega)
            rwa [decide_eq_true rfl] at this
          go_wp2_with fail
          refine (HZ.out _ (R3.out.below (by (repeat' (first | (with_reducible exact Below.refl _ _) | (with_reducible assumption) | (with_reducible refine Below.drew ?_) | (with_reducible refine belowDrewN ?_ _) | (with_reducible refine Below.alloc ?_ ?_ _) | (with_reducible refine Below.setCell ?_ ?_ _) | (with_reducible refine belowStep (by assumption) ?_ ?_) | (with_reducible exact Below.size (by assumption)) | go_size)))) (R4.out.below (by (repeat' (first | (with_reducible exact Below.refl _ _) | (with_reducible assumption) | (with_reducible refine Below.drew ?_) | (with_reducible refine belowDrewN ?_ _) | (with_reducible refine Below.alloc ?_ ?_ _) | (with_reducible refine Below.setCell ?_ ?_ _) | (with_reducible refine belowStep (by assumption) ?_ ?_) | (with_reducible exact Below.size (by assumption)) | go_size))))).mono ?_; rintro e w7 ⟨rfl, k7, rfl⟩
          go_wp2_with fail
          refine (IPR.out _).mono ?_; rintro e w8 ⟨rfl, hb8⟩; have hz8 := hb8.size; (try simp only [World.size_alloc, World.size_setCell, World.size_drew, World.heap_drewN] at hz8)
          go_wp2_with fail
          refine (ISM.out _).mono ?_; rintro e w9 ⟨rfl, hb9⟩; have hz9 := hb9.size; (try simp only [World.size_alloc, World.size_setCell, World.size_drew, World.heap_drewN] at hz9)
          go_wp2_with fail
          refine (HDR2.out _ (by (repeat' (first | (with_reducible exact Below.refl _ _) | (with_reducible assumption) | (with_reducible refine Below.drew ?_) | (with_reducible refine belowDrewN ?_ _) | (with_reducible refine Below.alloc ?_ ?_ _) | (with_reducible refine Below.setCell ?_ ?_ _) | (with_reducible refine belowStep (by assumption) ?_ ?_) | (with_reducible exact Below.size (by assumption)) | go_size)))).mono ?_; rintro e w21 ⟨n2, g2, A2, c2, xs, rfl, hr2, hl2, h642, n0, n1, g0, g1, hb21⟩
          have hz21 := hb21.size; (try simp only [World.size_alloc, World.size_setCell, World.size_drew, World.heap_drewN] at hz21)
          have hby : Below w.heap.size w w21 := by (repeat' (first | (with_reducible exact Below.refl _ _) | (with_reducible assumption) | (with_reducible refine Below.drew ?_) | (with_reducible refine belowDrewN ?_ _) | (with_reducible refine Below.alloc ?_ ?_ _) | (with_reducible refine Below.setCell ?_ ?_ _) | (with_reducible refine belowStep (by assumption) ?_ ?_) | (with_reducible exact Below.size (by assumption)) | go_size))
          have R2 := Lib.hid hr2
          have H642 := Lib.hid h642
          clear hr2 h642
          have lx2 : xs.length ≤ 1048576 := by omega
          have AD1 := Lib.hid fun (w : World) (h : Reads w A2 xs) => areDivisorsFor_any n2 g2 w ⟨by omega, by omega⟩ ⟨by omega, by omega⟩ A2 c2 xs h lx2 (fun i x hx => H642.out x (List.mem_of_getElem? hx))
          have AD2 := Lib.hid fun (w : World) (h : Reads w A2 xs) => spec_areDivisorsFor_any n2 g2 w ⟨by omega, by omega⟩ ⟨by omega, by omega⟩ A2 c2 xs h lx2 (fun i x hx => H642.out x (List.mem_of_getElem? hx))
          have HF2 := Lib.hid fun (w : World) => divisorsFor_any n2 g2 w
          cases had : adB n2 g2 xs with
          | false =>
            rw [had] at AD1 AD2
            clear had
            generalize (numB n2 && askB g2) = nt at *
            go_wp2_with fail
            refine (AD1.out _ R2.out).mono ?_; rintro e w22 ⟨rfl, k22, rfl⟩
            go_wp2_with fail
            refine (AD2.out _ (R2.out.drewN _)).mono ?_; rintro e w23 ⟨rfl, k23, rfl⟩
            have hnt : (nt != nt) = false := by simp
            go_wp2
            go_ret
            exact ⟨rfl, by (repeat' (first | (with_reducible exact Below.refl _ _) | (with_reducible assumption) | (with_reducible refine Below.drew ?_) | (with_reducible refine belowDrewN ?_ _) | (with_reducible refine Below.alloc ?_ ?_ _) | (with_reducible refine Below.setCell ?_ ?_ _) | (with_reducible refine belowStep (by assumption) ?_ ?_) | (with_reducible exact Below.size (by assumption)) | go_size))⟩
          | true =>
            have hsm := ad_told had
            rw [hsm] at HF2
            rw [had] at AD1 AD2
            clear had hsm
            generalize (numB n2 && askB g2) = nt at *
            go_wp2_with fail
            refine (AD1.out _ R2.out).mono ?_; rintro e w22 ⟨rfl, k22, rfl⟩
            go_wp2_with fail
            refine (AD2.out _ (R2.out.drewN _)).mono ?_; rintro e w23 ⟨rfl, k23, rfl⟩
            have hnt : (nt != nt) = false := by simp
            go_wp2_with fail
            refine (HF2.out _).mono ?_; rintro e w24 ⟨v24, rfl, _, hb24⟩
            have hz24 := hb24.size
            go_wp2
            go_ret
            exact ⟨rfl, by (repeat' (first | (with_reducible exact Below.refl _ _) | (with_reducible assumption) | (with_reducible refine Below.drew ?_) | (with_reducible refine belowDrewN ?_ _) | (with_reducible refine Below.alloc ?_ ?_ _) | (with_reducible refine Below.setCell ?_ ?_ _) | (with_reducible refine belowStep (by assumption) ?_ ?_) | (with_reducible exact Below.size (by assumption)) | go_size))⟩
        · clear hrange
          go_wp2_with fail
          refine (ID1.out _).mono ?_; rintro e w3 ⟨v3, rfl, ho3, hb3⟩; obtain ⟨A3, c3, rfl, hr3⟩ := ho3.form
          have hz3 := hb3.size
          have R3 := Lib.hid hr3
          clear ho3 hr3
          go_wp2_with fail
          refine (ID2.out _).mono ?_; rintro e w4 ⟨v4, rfl, ho4, hb4⟩; obtain ⟨A4, c4, rfl, hr4⟩ := ho4.form
          have hz4 := hb4.size
          have R4 := Lib.hid hr4
          clear ho4 hr4
          go_wp2_with fail
          refine (IC1.out _).mono ?_; rintro e w5 ⟨rfl, hb5⟩; have hz5 := hb5.size; (try simp only [World.size_alloc, World.size_setCell, World.size_drew, World.heap_drewN] at hz5)
          go_wp2_with fail
          refine (IC2.out _).mono ?_; rintro e w6 ⟨rfl, hb6⟩; have hz6 := hb6.size; (try simp only [World.size_alloc, World.size_setCell, World.size_drew, World.heap_drewN] at hz6)
          have HZ : Hid (∀ w, Reads w A3 ys → Reads w A4 ys → Calls Try.prog 12 #[.slice A3 ys.length c3, .slice A4 ys.length c4] w (RetQ (.bool true) w)) := Lib.hid fun w h h' => by
            have := zSame_any w A3 A4 c3 c4 ys ys h h' (by omega) (by omega)
            rwa [decide_eq_true rfl] at this
          go_wp2_with fail
          refine (HZ.out _ (R3.out.below (by (repeat' (first | (with_reducible exact Below.refl _ _) | (with_reducible assumption) | (with_reducible refine Below.drew ?_) | (with_reducible refine belowDrewN ?_ _) | (with_reducible refine Below.alloc ?_ ?_ _) | (with_reducible refine Below.setCell ?_ ?_ _) | (with_reducible refine belowStep (by assumption) ?_ ?_) | (with_reducible exact Below.size (by assumption)) | go_size)))) (R4.out.below (by (repeat' (first | (with_reducible exact Below.refl _ _) | (with_reducible assumption) | (with_reducible refine Below.drew ?_) | (with_reducible refine belowDrewN ?_ _) | (with_reducible refine Below.alloc ?_ ?_ _) | (with_reducible refine Below.setCell ?_ ?_ _) | (with_reducible refine belowStep (by assumption) ?_ ?_) | (with_reducible exact Below.size (by assumption)) | go_size))))).mono ?_; rintro e w7 ⟨rfl, k7, rfl⟩
          go_wp2_with fail
          refine (IPR.out _).mono ?_; rintro e w8 ⟨rfl, hb8⟩; have hz8 := hb8.size; (try simp only [World.size_alloc, World.size_setCell, World.size_drew, World.heap_drewN] at hz8)
          go_wp2_with fail
          refine (ISM.out _).mono ?_; rintro e w9 ⟨rfl, hb9⟩; have hz9 := hb9.size; (try simp only [World.size_alloc, World.size_setCell, World.size_drew, World.heap_drewN] at hz9)
          go_wp2_with fail
          refine (HDR2.out _ (by (repeat' (first | (with_reducible exact Below.refl _ _) | (with_reducible assumption) | (with_reducible refine Below.drew ?_) | (with_reducible refine belowDrewN ?_ _) | (with_reducible refine Below.alloc ?_ ?_ _) | (with_reducible refine Below.setCell ?_ ?_ _) | (with_reducible refine belowStep (by assumption) ?_ ?_) | (with_reducible exact Below.size (by assumption)) | go_size)))).mono ?_; rintro e w21 ⟨n2, g2, A2, c2, xs, rfl, hr2, hl2, h642, n0, n1, g0, g1, hb21⟩
          have hz21 := hb21.size; (try simp only [World.size_alloc, World.size_setCell, World.size_drew, World.heap_drewN] at hz21)
          have hby : Below w.heap.size w w21 := by (repeat' (first | (with_reducible exact Below.refl _ _) | (with_reducible assumption) | (with_reducible refine Below.drew ?_) | (with_reducible refine belowDrewN ?_ _) | (with_reducible refine Below.alloc ?_ ?_ _) | (with_reducible refine Below.setCell ?_ ?_ _) | (with_reducible refine belowStep (by assumption) ?_ ?_) | (with_reducible exact Below.size (by assumption)) | go_size))
          have R2 := Lib.hid hr2
          have H642 := Lib.hid h642
          clear hr2 h642
          have lx2 : xs.length ≤ 1048576 := by omega
          have AD1 := Lib.hid fun (w : World) (h : Reads w A2 xs) => areDivisorsFor_any n2 g2 w ⟨by omega, by omega⟩ ⟨by omega, by omega⟩ A2 c2 xs h lx2 (fun i x hx => H642.out x (List.mem_of_getElem? hx))
          have AD2 := Lib.hid fun (w : World) (h : Reads w A2 xs) => spec_areDivisorsFor_any n2 g2 w ⟨by omega, by omega⟩ ⟨by omega, by omega⟩ A2 c2 xs h lx2 (fun i x hx => H642.out x (List.mem_of_getElem? hx))
          have HF2 := Lib.hid fun (w : World) => divisorsFor_any n2 g2 w
          cases had : adB n2 g2 xs with
          | false =>
            rw [had] at AD1 AD2
            clear had
            generalize (numB n2 && askB g2) = nt at *
            go_wp2_with fail
            refine (AD1.out _ R2.out).mono ?_; rintro e w22 ⟨rfl, k22, rfl⟩
            go_wp2_with fail
            refine (AD2.out _ (R2.out.drewN _)).mono ?_; rintro e w23 ⟨rfl, k23, rfl⟩
            have hnt : (nt != nt) = false := by simp
            go_wp2
            go_ret
            exact ⟨rfl, by (repeat' (first | (with_reducible exact Below.refl _ _) | (with_reducible assumption) | (with_reducible refine Below.drew ?_) | (with_reducible refine belowDrewN ?_ _) | (with_reducible refine Below.alloc ?_ ?_ _) | (with_reducible refine Below.setCell ?_ ?_ _) | (with_reducible refine belowStep (by assumption) ?_ ?_) | (with_reducible exact Below.size (by assumption)) | go_size))⟩
          | true =>
            have hsm := ad_told had
            rw [hsm] at HF2
            rw [had] at AD1 AD2
            clear had hsm
            generalize (numB n2 && askB g2) = nt at *
            go_wp2_with fail
            refine (AD1.out _ R2.out).mono ?_; rintro e w22 ⟨rfl, k22, rfl⟩
            go_wp2_with fail
            refine (AD2.out _ (R2.out.drewN _)).mono ?_; rintro e w23 ⟨rfl, k23, rfl⟩
            have hnt : (nt != nt) = false := by simp
            go_wp2_with fail
            refine (HF2.out _).mono ?_; rintro e w24 ⟨v24, rfl, _, hb24⟩
            have hz24 := hb24.size
            go_wp2
            go_ret
            exact ⟨rfl, by (repeat' (first | (with_reducible exact Below.refl _ _) | (with_reducible assumption) | (with_reducible refine Below.drew ?_) | (with_reducible refine belowDrewN ?_ _) | (with_reducible refine Below.alloc ?_ ?_ _) | (with_reducible refine Below.setCell ?_ ?_ _) | (with_reducible refine belowStep (by assumption) ?_ ?_) | (with_reducible exact Below.size (by assumption)) | go_size))⟩
    | true =>
      obtain ⟨S, rfl, hS⟩ := askB_nat hs
      by_cases hw : 0 < ways (dsc N N) S
      · have hle : S ≤ sig N := by
          by_cases h : S ≤ sig N
          · exact h
          · rw [ways_none (show (dsc N N).sum < S by have : sig N = (dsc N N).sum := rfl; omega)] at hw
            omega
        have hap := ad_pick hx hs hw
        have HAP : Hid (∀ w A c, Reads w A (ints (pick (dsc N N) S)) → Calls Try.prog 13 #[.int .i64 (N : Int), .int .i64 (S : Int), .slice A (ints (pick (dsc N N) S)).length c] w (RetQ (.tuple #[.bool true, .bool true]) w)) := Lib.hid fun w A c h => by
          have h64 := dfO_64 (N : Int) (S : Int)
          have hl9 := dfO_len (N : Int) (S : Int)
          rw [← ints_len] at hl9
          rw [dfO_yes hx hs hw, Option.getD_some] at h64 hl9
          have := areDivisorsFor_any (N : Int) (S : Int) w ⟨by omega, by omega⟩ ⟨by omega, by omega⟩ A c _ h (by omega) (fun i x hx => h64 x (List.mem_of_getElem? hx))
          rwa [hap, hx, hs] at this
        rw [dfO_yes hx hs hw] at ID1 ID2 hlen
        simp only [Option.getD_some, Option.isSome_some] at ID1 ID2 hlen
        have HT : Hid (ways (dsc N N) S ≤ 1000000000 → ∀ w, Calls Try.prog 10 #[.int .i64 (N : Int), .int .i64 ((sig N : Int) - (S : Int))] w (Ret (.tuple #[.int .i64 ((ways (dsc N N) S : Nat) : Int), .bool true]) w)) := Lib.hid fun h w => by
          have e1 : ((sig N : Int) - (S : Int)) = ((sig N - S : Nat) : Int) := by omega
          have e2 : ways (dsc N N) (sig N - S) = ways (dsc N N) S := ways_turn hle
          have := countSums_any (N : Int) ((sig N - S : Nat) : Int) w
          rwa [csV_ok hx ((askB_iff _).2 ⟨by omega, by omega⟩) (by rw [e2]; exact h), e2, ← e1] at this
        have hle' : (S : Int) ≤ (sig N : Int) := by omega
        have EV := Lib.hid fun (h : ways (dsc N N) S ≤ 1000000000) => csV_ok hx hs h
        have EB := Lib.hid fun (h : ¬ ways (dsc N N) S ≤ 1000000000) => csV_big h
        clear hx hs hap
        generalize (brkO N).isNone = p at *
        generalize ways (dsc N N) S = W at *
        obtain ⟨ys, hys⟩ : ∃ ys, ys = ints (pick (dsc N N) S) := ⟨_, rfl⟩
        rw [← hys] at ID1 ID2 hlen HAP
        clear hys
        by_cases hW : W ≤ 1000000000
        · rw [EV.out hW] at IC1 IC2
          have HT2 := Lib.hid (HT.out hW)
          have hw' : (0 : Int) < (W : Int) := by omega
          have hww : ((W : Int) != (W : Int)) = false := by simp
          have hwS : IntKind.i64.wrap ((sig N : Int) - (S : Int)) = (sig N : Int) - (S : Int) := IntWalk.i64_in _ (by omega)
          clear EV EB HT
          generalize sig N = sm at *
          cases p
          all_goals
            go_wp2_with fail
            refine (ID1.out _).mono ?_; rintro e w3 ⟨v3, rfl, ho3, hb3⟩; obtain ⟨A3, c3, rfl, hr3⟩ := ho3.form
            have hz3 := hb3.size
            have R3 := Lib.hid hr3
            clear ho3 hr3
            go_wp2_with fail
            refine (ID2.out _).mono ?_; rintro e w4 ⟨v4, rfl, ho4, hb4⟩; obtain ⟨A4, c4, rfl, hr4⟩ := ho4.form
            have hz4 := hb4.size
            have R4 := Lib.hid hr4
            clear ho4 hr4
            go_wp2_with fail
            refine (IC1.out _).mono ?_; rintro e w5 ⟨rfl, hb5⟩; have hz5 := hb5.size; (try simp only [World.size_alloc, World.size_setCell, World.size_drew, World.heap_drewN] at hz5)
            go_wp2_with fail
            refine (IC2.out _).mono ?_; rintro e w6 ⟨rfl, hb6⟩; have hz6 := hb6.size; (try simp only [World.size_alloc, World.size_setCell, World.size_drew, World.heap_drewN] at hz6)
            have HZ : Hid (∀ w, Reads w A3 ys → Reads w A4 ys → Calls Try.prog 12 #[.slice A3 ys.length c3, .slice A4 ys.length c4] w (RetQ (.bool true) w)) := Lib.hid fun w h h' => by
              have := zSame_any w A3 A4 c3 c4 ys ys h h' (by omega) (by omega)
              rwa [decide_eq_true rfl] at this
            go_wp2_with fail
            refine (HZ.out _ (R3.out.below (by (repeat' (first | (with_reducible exact Below.refl _ _) | (with_reducible assumption) | (with_reducible refine Below.drew ?_) | (with_reducible refine belowDrewN ?_ _) | (with_reducible refine Below.alloc ?_ ?_ _) | (with_reducible refine Below.setCell ?_ ?_ _) | (with_reducible refine belowStep (by assumption) ?_ ?_) | (with_reducible exact Below.size (by assumption)) | go_size)))) (R4.out.below (by (repeat' (first | (with_reducible exact Below.refl _ _) | (with_reducible assumption) | (with_reducible refine Below.drew ?_) | (with_reducible refine belowDrewN ?_ _) | (with_reducible refine Below.alloc ?_ ?_ _) | (with_reducible refine Below.setCell ?_ ?_ _) | (with_reducible refine belowStep (by assumption) ?_ ?_) | (with_reducible exact Below.size (by assumption)) | go_size))))).mono ?_; rintro e w7 ⟨rfl, k7, rfl⟩
            go_wp2_with fail
            refine (HAP.out _ _ _ (R3.out.below (by (repeat' (first | (with_reducible exact Below.refl _ _) | (with_reducible assumption) | (with_reducible refine Below.drew ?_) | (with_reducible refine belowDrewN ?_ _) | (with_reducible refine Below.alloc ?_ ?_ _) | (with_reducible refine Below.setCell ?_ ?_ _) | (with_reducible refine belowStep (by assumption) ?_ ?_) | (with_reducible exact Below.size (by assumption)) | go_size))))).mono ?_; rintro e w10 ⟨rfl, k10, rfl⟩
            go_wp2_with fail
            refine (IPR.out _).mono ?_; rintro e w8 ⟨rfl, hb8⟩; have hz8 := hb8.size; (try simp only [World.size_alloc, World.size_setCell, World.size_drew, World.heap_drewN] at hz8)
            go_wp2_with fail
            refine (ISM.out _).mono ?_; rintro e w9 ⟨rfl, hb9⟩; have hz9 := hb9.size; (try simp only [World.size_alloc, World.size_setCell, World.size_drew, World.heap_drewN] at hz9)
            go_wp2_with fail
            refine (HT2.out _).mono ?_; rintro e w11 ⟨rfl, hb11⟩; have hz11 := hb11.size; (try simp only [World.size_alloc, World.size_setCell, World.size_drew, World.heap_drewN] at hz11)
            go_wp2_with fail
            refine (HDR2.out _ (by (repeat' (first | (with_reducible exact Below.refl _ _) | (with_reducible assumption) | (with_reducible refine Below.drew ?_) | (with_reducible refine belowDrewN ?_ _) | (with_reducible refine Below.alloc ?_ ?_ _) | (with_reducible refine Below.setCell ?_ ?_ _) | (with_reducible refine belowStep (by assumption) ?_ ?_) | (with_reducible exact Below.size (by assumption)) | go_size)))).mono ?_; rintro e w21 ⟨n2, g2, A2, c2, xs, rfl, hr2, hl2, h642, n0, n1, g0, g1, hb21⟩
            have hz21 := hb21.size; (try simp only [World.size_alloc, World.size_setCell, World.size_drew, World.heap_drewN] at hz21)
            have hby : Below w.heap.size w w21 := by (repeat' (first | (with_reducible exact Below.refl _ _) | (with_reducible assumption) | (with_reducible refine Below.drew ?_) | (with_reducible refine belowDrewN ?_ _) | (with_reducible refine Below.alloc ?_ ?_ _) | (with_reducible refine Below.setCell ?_ ?_ _) | (with_reducible refine belowStep (by assumption) ?_ ?_) | (with_reducible exact Below.size (by assumption)) | go_size))
            have R2 := Lib.hid hr2
            have H642 := Lib.hid h642
            clear hr2 h642
            have lx2 : xs.length ≤ 1048576 := by omega
            have AD1 := Lib.hid fun (w : World) (h : Reads w A2 xs) => areDivisorsFor_any n2 g2 w ⟨by omega, by omega⟩ ⟨by omega, by omega⟩ A2 c2 xs h lx2 (fun i x hx => H642.out x (List.mem_of_getElem? hx))
            have AD2 := Lib.hid fun (w : World) (h : Reads w A2 xs) => spec_areDivisorsFor_any n2 g2 w ⟨by omega, by omega⟩ ⟨by omega, by omega⟩ A2 c2 xs h lx2 (fun i x hx => H642.out x (List.mem_of_getElem? hx))
            have HF2 := Lib.hid fun (w : World) => divisorsFor_any n2 g2 w
            cases had : adB n2 g2 xs with
            | false =>
              rw [had] at AD1 AD2
              clear had
              generalize (numB n2 && askB g2) = nt at *
              go_wp2_with fail
              refine (AD1.out _ R2.out).mono ?_; rintro e w22 ⟨rfl, k22, rfl⟩
              go_wp2_with fail
              refine (AD2.out _ (R2.out.drewN _)).mono ?_; rintro e w23 ⟨rfl, k23, rfl⟩
              have hnt : (nt != nt) = false := by simp
              go_wp2
              go_ret
              exact ⟨rfl, by (repeat' (first | (with_reducible exact Below.refl _ _) | (with_reducible assumption) | (with_reducible refine Below.drew ?_) | (with_reducible refine belowDrewN ?_ _) | (with_reducible refine Below.alloc ?_ ?_ _) | (with_reducible refine Below.setCell ?_ ?_ _) | (with_reducible refine belowStep (by assumption) ?_ ?_) | (with_reducible exact Below.size (by assumption)) | go_size))⟩
            | true =>
              have hsm := ad_told had
              rw [hsm] at HF2
              rw [had] at AD1 AD2
              clear had hsm
              generalize (numB n2 && askB g2) = nt at *
              go_wp2_with fail
              refine (AD1.out _ R2.out).mono ?_; rintro e w22 ⟨rfl, k22, rfl⟩
              go_wp2_with fail
              refine (AD2.out _ (R2.out.drewN _)).mono ?_; rintro e w23 ⟨rfl, k23, rfl⟩
              have hnt : (nt != nt) = false := by simp
              go_wp2_with fail
              refine (HF2.out _).mono ?_; rintro e w24 ⟨v24, rfl, _, hb24⟩
              have hz24 := hb24.size
              go_wp2
              go_ret
              exact ⟨rfl, by (repeat' (first | (with_reducible exact Below.refl _ _) | (with_reducible assumption) | (with_reducible refine Below.drew ?_) | (with_reducible refine belowDrewN ?_ _) | (with_reducible refine Below.alloc ?_ ?_ _) | (with_reducible refine Below.setCell ?_ ?_ _) | (with_reducible refine belowStep (by assumption) ?_ ?_) | (with_reducible exact Below.size (by assumption)) | go_size))⟩
        · rw [EB.out hW] at IC1 IC2
          clear EV EB HT
          generalize sig N = sm at *
          cases p
          all_goals
            go_wp2_with fail
            refine (ID1.out _).mono ?_; rintro e w3 ⟨v3, rfl, ho3, hb3⟩; obtain ⟨A3, c3, rfl, hr3⟩ := ho3.form
            have hz3 := hb3.size
            have R3 := Lib.hid hr3
            clear ho3 hr3
            go_wp2_with fail
            refine (ID2.out _).mono ?_; rintro e w4 ⟨v4, rfl, ho4, hb4⟩; obtain ⟨A4, c4, rfl, hr4⟩ := ho4.form
            have hz4 := hb4.size
            have R4 := Lib.hid hr4
            clear ho4 hr4
            go_wp2_with fail
            refine (IC1.out _).mono ?_; rintro e w5 ⟨rfl, hb5⟩; have hz5 := hb5.size; (try simp only [World.size_alloc, World.size_setCell, World.size_drew, World.heap_drewN] at hz5)
            go_wp2_with fail
            refine (IC2.out _).mono ?_; rintro e w6 ⟨rfl, hb6⟩; have hz6 := hb6.size; (try simp only [World.size_alloc, World.size_setCell, World.size_drew, World.heap_drewN] at hz6)
            have HZ : Hid (∀ w, Reads w A3 ys → Reads w A4 ys → Calls Try.prog 12 #[.slice A3 ys.length c3, .slice A4 ys.length c4] w (RetQ (.bool true) w)) := Lib.hid fun w h h' => by
              have := zSame_any w A3 A4 c3 c4 ys ys h h' (by omega) (by omega)
              rwa [decide_eq_true rfl] at this
            go_wp2_with fail
            refine (HZ.out _ (R3.out.below (by (repeat' (first | (with_reducible exact Below.refl _ _) | (with_reducible assumption) | (with_reducible refine Below.drew ?_) | (with_reducible refine belowDrewN ?_ _) | (with_reducible refine Below.alloc ?_ ?_ _) | (with_reducible refine Below.setCell ?_ ?_ _) | (with_reducible refine belowStep (by assumption) ?_ ?_) | (with_reducible exact Below.size (by assumption)) | go_size)))) (R4.out.below (by (repeat' (first | (with_reducible exact Below.refl _ _) | (with_reducible assumption) | (with_reducible refine Below.drew ?_) | (with_reducible refine belowDrewN ?_ _) | (with_reducible refine Below.alloc ?_ ?_ _) | (with_reducible refine Below.setCell ?_ ?_ _) | (with_reducible refine belowStep (by assumption) ?_ ?_) | (with_reducible exact Below.size (by assumption)) | go_size))))).mono ?_; rintro e w7 ⟨rfl, k7, rfl⟩
            go_wp2_with fail
            refine (HAP.out _ _ _ (R3.out.below (by (repeat' (first | (with_reducible exact Below.refl _ _) | (with_reducible assumption) | (with_reducible refine Below.drew ?_) | (with_reducible refine belowDrewN ?_ _) | (with_reducible refine Below.alloc ?_ ?_ _) | (with_reducible refine Below.setCell ?_ ?_ _) | (with_reducible refine belowStep (by assumption) ?_ ?_) | (with_reducible exact Below.size (by assumption)) | go_size))))).mono ?_; rintro e w10 ⟨rfl, k10, rfl⟩
            go_wp2_with fail
            refine (IPR.out _).mono ?_; rintro e w8 ⟨rfl, hb8⟩; have hz8 := hb8.size; (try simp only [World.size_alloc, World.size_setCell, World.size_drew, World.heap_drewN] at hz8)
            go_wp2_with fail
            refine (ISM.out _).mono ?_; rintro e w9 ⟨rfl, hb9⟩; have hz9 := hb9.size; (try simp only [World.size_alloc, World.size_setCell, World.size_drew, World.heap_drewN] at hz9)
            go_wp2_with fail
            refine (HDR2.out _ (by (repeat' (first | (with_reducible exact Below.refl _ _) | (with_reducible assumption) | (with_reducible refine Below.drew ?_) | (with_reducible refine belowDrewN ?_ _) | (with_reducible refine Below.alloc ?_ ?_ _) | (with_reducible refine Below.setCell ?_ ?_ _) | (with_reducible refine belowStep (by assumption) ?_ ?_) | (with_reducible exact Below.size (by assumption)) | go_size)))).mono ?_; rintro e w21 ⟨n2, g2, A2, c2, xs, rfl, hr2, hl2, h642, n0, n1, g0, g1, hb21⟩
            have hz21 := hb21.size; (try simp only [World.size_alloc, World.size_setCell, World.size_drew, World.heap_drewN] at hz21)
            have hby : Below w.heap.size w w21 := by (repeat' (first | (with_reducible exact Below.refl _ _) | (with_reducible assumption) | (with_reducible refine Below.drew ?_) | (with_reducible refine belowDrewN ?_ _) | (with_reducible refine Below.alloc ?_ ?_ _) | (with_reducible refine Below.setCell ?_ ?_ _) | (with_reducible refine belowStep (by assumption) ?_ ?_) | (with_reducible exact Below.size (by assumption)) | go_size))
            have R2 := Lib.hid hr2
            have H642 := Lib.hid h642
            clear hr2 h642
            have lx2 : xs.length ≤ 1048576 := by omega
            have AD1 := Lib.hid fun (w : World) (h : Reads w A2 xs) => areDivisorsFor_any n2 g2 w ⟨by omega, by omega⟩ ⟨by omega, by omega⟩ A2 c2 xs h lx2 (fun i x hx => H642.out x (List.mem_of_getElem? hx))
            have AD2 := Lib.hid fun (w : World) (h : Reads w A2 xs) => spec_areDivisorsFor_any n2 g2 w ⟨by omega, by omega⟩ ⟨by omega, by omega⟩ A2 c2 xs h lx2 (fun i x hx => H642.out x (List.mem_of_getElem? hx))
            have HF2 := Lib.hid fun (w : World) => divisorsFor_any n2 g2 w
            cases had : adB n2 g2 xs with
            | false =>
              rw [had] at AD1 AD2
              clear had
              generalize (numB n2 && askB g2) = nt at *
              go_wp2_with fail
              refine (AD1.out _ R2.out).mono ?_; rintro e w22 ⟨rfl, k22, rfl⟩
              go_wp2_with fail
              refine (AD2.out _ (R2.out.drewN _)).mono ?_; rintro e w23 ⟨rfl, k23, rfl⟩
              have hnt : (nt != nt) = false := by simp
              go_wp2
              go_ret
              exact ⟨rfl, by (repeat' (first | (with_reducible exact Below.refl _ _) | (with_reducible assumption) | (with_reducible refine Below.drew ?_) | (with_reducible refine belowDrewN ?_ _) | (with_reducible refine Below.alloc ?_ ?_ _) | (with_reducible refine Below.setCell ?_ ?_ _) | (with_reducible refine belowStep (by assumption) ?_ ?_) | (with_reducible exact Below.size (by assumption)) | go_size))⟩
            | true =>
              have hsm := ad_told had
              rw [hsm] at HF2
              rw [had] at AD1 AD2
              clear had hsm
              generalize (numB n2 && askB g2) = nt at *
              go_wp2_with fail
              refine (AD1.out _ R2.out).mono ?_; rintro e w22 ⟨rfl, k22, rfl⟩
              go_wp2_with fail
              refine (AD2.out _ (R2.out.drewN _)).mono ?_; rintro e w23 ⟨rfl, k23, rfl⟩
              have hnt : (nt != nt) = false := by simp
              go_wp2_with fail
              refine (HF2.out _).mono ?_; rintro e w24 ⟨v24, rfl, _, hb24⟩
              have hz24 := hb24.size
              go_wp2
              go_ret
              exact ⟨rfl, by (repeat' (first | (with_reducible exact Below.refl _ _) | (with_reducible assumption) | (with_reducible refine Below.drew ?_) | (with_reducible refine belowDrewN ?_ _) | (with_reducible refine Below.alloc ?_ ?_ _) | (with_reducible refine Below.setCell ?_ ?_ _) | (with_reducible refine belowStep (by assumption) ?_ ?_) | (with_reducible exact Below.size (by assumption)) | go_size))⟩
      · have hw0 : ways (dsc N N) S = 0 := by omega
        have hfull : brkO N = none → ¬ S ≤ sig N := fun hb h => hw ((full_iff h1 h2).2 hb S h)
        rw [dfO_no hw] at ID1 ID2 hlen
        rw [csV_ok hx hs (by rw [hw0]; omega), hw0] at IC1 IC2
        simp only [Option.getD_none, Option.isSome_none] at ID1 ID2 hlen
        have HT : Hid (S ≤ sig N → ∀ w, Calls Try.prog 10 #[.int .i64 (N : Int), .int .i64 ((sig N : Int) - (S : Int))] w (Ret (.tuple #[.int .i64 ((0 : Nat) : Int), .bool true]) w)) := Lib.hid fun hle w => by
          have e1 : ((sig N : Int) - (S : Int)) = ((sig N - S : Nat) : Int) := by omega
          have e2 : ways (dsc N N) (sig N - S) = ways (dsc N N) S := ways_turn hle
          have := countSums_any (N : Int) ((sig N - S : Nat) : Int) w
          rwa [csV_ok hx ((askB_iff _).2 ⟨by omega, by omega⟩) (by rw [e2, hw0]; omega), e2, hw0, ← e1] at this
        have hsp : S ≤ sig N → (brkO N).isNone = false := fun h => by
          cases hb : brkO N with
          | none => exact absurd h (hfull hb)
          | some _ => rfl
        clear hx hs hw hw0 hfull
        generalize (brkO N).isNone = p at *
        generalize sig N = sm at *
        obtain ⟨ys, hys⟩ : ∃ ys, ys = ints [] := ⟨_, rfl⟩
        rw [← hys] at ID1 ID2 hlen
        clear hys
        by_cases hle : S ≤ sm
        · obtain rfl := hsp hle
          have HT2 := Lib.hid (HT.out hle)
          have hle' : (S : Int) ≤ (sm : Int) := by omega
          have hwS : IntKind.i64.wrap ((sm : Int) - (S : Int)) = (sm : Int) - (S : Int) := IntWalk.i64_in _ (by omega)
          clear HT hsp
          go_wp2_with fail
          refine (ID1.out _).mono ?_; rintro e w3 ⟨v3, rfl, ho3, hb3⟩; obtain ⟨A3, c3, rfl, hr3⟩ := ho3.form
          have hz3 := hb3.size
          have R3 := Lib.hid hr3
          clear ho3 hr3
          go_wp2_with fail
          refine (ID2.out _).mono ?_; rintro e w4 ⟨v4, rfl, ho4, hb4⟩; obtain ⟨A4, c4, rfl, hr4⟩ := ho4.form
          have hz4 := hb4.size
          have R4 := Lib.hid hr4
          clear ho4 hr4
          go_wp2_with fail
          refine (IC1.out _).mono ?_; rintro e w5 ⟨rfl, hb5⟩; have hz5 := hb5.size; (try simp only [World.size_alloc, World.size_setCell, World.size_drew, World.heap_drewN] at hz5)
          go_wp2_with fail
          refine (IC2.out _).mono ?_; rintro e w6 ⟨rfl, hb6⟩; have hz6 := hb6.size; (try simp only [World.size_alloc, World.size_setCell, World.size_drew, World.heap_drewN] at hz6)
          have HZ : Hid (∀ w, Reads w A3 ys → Reads w A4 ys → Calls Try.prog 12 #[.slice A3 ys.length c3, .slice A4 ys.length c4] w (RetQ (.bool true) w)) := Lib.hid fun w h h' => by
            have := zSame_any w A3 A4 c3 c4 ys ys h h' (by omega) (by omega)
            rwa [decide_eq_true rfl] at this
          go_wp2_with fail
          refine (HZ.out _ (R3.out.below (by (repeat' (first | (with_reducible exact Below.refl _ _) | (with_reducible assumption) | (with_reducible refine Below.drew ?_) | (with_reducible refine belowDrewN ?_ _) | (with_reducible refine Below.alloc ?_ ?_ _) | (with_reducible refine Below.setCell ?_ ?_ _) | (with_reducible refine belowStep (by assumption) ?_ ?_) | (with_reducible exact Below.size (by assumption)) | go_size)))) (R4.out.below (by (repeat' (first | (with_reducible exact Below.refl _ _) | (with_reducible assumption) | (with_reducible refine Below.drew ?_) | (with_reducible refine belowDrewN ?_ _) | (with_reducible refine Below.alloc ?_ ?_ _) | (with_reducible refine Below.setCell ?_ ?_ _) | (with_reducible refine belowStep (by assumption) ?_ ?_) | (with_reducible exact Below.size (by assumption)) | go_size))))).mono ?_; rintro e w7 ⟨rfl, k7, rfl⟩
          go_wp2_with fail
          refine (IPR.out _).mono ?_; rintro e w8 ⟨rfl, hb8⟩; have hz8 := hb8.size; (try simp only [World.size_alloc, World.size_setCell, World.size_drew, World.heap_drewN] at hz8)
          go_wp2_with fail
          refine (ISM.out _).mono ?_; rintro e w9 ⟨rfl, hb9⟩; have hz9 := hb9.size; (try simp only [World.size_alloc, World.size_setCell, World.size_drew, World.heap_drewN] at hz9)
          go_wp2_with fail
          refine (HT2.out _).mono ?_; rintro e w11 ⟨rfl, hb11⟩; have hz11 := hb11.size; (try simp only [World.size_alloc, World.size_setCell, World.size_drew, World.heap_drewN] at hz11)
          go_wp2_with fail
          refine (HDR2.out _ (by (repeat' (first | (with_reducible exact Below.refl _ _) | (with_reducible assumption) | (with_reducible refine Below.drew ?_) | (with_reducible refine belowDrewN ?_ _) | (with_reducible refine Below.alloc ?_ ?_ _) | (with_reducible refine Below.setCell ?_ ?_ _) | (with_reducible refine belowStep (by assumption) ?_ ?_) | (with_reducible exact Below.size (by assumption)) | go_size)))).mono ?_; rintro e w21 ⟨n2, g2, A2, c2, xs, rfl, hr2, hl2, h642, n0, n1, g0, g1, hb21⟩
          have hz21 := hb21.size; (try simp only [World.size_alloc, World.size_setCell, World.size_drew, World.heap_drewN] at hz21)
          have hby : Below w.heap.size w w21 := by (repeat' (first | (with_reducible exact Below.refl _ _) | (with_reducible assumption) | (with_reducible refine Below.drew ?_) | (with_reducible refine belowDrewN ?_ _) | (with_reducible refine Below.alloc ?_ ?_ _) | (with_reducible refine Below.setCell ?_ ?_ _) | (with_reducible refine belowStep (by assumption) ?_ ?_) | (with_reducible exact Below.size (by assumption)) | go_size))
          have R2 := Lib.hid hr2
          have H642 := Lib.hid h642
          clear hr2 h642
          have lx2 : xs.length ≤ 1048576 := by omega
          have AD1 := Lib.hid fun (w : World) (h : Reads w A2 xs) => areDivisorsFor_any n2 g2 w ⟨by omega, by omega⟩ ⟨by omega, by omega⟩ A2 c2 xs h lx2 (fun i x hx => H642.out x (List.mem_of_getElem? hx))
          have AD2 := Lib.hid fun (w : World) (h : Reads w A2 xs) => spec_areDivisorsFor_any n2 g2 w ⟨by omega, by omega⟩ ⟨by omega, by omega⟩ A2 c2 xs h lx2 (fun i x hx => H642.out x (List.mem_of_getElem? hx))
          have HF2 := Lib.hid fun (w : World) => divisorsFor_any n2 g2 w
          cases had : adB n2 g2 xs with
          | false =>
            rw [had] at AD1 AD2
            clear had
            generalize (numB n2 && askB g2) = nt at *
            go_wp2_with fail
            refine (AD1.out _ R2.out).mono ?_; rintro e w22 ⟨rfl, k22, rfl⟩
            go_wp2_with fail
            refine (AD2.out _ (R2.out.drewN _)).mono ?_; rintro e w23 ⟨rfl, k23, rfl⟩
            have hnt : (nt != nt) = false := by simp
            go_wp2
            go_ret
            exact ⟨rfl, by (repeat' (first | (with_reducible exact Below.refl _ _) | (with_reducible assumption) | (with_reducible refine Below.drew ?_) | (with_reducible refine belowDrewN ?_ _) | (with_reducible refine Below.alloc ?_ ?_ _) | (with_reducible refine Below.setCell ?_ ?_ _) | (with_reducible refine belowStep (by assumption) ?_ ?_) | (with_reducible exact Below.size (by assumption)) | go_size))⟩
          | true =>
            have hsm := ad_told had
            rw [hsm] at HF2
            rw [had] at AD1 AD2
            clear had hsm
            generalize (numB n2 && askB g2) = nt at *
            go_wp2_with fail
            refine (AD1.out _ R2.out).mono ?_; rintro e w22 ⟨rfl, k22, rfl⟩
            go_wp2_with fail
            refine (AD2.out _ (R2.out.drewN _)).mono ?_; rintro e w23 ⟨rfl, k23, rfl⟩
            have hnt : (nt != nt) = false := by simp
            go_wp2_with fail
            refine (HF2.out _).mono ?_; rintro e w24 ⟨v24, rfl, _, hb24⟩
            have hz24 := hb24.size
            go_wp2
            go_ret
            exact ⟨rfl, by (repeat' (first | (with_reducible exact Below.refl _ _) | (with_reducible assumption) | (with_reducible refine Below.drew ?_) | (with_reducible refine belowDrewN ?_ _) | (with_reducible refine Below.alloc ?_ ?_ _) | (with_reducible refine Below.setCell ?_ ?_ _) | (with_reducible refine belowStep (by assumption) ?_ ?_) | (with_reducible exact Below.size (by assumption)) | go_size))⟩
        · have hle' : ¬ (S : Int) ≤ (sm : Int) := by omega
          clear HT hsp
          cases p
          all_goals
            go_wp2_with fail
            refine (ID1.out _).mono ?_; rintro e w3 ⟨v3, rfl, ho3, hb3⟩; obtain ⟨A3, c3, rfl, hr3⟩ := ho3.form
            have hz3 := hb3.size
            have R3 := Lib.hid hr3
            clear ho3 hr3
            go_wp2_with fail
            refine (ID2.out _).mono ?_; rintro e w4 ⟨v4, rfl, ho4, hb4⟩; obtain ⟨A4, c4, rfl, hr4⟩ := ho4.form
            have hz4 := hb4.size
            have R4 := Lib.hid hr4
            clear ho4 hr4
            go_wp2_with fail
            refine (IC1.out _).mono ?_; rintro e w5 ⟨rfl, hb5⟩; have hz5 := hb5.size; (try simp only [World.size_alloc, World.size_setCell, World.size_drew, World.heap_drewN] at hz5)
            go_wp2_with fail
            refine (IC2.out _).mono ?_; rintro e w6 ⟨rfl, hb6⟩; have hz6 := hb6.size; (try simp only [World.size_alloc, World.size_setCell, World.size_drew, World.heap_drewN] at hz6)
            have HZ : Hid (∀ w, Reads w A3 ys → Reads w A4 ys → Calls Try.prog 12 #[.slice A3 ys.length c3, .slice A4 ys.length c4] w (RetQ (.bool true) w)) := Lib.hid fun w h h' => by
              have := zSame_any w A3 A4 c3 c4 ys ys h h' (by omega) (by omega)
              rwa [decide_eq_true rfl] at this
            go_wp2_with fail
            refine (HZ.out _ (R3.out.below (by (repeat' (first | (with_reducible exact Below.refl _ _) | (with_reducible assumption) | (with_reducible refine Below.drew ?_) | (with_reducible refine belowDrewN ?_ _) | (with_reducible refine Below.alloc ?_ ?_ _) | (with_reducible refine Below.setCell ?_ ?_ _) | (with_reducible refine belowStep (by assumption) ?_ ?_) | (with_reducible exact Below.size (by assumption)) | go_size)))) (R4.out.below (by (repeat' (first | (with_reducible exact Below.refl _ _) | (with_reducible assumption) | (with_reducible refine Below.drew ?_) | (with_reducible refine belowDrewN ?_ _) | (with_reducible refine Below.alloc ?_ ?_ _) | (with_reducible refine Below.setCell ?_ ?_ _) | (with_reducible refine belowStep (by assumption) ?_ ?_) | (with_reducible exact Below.size (by assumption)) | go_size))))).mono ?_; rintro e w7 ⟨rfl, k7, rfl⟩
            go_wp2_with fail
            refine (IPR.out _).mono ?_; rintro e w8 ⟨rfl, hb8⟩; have hz8 := hb8.size; (try simp only [World.size_alloc, World.size_setCell, World.size_drew, World.heap_drewN] at hz8)
            go_wp2_with fail
            refine (ISM.out _).mono ?_; rintro e w9 ⟨rfl, hb9⟩; have hz9 := hb9.size; (try simp only [World.size_alloc, World.size_setCell, World.size_drew, World.heap_drewN] at hz9)
            go_wp2_with fail
            refine (HDR2.out _ (by (repeat' (first | (with_reducible exact Below.refl _ _) | (with_reducible assumption) | (with_reducible refine Below.drew ?_) | (with_reducible refine belowDrewN ?_ _) | (with_reducible refine Below.alloc ?_ ?_ _) | (with_reducible refine Below.setCell ?_ ?_ _) | (with_reducible refine belowStep (by assumption) ?_ ?_) | (with_reducible exact Below.size (by assumption)) | go_size)))).mono ?_; rintro e w21 ⟨n2, g2, A2, c2, xs, rfl, hr2, hl2, h642, n0, n1, g0, g1, hb21⟩
            have hz21 := hb21.size; (try simp only [World.size_alloc, World.size_setCell, World.size_drew, World.heap_drewN] at hz21)
            have hby : Below w.heap.size w w21 := by (repeat' (first | (with_reducible exact Below.refl _ _) | (with_reducible assumption) | (with_reducible refine Below.drew ?_) | (with_reducible refine belowDrewN ?_ _) | (with_reducible refine Below.alloc ?_ ?_ _) | (with_reducible refine Below.setCell ?_ ?_ _) | (with_reducible refine belowStep (by assumption) ?_ ?_) | (with_reducible exact Below.size (by assumption)) | go_size))
            have R2 := Lib.hid hr2
            have H642 := Lib.hid h642
            clear hr2 h642
            have lx2 : xs.length ≤ 1048576 := by omega
            have AD1 := Lib.hid fun (w : World) (h : Reads w A2 xs) => areDivisorsFor_any n2 g2 w ⟨by omega, by omega⟩ ⟨by omega, by omega⟩ A2 c2 xs h lx2 (fun i x hx => H642.out x (List.mem_of_getElem? hx))
            have AD2 := Lib.hid fun (w : World) (h : Reads w A2 xs) => spec_areDivisorsFor_any n2 g2 w ⟨by omega, by omega⟩ ⟨by omega, by omega⟩ A2 c2 xs h lx2 (fun i x hx => H642.out x (List.mem_of_getElem? hx))
            have HF2 := Lib.hid fun (w : World) => divisorsFor_any n2 g2 w
            cases had : adB n2 g2 xs with
            | false =>
              rw [had] at AD1 AD2
              clear had
              generalize (numB n2 && askB g2) = nt at *
              go_wp2_with fail
              refine (AD1.out _ R2.out).mono ?_; rintro e w22 ⟨rfl, k22, rfl⟩
              go_wp2_with fail
              refine (AD2.out _ (R2.out.drewN _)).mono ?_; rintro e w23 ⟨rfl, k23, rfl⟩
              have hnt : (nt != nt) = false := by simp
              go_wp2
              go_ret
              exact ⟨rfl, by (repeat' (first | (with_reducible exact Below.refl _ _) | (with_reducible assumption) | (with_reducible refine Below.drew ?_) | (with_reducible refine belowDrewN ?_ _) | (with_reducible refine Below.alloc ?_ ?_ _) | (with_reducible refine Below.setCell ?_ ?_ _) | (with_reducible refine belowStep (by assumption) ?_ ?_) | (with_reducible exact Below.size (by assumption)) | go_size))⟩
            | true =>
              have hsm := ad_told had
              rw [hsm] at HF2
              rw [had] at AD1 AD2
              clear had hsm
              generalize (numB n2 && askB g2) = nt at *
              go_wp2_with fail
              refine (AD1.out _ R2.out).mono ?_; rintro e w22 ⟨rfl, k22, rfl⟩
              go_wp2_with fail
              refine (AD2.out _ (R2.out.drewN _)).mono ?_; rintro e w23 ⟨rfl, k23, rfl⟩
              have hnt : (nt != nt) = false := by simp
              go_wp2_with fail
              refine (HF2.out _).mono ?_; rintro e w24 ⟨v24, rfl, _, hb24⟩
              have hz24 := hb24.size
              go_wp2
              go_ret
              exact ⟨rfl, by (repeat' (first | (with_reducible exact Below.refl _ _) | (with_reducible assumption) | (with_reducible refine Below.drew ?_) | (with_reducible refine belowDrewN ?_ _) | (with_reducible refine Below.alloc ?_ ?_ _) | (with_reducible refine Below.setCell ?_ ?_ _) | (with_reducible refine belowStep (by assumption) ?_ ?_) | (with_reducible exact Below.size (by assumption)) | go_size))⟩
set_option maxRecDepth 100000 in
set_option maxHeartbeats 8000000 in
theorem FnDivisorWitnesses_walk (w : World) (A : Option Addr) (c n : Nat) (B : Option Addr) (d m' : Nat) (hA : ReadsB w A n ∧ n ≤ 9223372036854775807) (hB : ReadsB w B m' ∧ m' ≤ 9223372036854775807) :
    Calls Try.prog 3 #[.slice A n c, .slice B m' d] w (Ret (.bool true) w) := by
  obtain ⟨hA, hn⟩ := hA
  obtain ⟨hB, hm'⟩ := hB
  have HA := Lib.hid hA
  have HB := Lib.hid hB
  clear hA hB
  cases hbig : bigB n m' with
  | true =>
    go_enter Try.func3, Try.ntmps3
    go_wp2_with fail
    refine (big_any _ _ _ _ _ _ _ hn hm').mono ?_; rintro e w1 ⟨rfl, k1, rfl⟩
    rw [hbig]
    go_wp2
    go_ret
    exact ⟨rfl, by (repeat' (first | (with_reducible exact Below.refl _ _) | (with_reducible assumption) | (with_reducible refine Below.drew ?_) | (with_reducible refine belowDrewN ?_ _) | (with_reducible refine Below.alloc ?_ ?_ _) | (with_reducible refine Below.setCell ?_ ?_ _) | (with_reducible refine belowStep (by assumption) ?_ ?_) | (with_reducible exact Below.size (by assumption)) | go_size))⟩
  | false =>
    have hn2 : n ≤ 1048576 ∧ m' ≤ 1048576 := by
      simp only [bigB, Bool.or_eq_false_iff, decide_eq_false_iff_not] at hbig
      omega
    exact dw_whole w A c n B d m' hbig hn2.1 hn2.2 (fun w' hb => drawDivisorsFor_any w' A n c (HA.out.below hb) hn2.1) (fun w' hb => drawAreDivisorsFor_any w' B m' d (HB.out.below hb) hn2.2)

set_option maxRecDepth 100000 in
theorem FnDivisorWitnesses_lifted (os : Os) (started : os.Started) (H : Type) (enc : TypeId × Value → H) :
    ReturnsInHanded {} Try.checked os 3 .any (Rows.fnDivisorWitnessesSpec.pre6 enc Try.prog Try.f3 Rows.fnDivisorWitnessesRow.domain false) (Rows.fnDivisorWitnessesSpec.post enc Try.prog Try.f3 false true false false) := by
  refine returnsInHanded_of_change (C := Try.checked) own started (by kernel_rfl) Try.func3
    (ChangeSpec.witness6 (enc := enc) (C := Try.checked) false ⟨#[], #[.slice none 0 0, .slice none 0 0], []⟩ 8 (by kernel_rfl) (by kernel_rfl) (by kernel_rfl) (by kernel_rfl)) ?_
  intro W base args ds gs before hval0 hW hcnd _
  have hval : ∀ (j : Nat) t v, Try.f3.params[j]? = some t → args[j]? = some v → Value.okWide Try.prog W .any base t v := hval0
  have hW' := hW
  have hlt : ∀ p ∈ before, p.block < W.heap.size := fun p hp => hW'.lt p hp
  obtain ⟨p, q, hA0, hV, rfl, hfz, hnd⟩ := hW
  have hA : DataW.TrodAll enc Try.prog W 0 (fun _ => true) true Try.f3.params.toList args.toList ds p := hA0
  rw [Try.params3] at hA hval
  obtain ⟨v0, vs0, d0, ds0, p0, q0, hargs, rfl, rfl, h0, r0⟩ := trodAll_cons hA
  obtain ⟨v1, vs1, d1, ds1, p1, q1, rfl, rfl, rfl, h1, r1⟩ := trodAll_cons r0
  obtain ⟨rfl, rfl, rfl⟩ := trodAll_nil r1
  obtain rfl : args = #[v0, v1] := by cases args; simp_all
  obtain ⟨rfl, rfl⟩ := trodVars_none hV
  obtain ⟨Aa, ca, na, rfl, ha⟩ := open_bytes_reads Try.underlying22 Try.underlying5 (by kernel_rfl) (hval 0 22 v0 rfl rfl) h0 (fun y hy => hlt y (by simp [hy]))
  obtain ⟨Ab, cb, nb, rfl, hb⟩ := open_bytes_reads Try.underlying22 Try.underlying5 (by kernel_rfl) (hval 1 22 v1 rfl rfl) h1 (fun y hy => hlt y (by simp [hy]))
  refine (FnDivisorWitnesses_walk W Aa ca na Ab cb nb ha hb).mono fun e W' ⟨he, hg⟩ => ?_
  subst he
  exact ⟨_, rfl, law_post laidOut (by rw [Try.params3]; intro t ht; simp only [List.mem_cons, List.not_mem_nil, or_false] at ht; rcases ht with rfl | rfl <;> exact ⟨by kernel_rfl, of_decide_eq_true (by kernel_rfl)⟩) (by kernel_rfl) Try.underlying4 rfl hW' rfl hg⟩

theorem FnDivisorWitnesses_closed : joinedFacts Try.prog 3 Try.f3 Rows.fnDivisorWitnessesSpec Rows.fnDivisorWitnessesRow = true := by
  unfold joinedFacts
  rw [mayEnter_eq, lifts_eq, make_eq]
  kernel_rfl

theorem FnDivisorWitnesses_holds : Rows.FnDivisorWitnessesSaid :=
  OpenClaim.holds_of_wide 3 Try.f3 rfl rfl rfl rfl rfl rfl rfl ⟨rfl, rfl, rfl, rfl, rfl⟩ rfl rfl rfl rfl rfl (by kernel_rfl) Try.func3 FnDivisorWitnesses_closed
    (of_decide_eq_true (by kernel_rfl)) (by unfold Func.isWrapper; first | (rw [if_pos (by decide +kernel)]; kernel_rfl) | (rw [if_neg (by decide +kernel)]; exact ⟨rfl, rfl⟩))
    (fun os started H enc _ => FnDivisorWitnesses_lifted os started H enc)

end Go.Proofs.Ytiapljimgnhgoac
