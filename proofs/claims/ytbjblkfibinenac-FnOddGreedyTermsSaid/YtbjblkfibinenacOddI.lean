
/-
  The contract of the program's odd greedy terms.
-/
import Derived.Test.YtbjblkfibinenacOddS
import Derived.ScopeJumps
import Derived.WalkMore
namespace Go.Proofs.Ytbjblkfibinenac
open Go.RowKit
theorem or1_div (a : Nat) : (a ||| 1) / 2 = a / 2 := by rw [Nat.or_div_two]; simp
theorem or1_mod (a : Nat) : (a ||| 1) % 2 = 1 := by rw [Nat.or_mod_two_eq_one]; simp
theorem or1 (a : Nat) : a ||| 1 = if a % 2 = 0 then a + 1 else a := by
  have h1 := or1_div a
  have h2 := or1_mod a
  generalize a ||| 1 = b at *
  split <;> omega
theorem bits_or1 (x : Int) (h0 : 0 ≤ x) (h1 : x ≤ 4000000000) : bits BinOp.or IntKind.i64 x 1 = if x % 2 = 0 then x + 1 else x := by
  obtain ⟨a, rfl⟩ := Int.eq_ofNat_of_zero_le h0
  have h1 : (BitVec.ofInt 64 (a : Int)).toNat = a := by
    rw [BitVec.ofInt_natCast, BitVec.toNat_ofNat]; exact Nat.mod_eq_of_lt (by omega)
  have h2 : (BitVec.ofInt 64 (1 : Int)).toNat = 1 := by decide
  show IntKind.i64.wrap ((BitVec.ofInt 64 (a : Int) ||| BitVec.ofInt 64 (1 : Int)).toNat : Int) = _
  rw [BitVec.toNat_or, h1, h2, or1, IntKind.wrap_i64]
  split <;> split <;> omega
theorem small_G2 : Small (stG pick2) := small_G fun l n d hg hn _ => by have := (ucd_facts hn (good_bounds hg).2.2.1).1; unfold pick2; split <;> omega
theorem scope_jumps {P : Program} {a : Act} {w : World} {Q : Exit → Act → World → Prop} {c rest : Code} (l : Nat) (J : Act → World → Prop) (μ : Act → World → Nat) (hf : findLabel c l = some (Code.seq Code.skip rest))
    (pass : ∀ a w, J a w → rest.wp P (Exit.jump l (fun a' w' => J a' w' ∧ μ a' w' < μ a w) Q) a w)
    (first : (∀ a w, J a w → rest.wp P (Exit.jump l J Q) a w) → c.wp P (Exit.jump l J Q) a w) : (Code.scope c).wp P Q a w :=
  wp_scope_jumps l J μ hf (first fun a w h => wp_mono (pass a w h) (fun e a' w' he => by
    cases e with
    | goto l' => exact ⟨he.1, he.2.1⟩
    | _ => exact he)) (fun a w h => wp_seq (wp_skip (pass a w h)))
set_option maxRecDepth 1000000 in
set_option maxHeartbeats 16000000 in
theorem odd_any (n0 d0 m : Int) (w : World) (rn0 : -9223372036854775808 ≤ n0 ∧ n0 ≤ 9223372036854775807) (rd0 : -9223372036854775808 ≤ d0 ∧ d0 ≤ 9223372036854775807) (rm : -9223372036854775808 ≤ m ∧ m ≤ 9223372036854775807) : Calls Try.prog 24 #[.agg #[.int .i64 n0, .int .i64 d0], .int .i64 m] w (RetLB ((oddO n0 d0 m).getD []) (oddO n0 d0 m).isSome w) := by
  cases hg : belowB n0 d0 with
  | false =>
    have E := Lib.hid (oddO_no (m := m) (show oddB n0 d0 m = false by unfold oddB; rw [hg]; rfl))
    go_enter Try.func24, Try.ntmps24
    go_wp2
    go_step3
    go_wp2_with (go_at_call 65; refine (isBelowOne_any _ _ _ rn0 rd0).mono ?_; rintro e w1 ⟨rfl, hb1⟩; obtain ⟨hc1, hf1⟩ := bcellB hb1; have hz1 := hb1.size; (try simp only [World.size_alloc] at hc1 hf1 hz1); (try have hy1_r_0 : wr.heap.size < w1.heap.size := by omega); (try have hn1_r_0 : wr.heap.size ≠ w1.heap.size := by omega); (try have hm1_r_0 : w1.heap.size ≠ wr.heap.size := by omega); (try have hy1_r_1 : wr.heap.size + 1 < w1.heap.size := by omega); (try have hn1_r_1 : wr.heap.size + 1 ≠ w1.heap.size := by omega); (try have hm1_r_1 : w1.heap.size ≠ wr.heap.size + 1 := by omega); (try have hy1_r_2 : wr.heap.size + 1 + 1 < w1.heap.size := by omega); (try have hp1_r_1 : wr.heap.size < w1.heap.size + 1 := by omega); (try have hp1_r_2 : wr.heap.size < w1.heap.size + 1 + 1 := by omega); (try have hy1_0_0 : w.heap.size < w1.heap.size := by omega); (try have hn1_0_0 : w.heap.size ≠ w1.heap.size := by omega); (try have hm1_0_0 : w1.heap.size ≠ w.heap.size := by omega); (try have hy1_0_1 : w.heap.size + 1 < w1.heap.size := by omega); (try have hn1_0_1 : w.heap.size + 1 ≠ w1.heap.size := by omega); (try have hm1_0_1 : w1.heap.size ≠ w.heap.size + 1 := by omega); (try have hy1_0_2 : w.heap.size + 1 + 1 < w1.heap.size := by omega); (try have hp1_0_1 : w.heap.size < w1.heap.size + 1 := by omega); (try have hp1_0_2 : w.heap.size < w1.heap.size + 1 + 1 := by omega); (try have hg1_g1 : g1 < w1.heap.size := by omega); (try have hi1_g1 : g1 ≠ w1.heap.size := by omega); (try have hj1_g1 : w1.heap.size ≠ g1 := by omega); (try have hk1_g1 : g1 < w1.heap.size + 1 := by omega); (try have hg1_g2 : g2 < w1.heap.size := by omega); (try have hi1_g2 : g2 ≠ w1.heap.size := by omega); (try have hj1_g2 : w1.heap.size ≠ g2 := by omega); (try have hk1_g2 : g2 < w1.heap.size + 1 := by omega))
    rw [Exit.noGoto_ret]
    go_ret2
    rw [E.out]
    exact ⟨_, rfl, OwnI.empty _ _, by (repeat' (first | (with_reducible exact Below.refl _ _) | (with_reducible assumption) | (with_reducible refine Below.drew ?_) | (with_reducible refine belowDrewN ?_ _) | (with_reducible refine Below.alloc ?_ ?_ _) | (with_reducible refine Below.setCell ?_ ?_ _) | (with_reducible refine belowStep (by assumption) ?_ ?_) | (with_reducible exact Below.size (by assumption)) | go_size))⟩
  | true =>
    obtain ⟨hgd, hlt⟩ := belowB_yes hg
    obtain ⟨n1, n2, d1, d2⟩ := good_bounds hgd
    by_cases hpar : d0 % 2 = 0
    · have E := Lib.hid (oddO_no (m := m) (show oddB n0 d0 m = false by unfold oddB; rw [decide_eq_false (fun h => h hpar)]; simp))
      have he1 : (d0.tmod 2 == 0) = true := by rw [Int.tmod_eq_emod_of_nonneg (by omega), hpar]; rfl
      have he2 : (d0 % 2 == 0) = true := by rw [hpar]; rfl
      clear hpar
      go_enter Try.func24, Try.ntmps24
      go_wp2
      go_step3
      go_wp2_with (go_at_call 65; refine (isBelowOne_any _ _ _ rn0 rd0).mono ?_; rintro e w1 ⟨rfl, hb1⟩; obtain ⟨hc1, hf1⟩ := bcellB hb1; have hz1 := hb1.size; (try simp only [World.size_alloc] at hc1 hf1 hz1); (try have hy1_r_0 : wr.heap.size < w1.heap.size := by omega); (try have hn1_r_0 : wr.heap.size ≠ w1.heap.size := by omega); (try have hm1_r_0 : w1.heap.size ≠ wr.heap.size := by omega); (try have hy1_r_1 : wr.heap.size + 1 < w1.heap.size := by omega); (try have hn1_r_1 : wr.heap.size + 1 ≠ w1.heap.size := by omega); (try have hm1_r_1 : w1.heap.size ≠ wr.heap.size + 1 := by omega); (try have hy1_r_2 : wr.heap.size + 1 + 1 < w1.heap.size := by omega); (try have hp1_r_1 : wr.heap.size < w1.heap.size + 1 := by omega); (try have hp1_r_2 : wr.heap.size < w1.heap.size + 1 + 1 := by omega); (try have hy1_0_0 : w.heap.size < w1.heap.size := by omega); (try have hn1_0_0 : w.heap.size ≠ w1.heap.size := by omega); (try have hm1_0_0 : w1.heap.size ≠ w.heap.size := by omega); (try have hy1_0_1 : w.heap.size + 1 < w1.heap.size := by omega); (try have hn1_0_1 : w.heap.size + 1 ≠ w1.heap.size := by omega); (try have hm1_0_1 : w1.heap.size ≠ w.heap.size + 1 := by omega); (try have hy1_0_2 : w.heap.size + 1 + 1 < w1.heap.size := by omega); (try have hp1_0_1 : w.heap.size < w1.heap.size + 1 := by omega); (try have hp1_0_2 : w.heap.size < w1.heap.size + 1 + 1 := by omega); (try have hg1_g1 : g1 < w1.heap.size := by omega); (try have hi1_g1 : g1 ≠ w1.heap.size := by omega); (try have hj1_g1 : w1.heap.size ≠ g1 := by omega); (try have hk1_g1 : g1 < w1.heap.size + 1 := by omega); (try have hg1_g2 : g2 < w1.heap.size := by omega); (try have hi1_g2 : g2 ≠ w1.heap.size := by omega); (try have hj1_g2 : w1.heap.size ≠ g2 := by omega); (try have hk1_g2 : g2 < w1.heap.size + 1 := by omega))
      rw [Exit.noGoto_ret]
      go_ret2
      rw [E.out]
      exact ⟨_, rfl, OwnI.empty _ _, by (repeat' (first | (with_reducible exact Below.refl _ _) | (with_reducible assumption) | (with_reducible refine Below.drew ?_) | (with_reducible refine belowDrewN ?_ _) | (with_reducible refine Below.alloc ?_ ?_ _) | (with_reducible refine Below.setCell ?_ ?_ _) | (with_reducible refine belowStep (by assumption) ?_ ?_) | (with_reducible exact Below.size (by assumption)) | go_size))⟩
    · have hpar1 : d0 % 2 = 1 := by omega
      have he1 : (d0.tmod 2 == 0) = false := by rw [Int.tmod_eq_emod_of_nonneg (by omega), hpar1]; rfl
      have he2 : (d0 % 2 == 0) = false := by rw [hpar1]; rfl
      by_cases hm : 0 ≤ m ∧ m ≤ 24
      · obtain ⟨k, rfl⟩ := Int.eq_ofNat_of_zero_le hm.1
        have E : Hid (oddO n0 d0 (k : Int) = lstO (stG pick2) expB k 1 n0 d0) := Lib.hid (by
          unfold oddO
          rw [if_pos]
          · rfl
          · simp only [oddB, hg, hpar1, hm.1, hm.2, decide_true, Bool.and_true]; decide)
        have HG := Lib.hid hgd
        obtain ⟨h1, h2⟩ := hm
        have hk : k ≤ 24 := by omega
        clear hpar hpar1 hgd
        go_enter Try.func24, Try.ntmps24
        go_wp2
        refine scope_jumps 0 (fun a1 w1 => ∃ (es : List (Int × Int × Int)) (xs : List Int) (l n d : Int) (g : Nat) (A : Option Addr) (c : Nat) (u3 u9 u10 u11 u12 u13 u14 u15 u16 u17 u18 u19 u20 u21 u22 u23 u24 u25 u26 u27 u28 u29 u30 u31 u32 u33 u34 u35 u36 u37 u38 u39 u40 u41 u42 u43 u44 u45 u46 u47 u48 u49 u50 u51 u52 u53 u54 u55 u56 u57 u58 u59 u60 u61 : Value), a1 = { tmps := #[.agg #[.int .i64 n0, .int .i64 d0], .int .i64 (k : Int), .pointer (some ⟨w.heap.size, 0, none⟩), u3, .slice none 0 0, .bool false, .slice A xs.length c, .int .i64 l, .pointer (some ⟨g, 0, none⟩), u9, u10, u11, u12, u13, u14, u15, u16, u17, u18, u19, u20, u21, u22, u23, u24, u25, u26, u27, u28, u29, u30, u31, u32, u33, u34, u35, u36, u37, u38, u39, u40, u41, u42, u43, u44, u45, u46, u47, u48, u49, u50, u51, u52, u53, u54, u55, u56, u57, u58, u59, u60, u61], defers := [] } ∧ takenOf es = xs ∧ Walked (stG pick2) k 1 n0 d0 es l n d ∧ goodB n d = true ∧ 1 ≤ l ∧ l ≤ 1000000001 ∧ OwnI w1 (w.heap.size + 1) (.slice A xs.length c) xs ∧ TwoAt w1 g n d ∧ w.heap.size + 1 ≤ g ∧ (Value.slice A xs.length c).ownBlock ≠ some g ∧ Below w.heap.size w w1) (fun a1 _ => k - slen (a1.tmps.getD 6 undef)) rfl ?_ ?_
        · rintro a1 wr ⟨es, xs, l, n, d, g, A, c, u3, u9, u10, u11, u12, u13, u14, u15, u16, u17, u18, u19, u20, u21, u22, u23, u24, u25, u26, u27, u28, u29, u30, u31, u32, u33, u34, u35, u36, u37, u38, u39, u40, u41, u42, u43, u44, u45, u46, u47, u48, u49, u50, u51, u52, u53, u54, u55, u56, u57, u58, u59, u60, u61, rfl, hxs, hwk, hgd, hl1, hl2, ho, hq, hgg, hne, hbr⟩
          have Hxs := Lib.hid hxs
          have Hwk := Lib.hid hwk
          have Hgd := Lib.hid hgd
          have Ho := Lib.hid ho
          have Hq := Lib.hid hq
          have Hne := Lib.hid hne
          have hzr := hbr.size
          have hxl : xs.length ≤ es.length := by rw [← hxs, takenOf_len]; exact Nat.le_refl _
          have hxl2 : es.length ≤ xs.length := by rw [← hxs, takenOf_len]; exact Nat.le_refl _
          have hle : es.length ≤ k := hwk.1
          obtain ⟨n1', n2', d1', d2'⟩ := good_bounds hgd
          obtain ⟨q1, q2, q3, q4, q5⟩ := hq
          clear hxs hwk hgd ho hne
          by_cases hn : n = 0
          · have Hd := Lib.hid (Hwk.out.done (by omega))
            obtain ⟨A2, c2, e2, hr2⟩ := Ho.out.form
            injection e2 with e21 e22 e23
            subst e21 e23
            have Hr2 := Lib.hid hr2
            have H64 : Hid (In64 xs) := Lib.hid (In64.of_mem fun x hx => by
              have := walkR_small small_G2 HG.out (by omega) Hd.out x (by rw [Hxs.out]; exact hx)
              omega)
            clear hr2
            subst hn
            cases he : expB xs with
            | true =>
              have EE : Hid (oddO n0 d0 (k : Int) = some xs) := Lib.hid (by rw [E.out, lstO_yes Hd.out (by rw [Hxs.out]; exact he), Hxs.out])
              go_wp2_with fail
              refine (ifExp_yes _ _ _ _ Hr2.out (by omega) H64.out he).mono ?_; rintro e w7 ⟨rfl, hb7⟩
              go_wp2
              simp only [Exit.jump]
              go_ret2
              rw [EE.out]
              exact ⟨_, rfl, (Ho.out.below hb7).mono (show w.heap.size ≤ w.heap.size + 1 by omega), by (repeat' (first | (with_reducible exact Below.refl _ _) | (with_reducible assumption) | (with_reducible refine Below.drew ?_) | (with_reducible refine belowDrewN ?_ _) | (with_reducible refine Below.alloc ?_ ?_ _) | (with_reducible refine Below.setCell ?_ ?_ _) | (with_reducible refine belowStep (by assumption) ?_ ?_) | (with_reducible exact Below.size (by assumption)) | go_size))⟩
            | false =>
              have EE : Hid (oddO n0 d0 (k : Int) = none) := Lib.hid (by rw [E.out]; exact lstO_no Hd.out (by rw [Hxs.out]; exact he))
              go_wp2_with fail
              refine (ifExp_no _ _ _ _ Hr2.out (by omega) H64.out he).mono ?_; rintro e w7 ⟨rfl, hb7⟩
              go_wp2
              simp only [Exit.jump]
              go_ret2
              rw [EE.out]
              exact ⟨_, rfl, OwnI.empty _ _, by (repeat' (first | (with_reducible exact Below.refl _ _) | (with_reducible assumption) | (with_reducible refine Below.drew ?_) | (with_reducible refine belowDrewN ?_ _) | (with_reducible refine Below.alloc ?_ ?_ _) | (with_reducible refine Below.setCell ?_ ?_ _) | (with_reducible refine belowStep (by assumption) ?_ ?_) | (with_reducible exact Below.size (by assumption)) | go_size))⟩
          · have hn1 : 1 ≤ n := by omega
            have hnb : (n == 0) = false := by simp [hn]
            by_cases hfull : xs.length = k
            · have EE : Hid (oddO n0 d0 (k : Int) = none) := Lib.hid (by rw [E.out]; exact lstO_none (Hwk.out.full (by omega) (by omega)))
              have hfi : ((xs.length : Nat) : Int) = (k : Int) := by omega
              go_wp2
              simp only [Exit.jump]
              go_ret2
              rw [EE.out]
              exact ⟨_, rfl, OwnI.empty _ _, by (repeat' (first | (with_reducible exact Below.refl _ _) | (with_reducible assumption) | (with_reducible refine Below.drew ?_) | (with_reducible refine belowDrewN ?_ _) | (with_reducible refine Below.alloc ?_ ?_ _) | (with_reducible refine Below.setCell ?_ ?_ _) | (with_reducible refine belowStep (by assumption) ?_ ?_) | (with_reducible exact Below.size (by assumption)) | go_size))⟩
            · have hfi : (((xs.length : Nat) : Int) == (k : Int)) = false := by simp; omega
              obtain ⟨u1', u2', u3', u4'⟩ := ucd_facts hn1 d1'
              have HU := Lib.hid fun (w : World) => leastUnder_any n d w hn1 n2' d1' d2'
              obtain ⟨t0, ht0⟩ : ∃ t0, (if l < ucd n d then ucd n d else l) = t0 := ⟨_, rfl⟩
              have h01 : 1 ≤ t0 := by rw [← ht0]; split <;> omega
              have h02 : t0 ≤ 1000000001 := by rw [← ht0]; split <;> omega
              have h03 : t0 = max l (ucd n d) := by rw [← ht0]; split <;> omega
              obtain ⟨t, ht⟩ : ∃ t, bits BinOp.or IntKind.i64 t0 1 = t := ⟨_, rfl⟩
              have h04 : t = pick2 l n d := by rw [← ht, bits_or1 _ (by omega) (by omega)]; unfold pick2; rw [← h03]
              have h05 : 1 ≤ t ∧ t ≤ 1000000002 := by rw [← ht, bits_or1 _ (by omega) (by omega)]; split <;> omega
              have HT := Lib.hid fun (w : World) => takeUnit_any n d t w Hgd.out h05.1 (by omega)
              have H04 := Lib.hid h04
              clear h03 h04
              go_upto_region 8 with fail
              go_cut [9, 10, 11] (fun s9 s10 s11 wx => ∃ h : Nat, s9 = .int .i64 (tT n d t) ∧ s10 = .pointer (some ⟨h, 0, none⟩) ∧ s11 = .bool (tB n d t) ∧ wr.heap.size ≤ h ∧ TwoAt wx h (tN n d t) (tD n d t) ∧ Below wr.heap.size wr wx)
              case first =>
                have HC : Hid (∀ w' : World, Below wr.heap.size wr w' → w'.cell? ⟨g, 0, none⟩ = some (.int .i64 n) ∧ w'.cell? ⟨g, 1, none⟩ = some (.int .i64 d)) := Lib.hid fun w' h => ⟨(Hq.out.below h).1, (Hq.out.below h).2.1⟩
                clear hxl hxl2 hle Hxs Hwk Hgd Ho Hne HG E H04
                go_region_held3 (fun w' => w'.cell? ⟨g, 0, none⟩ = some (.int .i64 n) ∧ w'.cell? ⟨g, 1, none⟩ = some (.int .i64 d)) (exact HC.out _ (by (repeat' (first | (with_reducible exact Below.refl _ _) | (with_reducible assumption) | (with_reducible refine Below.drew ?_) | (with_reducible refine belowDrewN ?_ _) | (with_reducible refine Below.alloc ?_ ?_ _) | (with_reducible refine Below.setCell ?_ ?_ _) | (with_reducible refine belowStep (by assumption) ?_ ?_) | (with_reducible exact Below.size (by assumption)) | go_size)))) (first | (go_at_call 58; refine (HU.out _).mono ?_; rintro e w1 ⟨rfl, hb1⟩; obtain ⟨hc1, hf1⟩ := bcellB hb1; have hz1 := hb1.size; (try simp only [World.size_alloc, World.size_drew] at hc1 hf1 hz1); (try have hy1_00 : wr.heap.size < w1.heap.size := by omega); (try have hn1_00 : wr.heap.size ≠ w1.heap.size := by omega); (try have hm1_00 : w1.heap.size ≠ wr.heap.size := by omega); (try have hp1_00 : wr.heap.size < w1.heap.size + 1 := by omega); (try have hy1_01 : wr.heap.size + 1 < w1.heap.size := by omega); (try have hn1_01 : wr.heap.size + 1 ≠ w1.heap.size := by omega); (try have hm1_01 : w1.heap.size ≠ wr.heap.size + 1 := by omega); (try have hp1_01 : wr.heap.size + 1 < w1.heap.size + 1 := by omega)) | (go_at_call 59; refine (HT.out _).mono ?_; rintro e w2 ⟨rfl, hb2⟩; obtain ⟨hc2, hf2⟩ := bcellB hb2; have hz2 := hb2.size; (try simp only [World.size_alloc] at hc2 hf2 hz2); (try have hy2_00 : wr.heap.size < w2.heap.size := by omega); (try have hn2_00 : wr.heap.size ≠ w2.heap.size := by omega); (try have hm2_00 : w2.heap.size ≠ wr.heap.size := by omega); (try have hp2_00 : wr.heap.size < w2.heap.size + 1 := by omega); (try have hy2_01 : wr.heap.size + 1 < w2.heap.size := by omega); (try have hn2_01 : wr.heap.size + 1 ≠ w2.heap.size := by omega); (try have hm2_01 : w2.heap.size ≠ wr.heap.size + 1 := by omega); (try have hp2_01 : wr.heap.size + 1 < w2.heap.size + 1 := by omega); (try have hy2_10 : w1.heap.size < w2.heap.size := by omega); (try have hn2_10 : w1.heap.size ≠ w2.heap.size := by omega); (try have hm2_10 : w2.heap.size ≠ w1.heap.size := by omega); (try have hp2_10 : w1.heap.size < w2.heap.size + 1 := by omega); (try have hy2_11 : w1.heap.size + 1 < w2.heap.size := by omega); (try have hn2_11 : w1.heap.size + 1 ≠ w2.heap.size := by omega); (try have hm2_11 : w2.heap.size ≠ w1.heap.size + 1 := by omega); (try have hp2_11 : w1.heap.size + 1 < w2.heap.size + 1 := by omega)))
                all_goals go_wp2_with fail
                all_goals go_meet
                all_goals exact ⟨_, rfl, rfl, rfl, by (first | (go_size; done) | ((try simp only [World.size_alloc, World.size_setCell, World.size_drew, World.heap_drewN]); omega)), by (refine ⟨?_, ?_, ?_, ?_, ?_⟩ <;> first | (first | (simp [*]; done) | (simp [go_sem, *]; done)) | (first | (go_size; done) | ((try simp only [World.size_alloc, World.size_setCell, World.size_drew, World.heap_drewN]); omega))), by (repeat' (first | (with_reducible exact Below.refl _ _) | (with_reducible assumption) | (with_reducible refine Below.drew ?_) | (with_reducible refine belowDrewN ?_ _) | (with_reducible refine Below.alloc ?_ ?_ _) | (with_reducible refine Below.setCell ?_ ?_ _) | (with_reducible refine belowStep (by assumption) ?_ ?_) | (with_reducible exact Below.size (by assumption)) | go_size))⟩
              case rest =>
                obtain ⟨w3, rfl⟩ : ∃ w3 : World, w3 = wc := ⟨_, rfl⟩
                obtain ⟨h, rfl, rfl, rfl, hh, hqh, hb3⟩ := hcut
                have hz3 := hb3.size
                clear q1 q2 q3 q4 q5
                cases hb : tB n d t with
                | false =>
                  have EE : Hid (oddO n0 d0 (k : Int) = none) := Lib.hid (by rw [E.out]; exact lstO_none (Hwk.out.fails (by omega) (stG_no (p := pick2) (l := l) (by rw [← H04.out]; exact hb))))
                  go_wp2
                  simp only [Exit.jump]
                  go_ret2
                  rw [EE.out]
                  exact ⟨_, rfl, OwnI.empty _ _, by (repeat' (first | (with_reducible exact Below.refl _ _) | (with_reducible assumption) | (with_reducible refine Below.drew ?_) | (with_reducible refine belowDrewN ?_ _) | (with_reducible refine Below.alloc ?_ ?_ _) | (with_reducible refine Below.setCell ?_ ?_ _) | (with_reducible refine belowStep (by assumption) ?_ ?_) | (with_reducible exact Below.size (by assumption)) | go_size))⟩
                | true =>
                  obtain ⟨p1, -, -, p4, -, -⟩ := tB_parts hb
                  have hgN := tB_good d1' h05.1 hb
                  have Hst := Lib.hid (Hwk.out.step (by omega) (by omega) (by
                    have h2 := stG_yes (p := pick2) (l := l) (n := n) (d := d) (by rw [← H04.out]; exact hb)
                    rw [← H04.out] at h2
                    exact h2))
                  rw [p4]
                  generalize tN n d t = N at *
                  generalize tD n d t = D at *
                  have HgN := Lib.hid hgN
                  have Hqh := Lib.hid hqh
                  have Hq3 := Lib.hid (Hq.out.below hb3)
                  have Ho3 := Lib.hid (Ho.out.below hb3)
                  have hqg := Hq.out.2.2.2.2
                  have hgh : g ≠ h := by omega
                  have hgh2 : h ≠ g := by omega
                  have Hb6 := Lib.hid fun k hk => (Ho.out.block k hk).2
                  clear hqh hgN hb p4 HT HU Hwk Hgd
                  have hgn1 : g ≠ w3.heap.size := by omega
                  have hgn2 : h ≠ w3.heap.size := by have := Hqh.out.2.2.2.2; omega
                  obtain ⟨q1, q2, q3, q4, q5⟩ := Hq3.out
                  obtain ⟨r1, r2, r3, r4, r5⟩ := Hqh.out
                  have hlen6 : xs.length ≤ 24 := by omega
                  have hw1 : IntKind.i64.wrap (t + 1) = t + 1 := IntWalk.i64_in _ (by omega)
                  go_upto_region 11 with fail
                  go_region_held3 (fun w' => w'.cell? ⟨h, 0, none⟩ = some (.int .i64 N) ∧ w'.cell? ⟨h, 1, none⟩ = some (.int .i64 D)) (first | exact ⟨pp1, pp2⟩ | go_keep)
                    (first | (refine step_app _ (o := ⟨some 58, _, _, _, _, _⟩) (ys := [t]) rfl _ _ rfl rfl (OwnI.below Ho3.out (by (repeat' (first | (with_reducible exact Below.refl _ _) | (with_reducible assumption) | (with_reducible refine Below.drew ?_) | (with_reducible refine belowDrewN ?_ _) | (with_reducible refine Below.alloc ?_ ?_ _) | (with_reducible refine Below.setCell ?_ ?_ _) | (with_reducible refine belowStep (by assumption) ?_ ?_) | (with_reducible exact Below.size (by assumption)) | go_size)))) 1 1 rfl rfl (Reads.oneAt (by (first | (simp [*]; done) | (simp [go_sem, *]; done))) (by (first | (go_size; done) | ((try simp only [World.size_alloc, World.size_setCell, World.size_drew, World.heap_drewN]); omega)))) (by simp; omega) (by (first | (go_size; done) | ((try simp only [World.size_alloc, World.size_setCell, World.size_drew, World.heap_drewN]); omega))) ?_; intro v4 w4 ho4 hb4 hg4 ht4; have HB4 := Lib.hid (show Below w.heap.size w3 w4 from Below.trans (by (repeat' (first | (with_reducible exact Below.refl _ _) | (with_reducible assumption) | (with_reducible refine Below.drew ?_) | (with_reducible refine belowDrewN ?_ _) | (with_reducible refine Below.alloc ?_ ?_ _) | (with_reducible refine Below.setCell ?_ ?_ _) | (with_reducible refine belowStep (by assumption) ?_ ?_) | (with_reducible exact Below.size (by assumption)) | go_size))) (hb4.mono (by omega))); have Hne4 := Lib.hid (show v4.ownBlock ≠ some g from by rcases ht4 with e | e; (rw [e]; exact Hne.out); (rw [e]; intro e2; injection e2 with e2; (try simp only [World.size_alloc, World.size_drew] at e2); omega)); clear ht4; have Ho4 := Lib.hid ho4; have Hg4 := Lib.hid hg4; have hz4 := hb4.size; have HQ4 := Lib.hid (keptAt hg4 Hne.out (TwoAt.below Hq3.out (by (repeat' (first | (with_reducible exact Below.refl _ _) | (with_reducible assumption) | (with_reducible refine Below.drew ?_) | (with_reducible refine belowDrewN ?_ _) | (with_reducible refine Below.alloc ?_ ?_ _) | (with_reducible refine Below.setCell ?_ ?_ _) | (with_reducible refine belowStep (by assumption) ?_ ?_) | (with_reducible exact Below.size (by assumption)) | go_size))))); have HL4 := Lib.hid (keptAt hg4 (fun e => by have := Hb6.out _ e; omega) (TwoAt.below Hqh.out (by (repeat' (first | (with_reducible exact Below.refl _ _) | (with_reducible assumption) | (with_reducible refine Below.drew ?_) | (with_reducible refine belowDrewN ?_ _) | (with_reducible refine Below.alloc ?_ ?_ _) | (with_reducible refine Below.setCell ?_ ?_ _) | (with_reducible refine belowStep (by assumption) ?_ ?_) | (with_reducible exact Below.size (by assumption)) | go_size))))); (try simp only [World.size_alloc, World.size_drew] at hz4); obtain ⟨pp1, pp2, pp3, pp4, pp5⟩ := HL4.out; obtain ⟨qq1, qq2, qq3, qq4, qq5⟩ := HQ4.out; clear ho4 hg4 hb4))
                  all_goals
                    obtain ⟨A4, c4, e4, _⟩ := Ho4.out.form
                    have hl4 : (xs ++ [t]).length = xs.length + 1 := by simp
                    rw [hl4] at e4
                    subst e4
                    clear hl4
                    go_wp2
                    go_step3
                    (try simp only [Exit.jump])
                    refine ⟨rfl, ⟨es ++ [(t, N, D)], xs ++ [t], t + 1, N, D, g, A4, c4, _, _, _, _, _, _, _, _, _, _, _, _, _, _, _, _, _, _, _, _, _, _, _, _, _, _, _, _, _, _, _, _, _, _, _, _, _, _, _, _, _, _, _, _, _, _, _, _, _, _, _, _, _, _, by rw [List.length_append]; rfl, by rw [takenOf_snoc, Hxs.out], Hst.out, HgN.out, by omega, by omega, ?_, ?_, hgg, ?_, ?_⟩, ?_⟩
                    · rw [List.length_append]
                      exact (Ho4.out.setO g 0 _ Hne4.out).setO g 1 _ Hne4.out
                    · (refine ⟨?_, ?_, ?_, ?_, ?_⟩ <;> first | (simp only [World.size_setCell]; omega) | (first | (simp [*]; done) | (simp [go_sem, *]; done)))
                    · rw [List.length_append]; exact Hne4.out
                    · exact (((show Below w.heap.size w wr from hbr).trans (hb3.mono (by omega))).trans HB4.out |>.setCell (Nat.le_of_succ_le hgg) _).setCell (Nat.le_of_succ_le hgg) _
                    · simp [slen]; omega
        · intro pass
          go_wp2_with (go_at_call 65; refine (isBelowOne_any _ _ _ rn0 rd0).mono ?_; rintro e w1 ⟨rfl, hb1⟩; obtain ⟨hc1, hf1⟩ := bcellB hb1; have hz1 := hb1.size; (try simp only [World.size_alloc] at hc1 hf1 hz1); (try have hy1_r_0 : wr.heap.size < w1.heap.size := by omega); (try have hn1_r_0 : wr.heap.size ≠ w1.heap.size := by omega); (try have hm1_r_0 : w1.heap.size ≠ wr.heap.size := by omega); (try have hy1_r_1 : wr.heap.size + 1 < w1.heap.size := by omega); (try have hn1_r_1 : wr.heap.size + 1 ≠ w1.heap.size := by omega); (try have hm1_r_1 : w1.heap.size ≠ wr.heap.size + 1 := by omega); (try have hy1_r_2 : wr.heap.size + 1 + 1 < w1.heap.size := by omega); (try have hp1_r_1 : wr.heap.size < w1.heap.size + 1 := by omega); (try have hp1_r_2 : wr.heap.size < w1.heap.size + 1 + 1 := by omega); (try have hy1_0_0 : w.heap.size < w1.heap.size := by omega); (try have hn1_0_0 : w.heap.size ≠ w1.heap.size := by omega); (try have hm1_0_0 : w1.heap.size ≠ w.heap.size := by omega); (try have hy1_0_1 : w.heap.size + 1 < w1.heap.size := by omega); (try have hn1_0_1 : w.heap.size + 1 ≠ w1.heap.size := by omega); (try have hm1_0_1 : w1.heap.size ≠ w.heap.size + 1 := by omega); (try have hy1_0_2 : w.heap.size + 1 + 1 < w1.heap.size := by omega); (try have hp1_0_1 : w.heap.size < w1.heap.size + 1 := by omega); (try have hp1_0_2 : w.heap.size < w1.heap.size + 1 + 1 := by omega); (try have hg1_g1 : g1 < w1.heap.size := by omega); (try have hi1_g1 : g1 ≠ w1.heap.size := by omega); (try have hj1_g1 : w1.heap.size ≠ g1 := by omega); (try have hk1_g1 : g1 < w1.heap.size + 1 := by omega); (try have hg1_g2 : g2 < w1.heap.size := by omega); (try have hi1_g2 : g2 ≠ w1.heap.size := by omega); (try have hj1_g2 : w1.heap.size ≠ g2 := by omega); (try have hk1_g2 : g2 < w1.heap.size + 1 := by omega))
          have T1 := Lib.hid ((TwoAt.new w n0 d0 27).below hb1)
          obtain ⟨q1, q2, q3, q4, q5⟩ := T1.out
          go_upto_region 3 with fail
          go_cut [6, 7, 8] (fun s6 s7 s8 wx => ∃ (A : Option Addr) (c g : Nat), s6 = .slice A 0 c ∧ s7 = .int .i64 1 ∧ s8 = .pointer (some ⟨g, 0, none⟩) ∧ OwnI wx (w.heap.size + 1) (.slice A 0 c) [] ∧ TwoAt wx g n0 d0 ∧ w.heap.size + 1 ≤ g ∧ (Value.slice A 0 c).ownBlock ≠ some g ∧ Below w.heap.size w wx)
          case first =>
            go_region
            all_goals go_wp2_with fail
            all_goals go_meet
            all_goals refine ⟨_, _, _, rfl, rfl, rfl, ?_, ?_, ?_, ?_, by (repeat' (first | (with_reducible exact Below.refl _ _) | (with_reducible assumption) | (with_reducible refine Below.drew ?_) | (with_reducible refine belowDrewN ?_ _) | (with_reducible refine Below.alloc ?_ ?_ _) | (with_reducible refine Below.setCell ?_ ?_ _) | (with_reducible refine belowStep (by assumption) ?_ ?_) | (with_reducible exact Below.size (by assumption)) | go_size))⟩
            all_goals first
              | exact litI w1 _ _ _ (by (first | (go_size; done) | ((try simp only [World.size_alloc, World.size_setCell, World.size_drew, World.heap_drewN]); omega))) (by (first | (go_size; done) | ((try simp only [World.size_alloc, World.size_setCell, World.size_drew, World.heap_drewN]); omega))) (by (repeat' (first | (with_reducible exact Below.refl _ _) | (with_reducible assumption) | (with_reducible refine Below.drew ?_) | (with_reducible refine belowDrewN ?_ _) | (with_reducible refine Below.alloc ?_ ?_ _) | (with_reducible refine Below.setCell ?_ ?_ _) | (with_reducible refine belowStep (by assumption) ?_ ?_) | (with_reducible exact Below.size (by assumption)) | go_size)))
              | exact litI (w1.alloc (.cells #[.int .i64 n0, .int .i64 d0] 27)) _ _ _ (by (first | (go_size; done) | ((try simp only [World.size_alloc]); omega))) (by (first | (go_size; done) | ((try simp only [World.size_alloc, World.size_setCell, World.size_drew, World.heap_drewN]); omega))) (by (repeat' (first | (with_reducible exact Below.refl _ _) | (with_reducible assumption) | (with_reducible refine Below.drew ?_) | (with_reducible refine belowDrewN ?_ _) | (with_reducible refine Below.alloc ?_ ?_ _) | (with_reducible refine Below.setCell ?_ ?_ _) | (with_reducible refine belowStep (by assumption) ?_ ?_) | (with_reducible exact Below.size (by assumption)) | go_size)))
              | ((refine ⟨?_, ?_, ?_, ?_, ?_⟩ <;> first | (first | (simp [*, World.cell?_alloc_some]; done) | (simp [go_sem, *]; done)) | (first | (go_size; done) | ((try simp only [World.size_alloc, World.size_setCell, World.size_drew, World.heap_drewN]); omega))); done)
              | ((first | (go_size; done) | ((try simp only [World.size_alloc, World.size_setCell, World.size_drew, World.heap_drewN]); omega)); done)
              | (intro e; injection e with e; (try simp only [] at e); omega)
          case rest =>
            obtain ⟨w2, rfl⟩ : ∃ w2 : World, w2 = wc := ⟨_, rfl⟩
            obtain ⟨A, c, g, rfl, rfl, rfl, ho, hq, hgg, hne, hb2⟩ := hcut
            go_wp2
            go_step3
            rename_i hK
            refine hK _ _ (pass _ _ ⟨[], [], 1, n0, d0, g, A, c, _, _, _, _, _, _, _, _, _, _, _, _, _, _, _, _, _, _, _, _, _, _, _, _, _, _, _, _, _, _, _, _, _, _, _, _, _, _, _, _, _, _, _, _, _, _, _, _, _, _, _, _, _, _, rfl, rfl, Walked.start _ _ _ _ _, HG.out, by omega, by omega, ho, hq, hgg, hne, hb2⟩)
      · have E := Lib.hid (oddO_no (n := n0) (d := d0) (show oddB n0 d0 m = false by
          cases h : oddB n0 d0 m with
          | false => rfl
          | true => exact absurd (oddB_yes h).2.2 hm))
        clear hpar hpar1
        by_cases hm0 : m < 0
        · go_enter Try.func24, Try.ntmps24
          go_wp2
          go_step3
          go_wp2_with (go_at_call 65; refine (isBelowOne_any _ _ _ rn0 rd0).mono ?_; rintro e w1 ⟨rfl, hb1⟩; obtain ⟨hc1, hf1⟩ := bcellB hb1; have hz1 := hb1.size; (try simp only [World.size_alloc] at hc1 hf1 hz1); (try have hy1_r_0 : wr.heap.size < w1.heap.size := by omega); (try have hn1_r_0 : wr.heap.size ≠ w1.heap.size := by omega); (try have hm1_r_0 : w1.heap.size ≠ wr.heap.size := by omega); (try have hy1_r_1 : wr.heap.size + 1 < w1.heap.size := by omega); (try have hn1_r_1 : wr.heap.size + 1 ≠ w1.heap.size := by omega); (try have hm1_r_1 : w1.heap.size ≠ wr.heap.size + 1 := by omega); (try have hy1_r_2 : wr.heap.size + 1 + 1 < w1.heap.size := by omega); (try have hp1_r_1 : wr.heap.size < w1.heap.size + 1 := by omega); (try have hp1_r_2 : wr.heap.size < w1.heap.size + 1 + 1 := by omega); (try have hy1_0_0 : w.heap.size < w1.heap.size := by omega); (try have hn1_0_0 : w.heap.size ≠ w1.heap.size := by omega); (try have hm1_0_0 : w1.heap.size ≠ w.heap.size := by omega); (try have hy1_0_1 : w.heap.size + 1 < w1.heap.size := by omega); (try have hn1_0_1 : w.heap.size + 1 ≠ w1.heap.size := by omega); (try have hm1_0_1 : w1.heap.size ≠ w.heap.size + 1 := by omega); (try have hy1_0_2 : w.heap.size + 1 + 1 < w1.heap.size := by omega); (try have hp1_0_1 : w.heap.size < w1.heap.size + 1 := by omega); (try have hp1_0_2 : w.heap.size < w1.heap.size + 1 + 1 := by omega); (try have hg1_g1 : g1 < w1.heap.size := by omega); (try have hi1_g1 : g1 ≠ w1.heap.size := by omega); (try have hj1_g1 : w1.heap.size ≠ g1 := by omega); (try have hk1_g1 : g1 < w1.heap.size + 1 := by omega); (try have hg1_g2 : g2 < w1.heap.size := by omega); (try have hi1_g2 : g2 ≠ w1.heap.size := by omega); (try have hj1_g2 : w1.heap.size ≠ g2 := by omega); (try have hk1_g2 : g2 < w1.heap.size + 1 := by omega))
          rw [Exit.noGoto_ret]
          go_ret2
          rw [E.out]
          exact ⟨_, rfl, OwnI.empty _ _, by (repeat' (first | (with_reducible exact Below.refl _ _) | (with_reducible assumption) | (with_reducible refine Below.drew ?_) | (with_reducible refine belowDrewN ?_ _) | (with_reducible refine Below.alloc ?_ ?_ _) | (with_reducible refine Below.setCell ?_ ?_ _) | (with_reducible refine belowStep (by assumption) ?_ ?_) | (with_reducible exact Below.size (by assumption)) | go_size))⟩
        · have hm1 : 24 < m := by omega
          go_enter Try.func24, Try.ntmps24
          go_wp2
          go_step3
          go_wp2_with (go_at_call 65; refine (isBelowOne_any _ _ _ rn0 rd0).mono ?_; rintro e w1 ⟨rfl, hb1⟩; obtain ⟨hc1, hf1⟩ := bcellB hb1; have hz1 := hb1.size; (try simp only [World.size_alloc] at hc1 hf1 hz1); (try have hy1_r_0 : wr.heap.size < w1.heap.size := by omega); (try have hn1_r_0 : wr.heap.size ≠ w1.heap.size := by omega); (try have hm1_r_0 : w1.heap.size ≠ wr.heap.size := by omega); (try have hy1_r_1 : wr.heap.size + 1 < w1.heap.size := by omega); (try have hn1_r_1 : wr.heap.size + 1 ≠ w1.heap.size := by omega); (try have hm1_r_1 : w1.heap.size ≠ wr.heap.size + 1 := by omega); (try have hy1_r_2 : wr.heap.size + 1 + 1 < w1.heap.size := by omega); (try have hp1_r_1 : wr.heap.size < w1.heap.size + 1 := by omega); (try have hp1_r_2 : wr.heap.size < w1.heap.size + 1 + 1 := by omega); (try have hy1_0_0 : w.heap.size < w1.heap.size := by omega); (try have hn1_0_0 : w.heap.size ≠ w1.heap.size := by omega); (try have hm1_0_0 : w1.heap.size ≠ w.heap.size := by omega); (try have hy1_0_1 : w.heap.size + 1 < w1.heap.size := by omega); (try have hn1_0_1 : w.heap.size + 1 ≠ w1.heap.size := by omega); (try have hm1_0_1 : w1.heap.size ≠ w.heap.size + 1 := by omega); (try have hy1_0_2 : w.heap.size + 1 + 1 < w1.heap.size := by omega); (try have hp1_0_1 : w.heap.size < w1.heap.size + 1 := by omega); (try have hp1_0_2 : w.heap.size < w1.heap.size + 1 + 1 := by omega); (try have hg1_g1 : g1 < w1.heap.size := by omega); (try have hi1_g1 : g1 ≠ w1.heap.size := by omega); (try have hj1_g1 : w1.heap.size ≠ g1 := by omega); (try have hk1_g1 : g1 < w1.heap.size + 1 := by omega); (try have hg1_g2 : g2 < w1.heap.size := by omega); (try have hi1_g2 : g2 ≠ w1.heap.size := by omega); (try have hj1_g2 : w1.heap.size ≠ g2 := by omega); (try have hk1_g2 : g2 < w1.heap.size + 1 := by omega))
          rw [Exit.noGoto_ret]
          go_ret2
          rw [E.out]
          exact ⟨_, rfl, OwnI.empty _ _, by (repeat' (first | (with_reducible exact Below.refl _ _) | (with_reducible assumption) | (with_reducible refine Below.drew ?_) | (with_reducible refine belowDrewN ?_ _) | (with_reducible refine Below.alloc ?_ ?_ _) | (with_reducible refine Below.setCell ?_ ?_ _) | (with_reducible refine belowStep (by assumption) ?_ ?_) | (with_reducible exact Below.size (by assumption)) | go_size))⟩
end Go.Proofs.Ytbjblkfibinenac
