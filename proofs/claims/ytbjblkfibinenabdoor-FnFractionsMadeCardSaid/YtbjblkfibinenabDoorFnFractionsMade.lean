
/-
  For all bytes: numbers and a text are drawn; a made fraction is in lowest terms and is read back from its text, and a read one has the text. Conditions: the library's tables and sentinels hold what its initialisers lay.
-/
import Derived.Test.YtbjblkfibinenabDoorShellD
import Derived.Test.YtbjblkfibinenabDoorTie
import Derived.Test.YtbjblkfibinenabDoorCards
import Derived.SevenTiedAt
import Derived.Test.YtbjblkfibinenabDoorDrawS
import Derived.Test.YtbjblkfibinenabDoorDrawMk
import Derived.Test.YtbjblkfibinenabDoorShell
import Derived.Test.YtbjblkfibinenabDoorLawK
namespace Go.Proofs.YtbjblkfibinenabDoor
open Go.ChangeShapes Go.WideShapes Go.ChangeAt Go.RowKit Go.Joins Go.Deep
theorem red_good {n d : Int} (h : goodB n d = true) : redN n d = n ∧ redD n d = d ∧ redB n d = true := by
  obtain ⟨h1, h2, h3, h4, h5⟩ := (goodB_iff n d).1 h
  obtain ⟨e1, e2⟩ := red_one h5
  have hb : redB n d = true := redB_yes (by rw [e1]; exact h2) (by rw [e2]; exact h4)
  exact ⟨by rw [redN, if_pos hb, e1], by rw [redD, if_pos hb, e2], hb⟩
theorem red_fail {n d : Int} (h : redB n d = false) : redN n d = 0 ∧ redD n d = 0 := by
  constructor
  · rw [redN, h]; rfl
  · rw [redD, h]; rfl
theorem make_ex (n d : Int) (_ : -9223372036854775808 ≤ n ∧ n ≤ 9223372036854775807) (_ : -9223372036854775808 ≤ d ∧ d ≤ 9223372036854775807) : ∃ (a b : Int) (fine : Bool), (∀ w, Calls Tryd.prog 21 #[.int .i64 n, .int .i64 d] w (RetFB a b fine w)) ∧ (∀ w, Calls Tryd.prog 22 #[.int .i64 n, .int .i64 d] w (RetFB a b fine w)) ∧ (fine = true → goodB a b = true) := by
  by_cases h : 0 ≤ n ∧ n ≤ 1000000000000000000 ∧ 1 ≤ d ∧ d ≤ 1000000000000000000
  · refine ⟨redN n d, redD n d, redB n d, fun w => make_yes n d w h.1 h.2.2.1 h.2.1 h.2.2.2, fun w => spec_make_yes n d w h.1 h.2.2.1 h.2.1 h.2.2.2, fun hr => ?_⟩
    rw [redN, redD, if_pos hr, if_pos hr, good_red h.1 h.2.2.1, hr]
  · exact ⟨0, 0, false, fun w => make_no n d w h, fun w => spec_make_no n d w h, fun h => by cases h⟩
theorem parse_ex (s : ByteArray) (hs : s.size ≤ 1048576) : ∃ (p q : Int) (one : Bool), (∀ w, EnvA w → Calls Tryd.prog 24 #[.string s] w (RetFB p q one w)) ∧ (∀ w, Calls Tryd.prog 25 #[.string s] w (RetFB p q one w)) ∧ (one = true → goodB p q = true ∧ textF p q = s.data.toList) := by
  cases hp : progF s.data.toList with
  | none => exact ⟨0, 0, false, fun w hE => parseF_no s w hs hp hE, fun w => (spec_parseF_any s w hs).2 hp, fun h => by cases h⟩
  | some x =>
    obtain ⟨n, d⟩ := x
    exact ⟨n, d, true, fun w hE => parseF_yes s n d w hs hp hE, fun w => (spec_parseF_any s w hs).1 n d hp, fun _ => (progF_iff _ _ _).1 hp⟩
theorem text_len (a b : Int) (h : goodB a b = true) : (textF a b).length ≤ 41 := by
  obtain ⟨g1, g2, g3, g4⟩ := good_bounds h
  have h1 := dec_len20 a (by omega) (by omega)
  have h2 := dec_len20 b (by omega) (by omega)
  unfold textF
  split
  · omega
  · simp only [List.length_append, List.length_singleton]; omega
set_option maxRecDepth 100000 in
set_option maxHeartbeats 32000000 in
theorem FnFractionsMade_walk (w : World) (A : Option Addr) (c n0 : Nat) (B : Option Addr) (c' m0 : Nat) (hA : ReadsB w A n0 ∧ n0 ≤ 9223372036854775807) (hB : ReadsB w B m0 ∧ m0 ≤ 9223372036854775807) (hE : EnvA w) :
    Calls Tryd.prog 6 #[.slice A n0 c, .slice B m0 c'] w (Ret (.bool true) w) := by
  obtain ⟨hA, hn⟩ := hA
  obtain ⟨hB, hm⟩ := hB
  have HA := Lib.hid hA
  have HB := Lib.hid hB
  have HE := Lib.hid hE
  clear hA hB hE
  cases hbig : bigB n0 m0 with
  | true =>
    go_enter Tryd.func6, Tryd.ntmps6
    go_wp2_with fail
    refine (big_any _ _ _ _ _ _ _ hn hm).mono ?_; rintro e w1 ⟨rfl, k1, rfl⟩
    go_wp2
    go_ret
    exact ⟨rfl, by (repeat' (first | (with_reducible exact Below.refl _ _) | (with_reducible assumption) | (with_reducible refine Below.drew ?_) | (with_reducible refine belowDrewN ?_ _) | (with_reducible refine Below.alloc ?_ ?_ _) | (with_reducible refine Below.setCell ?_ ?_ _) | (with_reducible refine belowStep (by assumption) ?_ ?_) | (with_reducible exact Below.size (by assumption)) | go_size))⟩
  | false =>
    have hn2 : n0 ≤ 1048576 := by
      simp only [bigB, Bool.or_eq_false_iff, decide_eq_false_iff_not] at hbig
      omega
    have hm2 : m0 ≤ 1048576 := by
      simp only [bigB, Bool.or_eq_false_iff, decide_eq_false_iff_not] at hbig
      omega
    go_enter Tryd.func6, Tryd.ntmps6
    go_wp2_with fail
    refine (big_any _ _ _ _ _ _ _ hn hm).mono ?_; rintro e w1 ⟨rfl, k1, rfl⟩
    go_wp2_with fail
    refine (drawMake_any _ A n0 c (HA.out.below (by (repeat' (first | (with_reducible exact Below.refl _ _) | (with_reducible assumption) | (with_reducible refine Below.drew ?_) | (with_reducible refine belowDrewN ?_ _) | (with_reducible refine Below.alloc ?_ ?_ _) | (with_reducible refine Below.setCell ?_ ?_ _) | (with_reducible refine belowStep (by assumption) ?_ ?_) | (with_reducible exact Below.size (by assumption)) | go_size)))) hn2).mono ?_; rintro e w2 ⟨n, d, rfl, rn, rd, hb2⟩; have hz2 := hb2.size; (try simp only [World.heap_drewN] at hz2)
    clear hbig
    obtain ⟨a, b, fine, hi, hsp, hg⟩ := make_ex n d rn rd
    have HI := Lib.hid hi
    have HS := Lib.hid hsp
    have Hg := Lib.hid hg
    clear hi hsp hg
    go_wp2_with fail
    refine (HI.out _).mono ?_; rintro e w3 ⟨rfl, hb3⟩; have hz3 := hb3.size; (try simp only [World.size_alloc, World.size_setCell, World.size_drew, World.heap_drewN] at hz3)
    have TA := Lib.hid (TwoAt.new w3 (a) (b) 26)
    go_wp2_with fail
    refine (HS.out _).mono ?_; rintro e w4 ⟨rfl, hb4⟩; have hz4 := hb4.size; (try simp only [World.size_alloc] at hz4)
    have TA := Lib.hid (TA.out.below hb4)
    have TR := Lib.hid (TwoAt.new w4 (a) (b) 26)
    have TA := Lib.hid (TA.out.below ((Below.refl _ _).alloc (Nat.le_refl _) (.cells #[.int .i64 (a), .int .i64 (b)] 26)))
    obtain ⟨oA1, oA2, oA3, oA4, oA5⟩ := TA.out
    obtain ⟨oR1, oR2, oR3, oR4, oR5⟩ := TR.out
    go_wp2_with fail
    refine (drawParse_any _ B m0 c' (HB.out.below (by (repeat' (first | (with_reducible exact Below.refl _ _) | (with_reducible assumption) | (with_reducible refine Below.drew ?_) | (with_reducible refine belowDrewN ?_ _) | (with_reducible refine Below.alloc ?_ ?_ _) | (with_reducible refine Below.setCell ?_ ?_ _) | (with_reducible refine belowStep (by assumption) ?_ ?_) | (with_reducible exact Below.size (by assumption)) | go_size)))) hm2).mono ?_; rintro e w5 ⟨s, rfl, hsl, hb5⟩; have hz5 := hb5.size; (try simp only [World.size_alloc] at hz5)
    clear oA1 oA2 oA3 oA4 oA5
    clear oR1 oR2 oR3 oR4 oR5
    have TA := Lib.hid (TA.out.below hb5)
    obtain ⟨p, q, one, pi, ps, pg⟩ := parse_ex s (by omega)
    have PI := Lib.hid pi
    have PS := Lib.hid ps
    have Pg := Lib.hid pg
    clear pi ps pg TR
    go_wp2_with fail
    refine (PI.out _ (HE.out.below (by (repeat' (first | (with_reducible exact Below.refl _ _) | (with_reducible assumption) | (with_reducible refine Below.drew ?_) | (with_reducible refine belowDrewN ?_ _) | (with_reducible refine Below.alloc ?_ ?_ _) | (with_reducible refine Below.setCell ?_ ?_ _) | (with_reducible refine belowStep (by assumption) ?_ ?_) | (with_reducible exact Below.size (by assumption)) | go_size))))).mono ?_; rintro e w6 ⟨rfl, hb6⟩; have hz6 := hb6.size; (try simp only [World.size_alloc, World.size_setCell, World.size_drew, World.heap_drewN] at hz6)
    have TA := Lib.hid (TA.out.below hb6)
    have TP := Lib.hid (TwoAt.new w6 (p) (q) 26)
    have TA := Lib.hid (TA.out.below ((Below.refl _ _).alloc (Nat.le_refl _) (.cells #[.int .i64 (p), .int .i64 (q)] 26)))
    go_wp2_with fail
    refine (PS.out _).mono ?_; rintro e w7 ⟨rfl, hb7⟩; have hz7 := hb7.size; (try simp only [World.size_alloc] at hz7)
    have TA := Lib.hid (TA.out.below hb7)
    have TP := Lib.hid (TP.out.below hb7)
    have TW := Lib.hid (TwoAt.new w7 (p) (q) 26)
    have TA := Lib.hid (TA.out.below ((Below.refl _ _).alloc (Nat.le_refl _) (.cells #[.int .i64 (p), .int .i64 (q)] 26)))
    have TP := Lib.hid (TP.out.below ((Below.refl _ _).alloc (Nat.le_refl _) (.cells #[.int .i64 (p), .int .i64 (q)] 26)))
    obtain ⟨oP1, oP2, oP3, oP4, oP5⟩ := TP.out
    obtain ⟨oW1, oW2, oW3, oW4, oW5⟩ := TW.out
    cases hone : one with
    | true =>
      obtain ⟨hgp, htp⟩ := Pg.out hone
      have Hgp := Lib.hid hgp
      have ht1 : (textF p q == s.toList) = true := by rw [ByteArray.toList_eq, htp]; simp
      have ht2 : (textF p q != s.toList) = false := by simp only [bne, ht1]; rfl
      subst hone
      clear hgp htp
      go_wp2_with fail
      refine (text_yes p q _ Hgp.out ((HE.out.below (by (repeat' (first | (with_reducible exact Below.refl _ _) | (with_reducible assumption) | (with_reducible refine Below.drew ?_) | (with_reducible refine belowDrewN ?_ _) | (with_reducible refine Below.alloc ?_ ?_ _) | (with_reducible refine Below.setCell ?_ ?_ _) | (with_reducible refine belowStep (by assumption) ?_ ?_) | (with_reducible exact Below.size (by assumption)) | go_size)))).1)).mono ?_; rintro e w8 ⟨rfl, hb8⟩; have hz8 := hb8.size; (try simp only [World.size_alloc] at hz8)
      clear oP1 oP2 oP3 oP4 oP5
      clear oW1 oW2 oW3 oW4 oW5
      have TA := Lib.hid (TA.out.below hb8)
      cases hfine : fine with
      | true =>
        have hga := Hg.out hfine
        subst hfine
        have HM2 := Lib.hid (fun w => by
          have h := make_yes a b w (good_bounds hga).1 (good_bounds hga).2.2.1 (by have := (good_bounds hga).2.1; omega) (by have := (good_bounds hga).2.2.2; omega)
          rw [(red_good hga).1, (red_good hga).2.1, (red_good hga).2.2] at h
          exact h)
        have hsz : (⟨(textF a b).toArray⟩ : ByteArray).size ≤ 1048576 := by rw [mk_size]; have := text_len a b hga; omega
        have HPT : Hid (progF (⟨(textF a b).toArray⟩ : ByteArray).data.toList = some (a, b)) := by show progF _ = _; rw [mk_list]; exact (progF_iff _ _ _).2 ⟨hga, rfl⟩
        obtain ⟨ga1, ga2, ga3, ga4⟩ := good_bounds hga
        have Hga := Lib.hid hga
        clear hga
        obtain ⟨oA1, oA2, oA3, oA4, oA5⟩ := TA.out
        go_wp2_with fail
        refine (text_yes a b _ Hga.out ((HE.out.below (by (repeat' (first | (with_reducible exact Below.refl _ _) | (with_reducible assumption) | (with_reducible refine Below.drew ?_) | (with_reducible refine belowDrewN ?_ _) | (with_reducible refine Below.alloc ?_ ?_ _) | (with_reducible refine Below.setCell ?_ ?_ _) | (with_reducible refine belowStep (by assumption) ?_ ?_) | (with_reducible exact Below.size (by assumption)) | go_size)))).1)).mono ?_; rintro e w9 ⟨rfl, hb9⟩; have hz9 := hb9.size; (try simp only [World.size_alloc, World.size_setCell, World.size_drew, World.heap_drewN] at hz9)
        clear oA1 oA2 oA3 oA4 oA5
        have TA := Lib.hid (TA.out.below hb9)
        go_wp2_with fail
        refine (parseF_yes ⟨(textF a b).toArray⟩ a b _ hsz HPT.out (HE.out.below (by (repeat' (first | (with_reducible exact Below.refl _ _) | (with_reducible assumption) | (with_reducible refine Below.drew ?_) | (with_reducible refine belowDrewN ?_ _) | (with_reducible refine Below.alloc ?_ ?_ _) | (with_reducible refine Below.setCell ?_ ?_ _) | (with_reducible refine belowStep (by assumption) ?_ ?_) | (with_reducible exact Below.size (by assumption)) | go_size))))).mono ?_; rintro e w10 ⟨rfl, hb10⟩; have hz10 := hb10.size; (try simp only [World.size_alloc, World.size_setCell, World.size_drew, World.heap_drewN] at hz10)
        have TA := Lib.hid (TA.out.below hb10)
        have TK := Lib.hid (TwoAt.new w10 (a) (b) 26)
        have TA := Lib.hid (TA.out.below ((Below.refl _ _).alloc (Nat.le_refl _) (.cells #[.int .i64 (a), .int .i64 (b)] 26)))
        obtain ⟨oA1, oA2, oA3, oA4, oA5⟩ := TA.out
        go_wp2_with fail
        refine (HM2.out _).mono ?_; rintro e w11 ⟨rfl, hb11⟩; have hz11 := hb11.size; (try simp only [World.size_alloc] at hz11)
        clear oA1 oA2 oA3 oA4 oA5
        have TA := Lib.hid (TA.out.below hb11)
        have TK := Lib.hid (TK.out.below hb11)
        have TG := Lib.hid (TwoAt.new w11 (a) (b) 26)
        have TA := Lib.hid (TA.out.below ((Below.refl _ _).alloc (Nat.le_refl _) (.cells #[.int .i64 (a), .int .i64 (b)] 26)))
        have TK := Lib.hid (TK.out.below ((Below.refl _ _).alloc (Nat.le_refl _) (.cells #[.int .i64 (a), .int .i64 (b)] 26)))
        obtain ⟨oA1, oA2, oA3, oA4, oA5⟩ := TA.out
        go_wp2_with fail
        refine (isFraction_any a b _ (by omega) (by omega) (by omega) (by omega)).mono ?_; rintro e w12 ⟨rfl, hb12⟩; have hz12 := hb12.size; (try simp only [World.size_alloc] at hz12)
        rw [Hga.out]
        clear oA1 oA2 oA3 oA4 oA5
        have TA := Lib.hid (TA.out.below hb12)
        have TK := Lib.hid (TK.out.below hb12)
        have TG := Lib.hid (TG.out.below hb12)
        obtain ⟨oA1, oA2, oA3, oA4, oA5⟩ := TA.out
        obtain ⟨oK1, oK2, oK3, oK4, oK5⟩ := TK.out
        obtain ⟨oG1, oG2, oG3, oG4, oG5⟩ := TG.out
        go_wp2
        go_ret
        exact ⟨rfl, by (repeat' (first | (with_reducible exact Below.refl _ _) | (with_reducible assumption) | (with_reducible refine Below.drew ?_) | (with_reducible refine belowDrewN ?_ _) | (with_reducible refine Below.alloc ?_ ?_ _) | (with_reducible refine Below.setCell ?_ ?_ _) | (with_reducible refine belowStep (by assumption) ?_ ?_) | (with_reducible exact Below.size (by assumption)) | go_size))⟩
      | false =>
        subst hfine
        go_wp2
        go_ret
        exact ⟨rfl, by (repeat' (first | (with_reducible exact Below.refl _ _) | (with_reducible assumption) | (with_reducible refine Below.drew ?_) | (with_reducible refine belowDrewN ?_ _) | (with_reducible refine Below.alloc ?_ ?_ _) | (with_reducible refine Below.setCell ?_ ?_ _) | (with_reducible refine belowStep (by assumption) ?_ ?_) | (with_reducible exact Below.size (by assumption)) | go_size))⟩
    | false =>
      subst hone
      cases hfine : fine with
      | true =>
        have hga := Hg.out hfine
        subst hfine
        have HM2 := Lib.hid (fun w => by
          have h := make_yes a b w (good_bounds hga).1 (good_bounds hga).2.2.1 (by have := (good_bounds hga).2.1; omega) (by have := (good_bounds hga).2.2.2; omega)
          rw [(red_good hga).1, (red_good hga).2.1, (red_good hga).2.2] at h
          exact h)
        have hsz : (⟨(textF a b).toArray⟩ : ByteArray).size ≤ 1048576 := by rw [mk_size]; have := text_len a b hga; omega
        have HPT : Hid (progF (⟨(textF a b).toArray⟩ : ByteArray).data.toList = some (a, b)) := by show progF _ = _; rw [mk_list]; exact (progF_iff _ _ _).2 ⟨hga, rfl⟩
        obtain ⟨ga1, ga2, ga3, ga4⟩ := good_bounds hga
        have Hga := Lib.hid hga
        clear hga
        obtain ⟨oA1, oA2, oA3, oA4, oA5⟩ := TA.out
        go_wp2_with fail
        refine (text_yes a b _ Hga.out ((HE.out.below (by (repeat' (first | (with_reducible exact Below.refl _ _) | (with_reducible assumption) | (with_reducible refine Below.drew ?_) | (with_reducible refine belowDrewN ?_ _) | (with_reducible refine Below.alloc ?_ ?_ _) | (with_reducible refine Below.setCell ?_ ?_ _) | (with_reducible refine belowStep (by assumption) ?_ ?_) | (with_reducible exact Below.size (by assumption)) | go_size)))).1)).mono ?_; rintro e w9 ⟨rfl, hb9⟩; have hz9 := hb9.size; (try simp only [World.size_alloc] at hz9)
        clear oA1 oA2 oA3 oA4 oA5
        have TA := Lib.hid (TA.out.below hb9)
        go_wp2_with fail
        refine (parseF_yes ⟨(textF a b).toArray⟩ a b _ hsz HPT.out (HE.out.below (by (repeat' (first | (with_reducible exact Below.refl _ _) | (with_reducible assumption) | (with_reducible refine Below.drew ?_) | (with_reducible refine belowDrewN ?_ _) | (with_reducible refine Below.alloc ?_ ?_ _) | (with_reducible refine Below.setCell ?_ ?_ _) | (with_reducible refine belowStep (by assumption) ?_ ?_) | (with_reducible exact Below.size (by assumption)) | go_size))))).mono ?_; rintro e w10 ⟨rfl, hb10⟩; have hz10 := hb10.size; (try simp only [World.size_alloc, World.size_setCell, World.size_drew, World.heap_drewN] at hz10)
        have TA := Lib.hid (TA.out.below hb10)
        have TK := Lib.hid (TwoAt.new w10 (a) (b) 26)
        have TA := Lib.hid (TA.out.below ((Below.refl _ _).alloc (Nat.le_refl _) (.cells #[.int .i64 (a), .int .i64 (b)] 26)))
        obtain ⟨oA1, oA2, oA3, oA4, oA5⟩ := TA.out
        go_wp2_with fail
        refine (HM2.out _).mono ?_; rintro e w11 ⟨rfl, hb11⟩; have hz11 := hb11.size; (try simp only [World.size_alloc] at hz11)
        clear oA1 oA2 oA3 oA4 oA5
        have TA := Lib.hid (TA.out.below hb11)
        have TK := Lib.hid (TK.out.below hb11)
        have TG := Lib.hid (TwoAt.new w11 (a) (b) 26)
        have TA := Lib.hid (TA.out.below ((Below.refl _ _).alloc (Nat.le_refl _) (.cells #[.int .i64 (a), .int .i64 (b)] 26)))
        have TK := Lib.hid (TK.out.below ((Below.refl _ _).alloc (Nat.le_refl _) (.cells #[.int .i64 (a), .int .i64 (b)] 26)))
        obtain ⟨oA1, oA2, oA3, oA4, oA5⟩ := TA.out
        go_wp2_with fail
        refine (isFraction_any a b _ (by omega) (by omega) (by omega) (by omega)).mono ?_; rintro e w12 ⟨rfl, hb12⟩; have hz12 := hb12.size; (try simp only [World.size_alloc] at hz12)
        rw [Hga.out]
        clear oA1 oA2 oA3 oA4 oA5
        have TA := Lib.hid (TA.out.below hb12)
        have TK := Lib.hid (TK.out.below hb12)
        have TG := Lib.hid (TG.out.below hb12)
        obtain ⟨oA1, oA2, oA3, oA4, oA5⟩ := TA.out
        obtain ⟨oK1, oK2, oK3, oK4, oK5⟩ := TK.out
        obtain ⟨oG1, oG2, oG3, oG4, oG5⟩ := TG.out
        go_wp2
        go_ret
        exact ⟨rfl, by (repeat' (first | (with_reducible exact Below.refl _ _) | (with_reducible assumption) | (with_reducible refine Below.drew ?_) | (with_reducible refine belowDrewN ?_ _) | (with_reducible refine Below.alloc ?_ ?_ _) | (with_reducible refine Below.setCell ?_ ?_ _) | (with_reducible refine belowStep (by assumption) ?_ ?_) | (with_reducible exact Below.size (by assumption)) | go_size))⟩
      | false =>
        subst hfine
        go_wp2
        go_ret
        exact ⟨rfl, by (repeat' (first | (with_reducible exact Below.refl _ _) | (with_reducible assumption) | (with_reducible refine Below.drew ?_) | (with_reducible refine belowDrewN ?_ _) | (with_reducible refine Below.alloc ?_ ?_ _) | (with_reducible refine Below.setCell ?_ ?_ _) | (with_reducible refine belowStep (by assumption) ?_ ?_) | (with_reducible exact Below.size (by assumption)) | go_size))⟩

theorem FnFractionsMade_door (os : Os) (args : Array Value) : laidMetH Tryd.prog Rows.fnFractionsMadeRow.laid ((World.doorLaid Tryd.prog 400 os).forCall (fun _ _ => 0) ⟨#[], args, []⟩).memory :=
  laidMetH_of_parts3 (fuel := 8) (laidMet_of_run' 8 (by kernel_rfl) (by kernel_rfl)) (by kernel_rfl) (by kernel_rfl)
set_option maxRecDepth 100000 in
theorem FnFractionsMade_lifted (os : Os) (started : os.Started) (H : Type) (enc : TypeId × Value → H) :
    ReturnsInHanded {} Tryd.checked os 6 .any (fun w args => (Rows.fnFractionsMadeSpec.pre enc Tryd.prog Tryd.f6 Rows.fnFractionsMadeRow.domain false w args ∧ laidMetH Tryd.prog Rows.fnFractionsMadeRow.laid w) ∧ sizedMet enc Tryd.prog Tryd.f6 (OpenSpec.ofChange Rows.fnFractionsMadeSpec) false w args)
      (Rows.fnFractionsMadeSpec.post enc Tryd.prog Tryd.f6 false true false false) := by
  refine handed_and_shaped (C := Tryd.checked) (X := fun w _ => laidMetH Tryd.prog Rows.fnFractionsMadeRow.laid w) (fun _ _ _ hh h => h.of_heap hh) own started (by kernel_rfl) Tryd.func6
    (ChangeSpec.witness_shaped (enc := enc) (C := Tryd.checked) (os := os) (X := fun w _ => laidMetH Tryd.prog Rows.fnFractionsMadeRow.laid w) false (World.doorLaid Tryd.prog 400 os) #[.slice none 0 0, .slice none 0 0] 8 rfl (World.shaped_of_RefB (by kernel_rfl) (by kernel_rfl)) (by kernel_rfl) (by kernel_rfl) (by kernel_rfl) (FnFractionsMade_door os _)) ?_
  intro W base args ds gs before hval0 hW hcnd _ hL hsh _
  have hval : ∀ (j : Nat) t v, Tryd.f6.params[j]? = some t → args[j]? = some v → Value.okWide Tryd.prog W .any base t v := hval0
  have hW' := hW
  have hlt : ∀ p ∈ before, p.block < W.heap.size := fun p hp => hW'.lt p hp
  obtain ⟨p, q, hA0, hV, rfl, hfz, hnd⟩ := hW
  have hA : DataW.TrodAll enc Tryd.prog W 0 (fun _ => true) true Tryd.f6.params.toList args.toList ds p := hA0
  rw [Tryd.params6] at hA hval
  obtain ⟨v0, vs0, d0, ds0, p0, q0, hargs, rfl, rfl, h0, r0⟩ := trodAll_cons hA
  obtain ⟨v1, vs1, d1, ds1, p1, q1, rfl, rfl, rfl, h1, r1⟩ := trodAll_cons r0
  obtain ⟨rfl, rfl, rfl⟩ := trodAll_nil r1
  obtain rfl : args = #[v0, v1] := by cases args; simp_all
  obtain ⟨rfl, rfl⟩ := trodVars_none hV
  obtain ⟨Ax, cx, nx, rfl, hx⟩ := open_bytes_reads Tryd.underlying38 Tryd.underlying5 (by kernel_rfl) (hval 0 38 v0 rfl rfl) h0 (fun y hy => hlt y (by simp [hy]))
  obtain ⟨Ay, cy, ny, rfl, hy⟩ := open_bytes_reads Tryd.underlying38 Tryd.underlying5 (by kernel_rfl) (hval 1 38 v1 rfl rfl) h1 (fun y hy => hlt y (by simp [hy]))
  rw [MakeChecks.laidMetH_plain _ _ _ (by kernel_rfl)] at hL
  have hM : laidMet Tryd.prog Rows.fnFractionsMadeRow.laid W := hL
  have hE := EnvA.of_laid hsh (hM.tail.tail) (hM.tail.tail.tail) (hM.tail.tail.tail.tail)
  refine (FnFractionsMade_walk W Ax cx nx Ay cy ny hx hy hE).mono fun e W' ⟨he, hg⟩ => ?_
  subst he
  exact ⟨_, rfl, law_post laidOut (by rw [Tryd.params6]; intro t ht; simp only [List.mem_cons, List.not_mem_nil, or_false] at ht; rcases ht with rfl | rfl <;> exact ⟨by kernel_rfl, of_decide_eq_true (by kernel_rfl)⟩) (by kernel_rfl) Tryd.underlying4 rfl hW' rfl hg⟩

theorem FnFractionsMade_closed : joinedFacts Tryd.prog 6 Tryd.f6 Rows.fnFractionsMadeSpec Rows.fnFractionsMadeRow = true := by
  unfold joinedFacts
  rw [mayEnter_eq, lifts_eq, make_eq]
  kernel_rfl

theorem FnFractionsMade_holds : Rows.FnFractionsMadeSaid :=
  OpenClaim.holds_of_wide 6 Tryd.f6 rfl rfl rfl rfl rfl rfl rfl ⟨rfl, rfl, rfl, rfl, rfl⟩ rfl rfl rfl rfl rfl (by kernel_rfl) Tryd.func6 FnFractionsMade_closed
    (of_decide_eq_true (by kernel_rfl)) (by unfold Func.isWrapper; first | (rw [if_pos (by decide +kernel)]; kernel_rfl) | (rw [if_neg (by decide +kernel)]; exact ⟨rfl, rfl⟩))
    (fun os started H enc _ => FnFractionsMade_lifted os started H enc)

/-- the tied card -/
theorem FnFractionsMade_card : Rows.FnFractionsMadeCardSaid :=
  Claim7.holds_tied_plain_at .later [] [.data, .data, .data, .sentinel, .sentinel] true (true, "856a60893ec3144dd3a5641c29f08e47174cb0a673e70b31795700d2c8f28881") true
    FnFractionsMade_holds (fun _ h => by cases h) (by kernel_rfl) (fun _ h => by cases h) fnFractionsMade_row_tie rfl ⟨rfl, rfl⟩ (by kernel_rfl) rfl
    (fun f fn hf hfn => by
      obtain rfl : f = 6 := Option.some.inj ((show Tryd.prog.funcNamed "loop.example/g01107/laws.FnFractionsMade" = some 6 by kernel_rfl).symm.trans hf) |>.symm
      obtain rfl : fn = Tryd.f6 := (Option.some.inj (Tryd.func6.symm.trans hfn)).symm
      exact ⟨by kernel_rfl, fun j t ht => by
        rw [Tryd.params6] at ht
        have hm : t ∈ [38, 38] := by simpa using Array.mem_of_getElem? ht
        have hall : ([38, 38].all fun u => !Tryd.prog.wantsStandIn u) = true := by kernel_rfl
        exact (show Tryd.prog.wantsStandIn t = false by simpa using List.all_eq_true.1 hall t hm)⟩)
    (by kernel_rfl)

end Go.Proofs.YtbjblkfibinenabDoor
