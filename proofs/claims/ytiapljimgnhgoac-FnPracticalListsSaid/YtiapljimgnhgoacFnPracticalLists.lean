
/-
  For all bytes: practical numbers are listed in order, each next one follows, products of two of them are practical, and what is primitive has no practical quotient. No condition.
-/
import Derived.Test.YtiapljimgnhgoacDr4
import Derived.Test.YtiapljimgnhgoacPuC
import Derived.Test.YtiapljimgnhgoacPrimS
import Derived.Test.YtiapljimgnhgoacShell
import Derived.Test.YtiapljimgnhgoacNxC
namespace Go.Proofs.Ytiapljimgnhgoac
open Go.ChangeShapes Go.WideShapes Go.ChangeAt Go.RowKit Go.Joins Go.Deep
theorem puL_mem : ∀ {k x : Nat}, x ∈ puL k → 1 ≤ x ∧ x ≤ k ∧ brkO x = none
  | 0, x, h => by cases h
  | k + 1, x, h => by
    by_cases hb : brkO (k + 1) = none
    · rw [puL_yes hb, List.mem_append, List.mem_singleton] at h
      rcases h with h | rfl
      · obtain ⟨a, b, c⟩ := puL_mem h; exact ⟨a, by omega, c⟩
      · exact ⟨by omega, Nat.le_refl _, hb⟩
    · rw [puL_no hb] at h
      obtain ⟨a, b, c⟩ := puL_mem h
      exact ⟨a, by omega, c⟩
/-- behind the last one there is none -/
theorem puL_last : ∀ {k i x : Nat}, (puL k)[i]? = some x → (puL k).length = i + 1 → ∀ t, x < t → t ≤ k → ¬ brkO t = none
  | 0, i, x, h, _ => by simp [puL] at h
  | k + 1, i, x, h, hl => by
    intro t h1 h2
    by_cases hb : brkO (k + 1) = none
    · rw [puL_yes hb] at h hl
      rw [List.length_append, List.length_singleton] at hl
      rw [List.getElem?_append_right (by omega), show i - (puL k).length = 0 from by omega] at h
      injection h with h
      omega
    · rw [puL_no hb] at h hl
      by_cases ht : t = k + 1
      · subst ht; exact hb
      · exact puL_last h hl t h1 (by omega)
theorem nxF_skip : ∀ {j f m y : Nat}, m + j = y → j < f → brkO y = none → (∀ t, m ≤ t → t < y → ¬ brkO t = none) → nxF f m = some y
  | 0, f, m, y, h1, h2, h3, _ => by
    obtain ⟨g, rfl⟩ : ∃ g, f = g + 1 := ⟨f - 1, by omega⟩
    have : m = y := by omega
    subst this
    exact nxF_yes h3
  | j + 1, f, m, y, h1, h2, h3, h4 => by
    obtain ⟨g, rfl⟩ : ∃ g, f = g + 1 := ⟨f - 1, by omega⟩
    rw [nxF_no (h4 m (Nat.le_refl _) (by omega))]
    exact nxF_skip (j := j) (by omega) (by omega) h3 (fun t a b => h4 t (by omega) b)
theorem puL_next : ∀ {k i x y : Nat}, k ≤ 2000 → (puL k)[i]? = some x → (puL k)[i + 1]? = some y → nxO (x : Int) = some y
  | 0, i, x, y, _, h, _ => by simp [puL] at h
  | k + 1, i, x, y, hk, h, h' => by
    by_cases hb : brkO (k + 1) = none
    · rw [puL_yes hb] at h h'
      by_cases hi : i + 1 < (puL k).length
      · rw [List.getElem?_append_left (by omega)] at h
        rw [List.getElem?_append_left hi] at h'
        exact puL_next (by omega) h h'
      · have hlt : i + 1 < (puL k ++ [k + 1]).length := (List.getElem?_eq_some_iff.1 h').1
        rw [List.length_append, List.length_singleton] at hlt
        have hl : (puL k).length = i + 1 := by omega
        rw [List.getElem?_append_left (by omega)] at h
        rw [List.getElem?_append_right (by omega), show i + 1 - (puL k).length = 0 from by omega] at h'
        injection h' with h'
        obtain ⟨m1, m2, m3⟩ := puL_mem (List.mem_of_getElem? h)
        rw [nxO_yes (numB_of m1 (by omega))]
        exact nxF_skip (j := y - (x + 1)) (by omega) (by omega) (by rw [← h']; exact hb) (fun t a b => puL_last h hl t (by omega) (by omega))
    · rw [puL_no hb] at h h'
      exact puL_next (by omega) h h'
theorem pmF_all {N : Nat} {L : List (Nat × Nat)} (h : pmF N L = true) : ∀ x ∈ L, N ≠ x.1 → ¬ brkO (N / x.1) = none := by
  induction L with
  | nil => intro x hx; cases hx
  | cons y L ih =>
    intro x hx hn hb
    by_cases hy : brkO (N / y.1) = none ∧ N ≠ y.1
    · rw [pmF_yes hy.1 hy.2] at h; cases h
    · rw [pmF_no hy] at h
      rcases List.mem_cons.1 hx with rfl | hx
      · exact hy ⟨hb, hn⟩
      · exact ih h x hx hn hb
set_option maxHeartbeats 2000000 in
theorem zSame_any (w : World) (A B : Option Addr) (c d : Nat) (xs ys : List Int) (ha : Reads w A xs) (hb : Reads w B ys) (hl : xs.length ≤ 1048576) (hl2 : ys.length ≤ 1048576) :
    Calls Try.prog 12 #[.slice A xs.length c, .slice B ys.length d] w (RetQ (.bool (decide (xs = ys))) w) := by
  have HA := Lib.hid ha
  have HB := Lib.hid hb
  clear ha hb
  by_cases hlen : xs.length = ys.length
  · have h1 : xs.length ≤ ys.length := by omega
    have h2 : ys.length ≤ xs.length := by omega
    have Hlen := Lib.hid hlen
    have hne : (((xs.length : Nat) : Int) != ((ys.length : Nat) : Int)) = false := by simp; omega
    clear hlen
    go_enter Try.func12, Try.ntmps12
    go_wp2
    go_loopw [13] (fun v13 wr => ∃ k : Nat, k ≤ xs.length ∧ v13 = .int .i64 k ∧ xs.take k = ys.take k ∧ ∃ n, wr = w.drewN n) (fun v13 _ => xs.length - (intOf v13).toNat)
    case atStart => exact ⟨0, Nat.zero_le _, rfl, by simp, 0, rfl⟩
    case round =>
      obtain ⟨k, hk, rfl, ht, n, rfl⟩ := hrel
      have HT := Lib.hid ht
      clear ht
      by_cases hlt : k < xs.length
      · obtain ⟨b, o, x, rfl, _, hx, hcell⟩ := HA.out.at_ hlt
        obtain ⟨b', o', y, rfl, _, hy, hcell'⟩ := HB.out.at_ (show k < ys.length by omega)
        have hki : (k : Int) < (xs.length : Int) := by omega
        have hki2 : (k : Int) < (ys.length : Int) := by omega
        by_cases hxy : x = y
        · subst hxy
          have HT2 : Hid (xs.take (k + 1) = ys.take (k + 1)) := Lib.hid (by
            rw [List.take_add_one, List.take_add_one, HT.out, hx, hy])
          clear hx hy
          go_wp2
          go_quiet (fail)
          go_wp2
          go_roundw
          case rel => exact ⟨k + 1, by omega, by go_num, HT2.out, _, rfl⟩
          case measure => simp [intOf]; omega
        · have E : Hid (decide (xs = ys) = false) := Lib.hid (by
            refine decide_eq_false fun e => hxy ?_
            rw [e, hy] at hx
            injection hx with hx
            exact hx.symm)
          have hnb : (x != y) = true := by simp [hxy]
          clear hx hy hxy
          go_wp2
          go_quiet (fail)
          go_wp2
          go_ret
          exact ⟨ret_bool E.out.symm, _, World.drewN_drewN _ _ _⟩
      · obtain rfl : k = xs.length := by omega
        have E : Hid (decide (xs = ys) = true) := Lib.hid (by
          refine decide_eq_true ?_
          have := HT.out
          rw [List.take_length, Hlen.out, List.take_length] at this
          exact this)
        go_wp2
        go_ret
        exact ⟨ret_bool E.out.symm, n, rfl⟩
  · have E : Hid (decide (xs = ys) = false) := Lib.hid (decide_eq_false fun e => hlen (by rw [e]))
    have hne : (((xs.length : Nat) : Int) != ((ys.length : Nat) : Int)) = true := by simp; omega
    clear hlen
    go_enter Try.func12, Try.ntmps12
    go_wp2
    go_ret
    exact ⟨ret_bool E.out.symm, 0, rfl⟩
theorem pmB_true (y : Int) (h : pmB y = true) : ∃ N : Nat, y = (N : Int) ∧ 1 ≤ N ∧ N ≤ 2000 ∧ brkO N = none ∧ ∀ x ∈ pps N, N ≠ x.1 → ¬ brkO (N / x.1) = none := by
  unfold pmB at h
  rw [Bool.and_eq_true] at h
  have hn : numB y = true := by
    have := h.1
    unfold prcB at this
    rw [Bool.and_eq_true] at this
    exact this.1
  obtain ⟨N, rfl, h1, h2⟩ := numB_nat hn
  refine ⟨N, rfl, h1, h2, ?_, pmF_all h.2⟩
  have h3 := h.1
  rw [prcB_yes h1 h2] at h3
  cases hb : brkO N with
  | none => rfl
  | some x => rw [hb] at h3; cases h3
theorem puO_facts (x : Int) : ((puO x).getD []).length ≤ 2000 ∧ (∀ a ∈ (puO x).getD [], 1 ≤ a ∧ a ≤ 2000 ∧ brkO a = none) ∧ (∀ (i a b : Nat), ((puO x).getD [])[i]? = some a → ((puO x).getD [])[i + 1]? = some b → nxO (a : Int) = some b) := by
  refine ⟨puO_len x, ?_, ?_⟩
  · unfold puO
    split
    · rename_i h
      have h0 := (numB_iff x).1 h
      intro a ha
      obtain ⟨m1, m2, m3⟩ := puL_mem ha
      exact ⟨m1, by omega, m3⟩
    · intro a ha; simp at ha
  · unfold puO
    split
    · rename_i h
      have h0 := (numB_iff x).1 h
      intro i a b ha hb
      exact puL_next (by omega) ha hb
    · intro i a b ha; simp at ha
set_option maxRecDepth 100000 in
set_option maxHeartbeats 16000000 in
theorem pl_whole (w : World) (A : Option Addr) (c n : Nat) (B : Option Addr) (d m' : Nat) (hbig : bigB n m' = false) (hn2 : n ≤ 1048576) (hm2 : m' ≤ 1048576)
    (hdr : ∀ w', Below w.heap.size w w' → Calls Try.prog 18 #[.slice A n c] w' (fun e w'' => ∃ x : Int, e = .returned (.int .i64 x) ∧ -1 ≤ x ∧ x ≤ 2001 ∧ Below w'.heap.size w' w''))
    (hdr2 : ∀ w', Below w.heap.size w w' → Calls Try.prog 22 #[.slice B m' d] w' (fun e w'' => ∃ x : Int, e = .returned (.int .i64 x) ∧ -1 ≤ x ∧ x ≤ 2001 ∧ Below w'.heap.size w' w'')) :
    Calls Try.prog 4 #[.slice A n c, .slice B m' d] w (Ret (.bool true) w) := by
  have HDR := Lib.hid hdr
  have HDR2 := Lib.hid hdr2
  have PRM := Lib.hid pmB_true
  have hn : n ≤ 9223372036854775807 := by omega
  have hm' : m' ≤ 9223372036854775807 := by omega
  clear hdr hdr2
  go_enter Try.func4, Try.ntmps4
  go_wp2_with fail
  refine (big_any _ _ _ _ _ _ _ hn hm').mono ?_; rintro e w1 ⟨rfl, k1, rfl⟩
  rw [hbig]
  clear hbig
  go_wp2_with fail
  refine (HDR.out _ (by (repeat' (first | (with_reducible exact Below.refl _ _) | (with_reducible assumption) | (with_reducible refine Below.drew ?_) | (with_reducible refine belowDrewN ?_ _) | (with_reducible refine Below.alloc ?_ ?_ _) | (with_reducible refine Below.setCell ?_ ?_ _) | (with_reducible refine belowStep (by assumption) ?_ ?_) | (with_reducible exact Below.size (by assumption)) | go_size)))).mono ?_; rintro e w2 ⟨x, rfl, x0, x1, hb2⟩
  have hz2 := hb2.size
  (try simp only [World.heap_drewN] at hz2)
  obtain ⟨hl, hmem, hnxt⟩ := puO_facts x
  have HMEM := Lib.hid hmem
  have HNXT := Lib.hid hnxt
  have PU1 : Hid (∀ w, Calls Try.prog 19 #[.int .i64 x] w (RetLB (ints ((puO x).getD [])) (puO x).isSome w)) := Lib.hid fun w => practicalsUpTo_any x w
  have PU2 : Hid (∀ w, Calls Try.prog 20 #[.int .i64 x] w (RetLB (ints ((puO x).getD [])) (puO x).isSome w)) := Lib.hid fun w => spec_practicalsUpTo_any x w
  clear hmem hnxt
  generalize (puO x).isSome = told at *
  generalize (puO x).getD [] = L at *
  have hle := ints_len L
  have hle1 : (ints L).length ≤ L.length := by omega
  have hle2 : L.length ≤ (ints L).length := by omega
  clear hle
  go_wp2_with fail
  refine (PU1.out _).mono ?_; rintro e w3 ⟨v3, rfl, ho3, hb3⟩; obtain ⟨A3, c3, rfl, hr3⟩ := ho3.form
  have hz3 := hb3.size
  have R3 := Lib.hid hr3
  clear ho3 hr3
  go_wp2_with fail
  refine (PU2.out _).mono ?_; rintro e w4 ⟨v4, rfl, ho4, hb4⟩; obtain ⟨A4, c4, rfl, hr4⟩ := ho4.form
  have hz4 := hb4.size
  have R4 := Lib.hid hr4
  clear ho4 hr4
  have HZ : Hid (∀ w, Reads w A3 (ints L) → Reads w A4 (ints L) → Calls Try.prog 12 #[.slice A3 (ints L).length c3, .slice A4 (ints L).length c4] w (RetQ (.bool true) w)) := Lib.hid fun w h h' => by
    have := zSame_any w A3 A4 c3 c4 (ints L) (ints L) h h' (by omega) (by omega)
    rwa [decide_eq_true rfl] at this
  have htt : (told != told) = false := by simp
  go_wp2_with fail
  refine (HZ.out _ (R3.out.below (by (repeat' (first | (with_reducible exact Below.refl _ _) | (with_reducible assumption) | (with_reducible refine Below.drew ?_) | (with_reducible refine belowDrewN ?_ _) | (with_reducible refine Below.alloc ?_ ?_ _) | (with_reducible refine Below.setCell ?_ ?_ _) | (with_reducible refine belowStep (by assumption) ?_ ?_) | (with_reducible exact Below.size (by assumption)) | go_size)))) R4.out).mono ?_; rintro e w5 ⟨rfl, k5, rfl⟩
  go_wp2
  go_loopw [62] (fun v62 wr => ∃ k : Nat, v62 = .int .i64 (k : Int) ∧ k ≤ L.length ∧ Below w4.heap.size w4 wr) (fun v62 _ => L.length - (intOf v62).toNat)
  case atStart => exact ⟨0, rfl, Nat.zero_le _, by (repeat' (first | (with_reducible exact Below.refl _ _) | (with_reducible assumption) | (with_reducible refine Below.drew ?_) | (with_reducible refine belowDrewN ?_ _) | (with_reducible refine Below.alloc ?_ ?_ _) | (with_reducible refine Below.setCell ?_ ?_ _) | (with_reducible refine belowStep (by assumption) ?_ ?_) | (with_reducible exact Below.size (by assumption)) | go_size))⟩
  case round =>
    obtain ⟨k, rfl, hk, hbr⟩ := hrel
    obtain ⟨wo, rfl⟩ : ∃ x : World, x = wr := ⟨_, rfl⟩
    have hzo := hbr.size
    have hbw : Below w.heap.size w wo := by (repeat' (first | (with_reducible exact Below.refl _ _) | (with_reducible assumption) | (with_reducible refine Below.drew ?_) | (with_reducible refine belowDrewN ?_ _) | (with_reducible refine Below.alloc ?_ ?_ _) | (with_reducible refine Below.setCell ?_ ?_ _) | (with_reducible refine belowStep (by assumption) ?_ ?_) | (with_reducible exact Below.size (by assumption)) | go_size))
    have R9 := Lib.hid ((R3.out.below (show Below w3.heap.size w3 w4 by (repeat' (first | (with_reducible exact Below.refl _ _) | (with_reducible assumption) | (with_reducible refine Below.drew ?_) | (with_reducible refine belowDrewN ?_ _) | (with_reducible refine Below.alloc ?_ ?_ _) | (with_reducible refine Below.setCell ?_ ?_ _) | (with_reducible refine belowStep (by assumption) ?_ ?_) | (with_reducible exact Below.size (by assumption)) | go_size)))).below hbr)
    by_cases hlt : k < L.length
    · obtain ⟨b, o, z, rfl, hbb, hx, hcell⟩ := R9.out.at_ (show k < (ints L).length by omega)
      obtain ⟨a, rfl, ha⟩ := ints_at hx
      obtain ⟨a1, a2, a3⟩ := HMEM.out a (List.mem_of_getElem? ha)
      have hki : (k : Int) < ((ints L).length : Int) := by omega
      by_cases hk1 : k + 1 < L.length
      · obtain ⟨b', o', z', e', hbb', hx', hcell'⟩ := R9.out.at_ (show k + 1 < (ints L).length by omega)
        injection e' with e'
        injection e' with eb eo _
        subst eb eo
        obtain ⟨y, rfl, hy⟩ := ints_at hx'
        obtain ⟨y1, y2, y3⟩ := HMEM.out y (List.mem_of_getElem? hy)
        have hnx := HNXT.out k a y ha hy
        have HNP : Hid (∀ w, Calls Try.prog 21 #[.int .i64 (a : Int)] w (Ret (.tuple #[.int .i64 (y : Int), .bool true]) w)) := Lib.hid fun w => by
          have := nextPractical_any (a : Int) w
          rwa [hnx] at this
        have hk1' : (k : Int) + 1 < ((ints L).length : Int) := by omega
        have hk1n : IntKind.i64.wrap ((k : Int) + 1) = ((k + 1 : Nat) : Int) := by rw [IntWalk.i64_in _ (by omega)]; omega
        have hk2 : ((k + 1 : Nat) : Int) < ((ints L).length : Int) := by omega
        clear hx ha hx' hy hnx a3 y3
        by_cases h40 : k < 40
        · have h40' : (k : Int) < 40 := by omega
          go_wp2_with fail
          refine (HNP.out _).mono ?_; rintro e w6 ⟨rfl, hb6⟩; have hz6 := hb6.size; (try simp only [World.size_alloc, World.size_setCell, World.size_drew, World.heap_drewN] at hz6)
          have hc6 := ((bcell hb6).1 b (o + (k + 1)) hbb').trans hcell'
          go_wp2
          go_roundw
          case rel => exact ⟨k + 1, by go_num, by omega, by (repeat' (first | (with_reducible exact Below.refl _ _) | (with_reducible assumption) | (with_reducible refine Below.drew ?_) | (with_reducible refine belowDrewN ?_ _) | (with_reducible refine Below.alloc ?_ ?_ _) | (with_reducible refine Below.setCell ?_ ?_ _) | (with_reducible refine belowStep (by assumption) ?_ ?_) | (with_reducible exact Below.size (by assumption)) | go_size))⟩
          case measure => simp [intOf]; omega
        · have h40' : ¬ (k : Int) < 40 := by omega
          go_wp2
          go_roundw
          case rel => exact ⟨k + 1, by go_num, by omega, by (repeat' (first | (with_reducible exact Below.refl _ _) | (with_reducible assumption) | (with_reducible refine Below.drew ?_) | (with_reducible refine belowDrewN ?_ _) | (with_reducible refine Below.alloc ?_ ?_ _) | (with_reducible refine Below.setCell ?_ ?_ _) | (with_reducible refine belowStep (by assumption) ?_ ?_) | (with_reducible exact Below.size (by assumption)) | go_size))⟩
          case measure => simp [intOf]; omega
      · have hk1' : ¬ (k : Int) + 1 < ((ints L).length : Int) := by omega
        clear hx ha a3
        go_wp2
        go_roundw
        case rel => exact ⟨k + 1, by go_num, by omega, by (repeat' (first | (with_reducible exact Below.refl _ _) | (with_reducible assumption) | (with_reducible refine Below.drew ?_) | (with_reducible refine belowDrewN ?_ _) | (with_reducible refine Below.alloc ?_ ?_ _) | (with_reducible refine Below.setCell ?_ ?_ _) | (with_reducible refine belowStep (by assumption) ?_ ?_) | (with_reducible exact Below.size (by assumption)) | go_size))⟩
        case measure => simp [intOf]; omega
    · obtain rfl : k = L.length := by omega
      have hki : ¬ ((L.length : Nat) : Int) < ((ints L).length : Int) := by omega
      by_cases hl1 : 1 < L.length
      · have hl1' : (1 : Int) < ((ints L).length : Int) := by omega
        obtain ⟨s, hs⟩ : ∃ s, s = n + m' := ⟨_, rfl⟩
        have hr1 := Nat.mod_lt s (show 0 < (ints L).length by omega)
        have hr2 := Nat.mod_lt m' (show 0 < (ints L).length by omega)
        obtain ⟨b, o, z, rfl, hbb, hx, hcell⟩ := R9.out.at_ hr1
        obtain ⟨b', o', z', e', hbb', hx', hcell'⟩ := R9.out.at_ hr2
        injection e' with e'
        injection e' with eb eo _
        subst eb eo
        obtain ⟨a, rfl, ha⟩ := ints_at hx
        obtain ⟨y, rfl, hy⟩ := ints_at hx'
        obtain ⟨a1, a2, a3⟩ := HMEM.out a (List.mem_of_getElem? ha)
        obtain ⟨y1, y2, y3⟩ := HMEM.out y (List.mem_of_getElem? hy)
        obtain ⟨e1, e2, _, _⟩ := @remv s (ints L).length
        obtain ⟨e3, e4, _, _⟩ := @remv m' (ints L).length
        have hLz : ((ints L).length : Int) ≠ 0 := by omega
        have hLzN : (ints L).length ≠ 0 := by omega
        have hsum : (n : Int) + (m' : Int) = (s : Int) := by omega
        have hws : IntKind.i64.wrap ((n : Int) + (m' : Int)) = (s : Int) := by rw [IntWalk.i64_in _ (by omega)]; omega
        have hmul : a * y ≤ 4000000 := Nat.le_trans (Nat.mul_le_mul a2 y2) (by decide)
        have hpos : 1 ≤ a * y := Nat.mul_pos a1 y1
        have hmi : (a : Int) * (y : Int) = ((a * y : Nat) : Int) := (Int.natCast_mul a y).symm
        have hwm : IntKind.i64.wrap ((a : Int) * (y : Int)) = ((a * y : Nat) : Int) := by rw [hmi]; exact IntWalk.i64_in _ (by omega)
        have HFM := Lib.hid fun (h : a * y ≤ 2000) => (full_iff hpos h).1 (full_mul a1 y1 h ((full_iff a1 a2).2 a3) ((full_iff y1 y2).2 y3))
        have i1 : ((s % (ints L).length : Nat) : Int) < ((ints L).length : Int) := by omega
        have i2 : ((m' % (ints L).length : Nat) : Int) < ((ints L).length : Int) := by omega
        obtain ⟨r1, hr1e⟩ : ∃ r1, r1 = s % (ints L).length := ⟨_, rfl⟩
        obtain ⟨r2, hr2e⟩ : ∃ r2, r2 = m' % (ints L).length := ⟨_, rfl⟩
        rw [← hr1e] at e1 e2 i1 hcell hr1
        rw [← hr2e] at e3 e4 i2 hcell' hr2
        clear hx hx' ha hy a3 y3 hr1e hr2e hs
        by_cases hab : a * y ≤ 2000
        · have HBN := HFM.out hab
          have HIP : Hid (∀ w, Calls Try.prog 14 #[.int .i64 ((a * y : Nat) : Int)] w (Ret (.tuple #[.bool true, .bool true]) w)) := Lib.hid fun w => by
            have := isPractical_any ((a * y : Nat) : Int) w
            rwa [prcB_yes hpos hab, (isNone_yes HBN).1, numB_of hpos hab] at this
          clear HBN HFM
          generalize a * y = ay at *
          have hab' : (ay : Int) ≤ 2000 := by omega
          go_wp2
          go_quiet (fail)
          go_wp2_with fail
          refine (HIP.out _).mono ?_; rintro e w7 ⟨rfl, hb7⟩; have hz7 := hb7.size; (try simp only [World.size_alloc, World.size_setCell, World.size_drew, World.heap_drewN] at hz7)
          go_wp2_with fail
          go_wp2_with fail
          refine (HDR2.out _ (by (repeat' (first | (with_reducible exact Below.refl _ _) | (with_reducible assumption) | (with_reducible refine Below.drew ?_) | (with_reducible refine belowDrewN ?_ _) | (with_reducible refine Below.alloc ?_ ?_ _) | (with_reducible refine Below.setCell ?_ ?_ _) | (with_reducible refine belowStep (by assumption) ?_ ?_) | (with_reducible exact Below.size (by assumption)) | go_size)))).mono ?_; rintro e w21 ⟨y, rfl, y0, y1, hb21⟩
          have hz21 := hb21.size; (try simp only [World.size_alloc, World.size_setCell, World.size_drew, World.heap_drewN] at hz21)
          have hby : Below w.heap.size w w21 := by (repeat' (first | (with_reducible exact Below.refl _ _) | (with_reducible assumption) | (with_reducible refine Below.drew ?_) | (with_reducible refine belowDrewN ?_ _) | (with_reducible refine Below.alloc ?_ ?_ _) | (with_reducible refine Below.setCell ?_ ?_ _) | (with_reducible refine belowStep (by assumption) ?_ ?_) | (with_reducible exact Below.size (by assumption)) | go_size))
          have IP1 := Lib.hid fun (w : World) => isPrimitive_any y w
          have IP2 := Lib.hid fun (w : World) => spec_isPrimitive_any y w
          have NP1 : Hid (∀ w, Calls Try.prog 21 #[.int .i64 y] w (Ret (nxV (nxO y)) w)) := Lib.hid fun w => nextPractical_any y w
          have NP2 : Hid (∀ w, Calls Try.prog 25 #[.int .i64 y] w (Ret (nxV (nxO y)) w)) := Lib.hid fun w => spec_nextPractical_any y w
          unfold nxV at NP1 NP2
          generalize (((nxO y).getD 0 : Nat) : Int) = na at *
          generalize (nxO y).isSome = nb at *
          cases hpm : pmB y with
          | false =>
            rw [hpm] at IP1 IP2
            clear hpm
            generalize numB y = nt at *
            go_wp2_with fail
            refine (IP1.out _).mono ?_; rintro e w22 ⟨rfl, hb22⟩; have hz22 := hb22.size; (try simp only [World.size_alloc, World.size_setCell, World.size_drew, World.heap_drewN] at hz22)
            go_wp2_with fail
            refine (IP2.out _).mono ?_; rintro e w23 ⟨rfl, hb23⟩; have hz23 := hb23.size; (try simp only [World.size_alloc, World.size_setCell, World.size_drew, World.heap_drewN] at hz23)
            go_wp2_with fail
            refine (NP1.out _).mono ?_; rintro e w24 ⟨rfl, hb24⟩; have hz24 := hb24.size; (try simp only [World.size_alloc, World.size_setCell, World.size_drew, World.heap_drewN] at hz24)
            go_wp2_with fail
            refine (NP2.out _).mono ?_; rintro e w25 ⟨rfl, hb25⟩; have hz25 := hb25.size; (try simp only [World.size_alloc, World.size_setCell, World.size_drew, World.heap_drewN] at hz25)
            go_wp2
            go_ret
            exact ⟨rfl, by (repeat' (first | (with_reducible exact Below.refl _ _) | (with_reducible assumption) | (with_reducible refine Below.drew ?_) | (with_reducible refine belowDrewN ?_ _) | (with_reducible refine Below.alloc ?_ ?_ _) | (with_reducible refine Below.setCell ?_ ?_ _) | (with_reducible refine belowStep (by assumption) ?_ ?_) | (with_reducible exact Below.size (by assumption)) | go_size))⟩
          | true =>
            obtain ⟨N, rfl, g1, g2, g3, g4⟩ := PRM.out y hpm
            have HNO := Lib.hid g4
            have hnb : numB (N : Int) = true := numB_of g1 g2
            rw [hpm, hnb] at IP1 IP2
            have HI : Hid (∀ w, Calls Try.prog 14 #[.int .i64 (N : Int)] w (Ret (.tuple #[.bool true, .bool true]) w)) := Lib.hid fun w => by
              have := isPractical_any (N : Int) w
              rwa [prcB_yes g1 g2, (isNone_yes g3).1, hnb] at this
            have HPP : Hid (∀ w, Calls Try.prog 26 #[.int .i64 (N : Int)] w (RetPP (pps N) true w)) := Lib.hid fun w => by
              have := primePowers_any (N : Int) w
              rwa [ppO_yes hnb] at this
            have hL := ppO_len (N : Int)
            rw [ppO_yes hnb] at hL
            simp only [Option.getD_some] at hL
            have hf1 := fsts_len (pps N)
            clear hpm hnb g4 g3
            obtain ⟨ys, hys⟩ : ∃ ys, ys = fsts (pps N) := ⟨_, rfl⟩
            obtain ⟨f2, f3⟩ : (fsts (pps N)).length ≤ (pps N).length ∧ (pps N).length ≤ (fsts (pps N)).length := by omega
            unfold RetPP at HPP
            rw [← hys] at HPP f2 f3
            have Hys := Lib.hid hys
            clear hf1 hys
            go_wp2_with fail
            refine (IP1.out _).mono ?_; rintro e w22 ⟨rfl, hb22⟩; have hz22 := hb22.size; (try simp only [World.size_alloc, World.size_setCell, World.size_drew, World.heap_drewN] at hz22)
            go_wp2_with fail
            refine (IP2.out _).mono ?_; rintro e w23 ⟨rfl, hb23⟩; have hz23 := hb23.size; (try simp only [World.size_alloc, World.size_setCell, World.size_drew, World.heap_drewN] at hz23)
            go_wp2_with fail
            refine (NP1.out _).mono ?_; rintro e w24 ⟨rfl, hb24⟩; have hz24 := hb24.size; (try simp only [World.size_alloc, World.size_setCell, World.size_drew, World.heap_drewN] at hz24)
            go_wp2_with fail
            refine (NP2.out _).mono ?_; rintro e w25 ⟨rfl, hb25⟩; have hz25 := hb25.size; (try simp only [World.size_alloc, World.size_setCell, World.size_drew, World.heap_drewN] at hz25)
            go_wp2_with fail
            refine (HI.out _).mono ?_; rintro e w26 ⟨rfl, hb26⟩; have hz26 := hb26.size; (try simp only [World.size_alloc, World.size_setCell, World.size_drew, World.heap_drewN] at hz26)
            go_wp2_with fail
            refine (HPP.out _).mono ?_; rintro e w27 ⟨va, vb, rfl, hoa, hob, _, hb27⟩; obtain ⟨A27, c27, rfl, hra⟩ := hoa.form
            have hz27 := hb27.size
            have RA := Lib.hid hra
            have hbw27 : Below w.heap.size w w27 := by (repeat' (first | (with_reducible exact Below.refl _ _) | (with_reducible assumption) | (with_reducible refine Below.drew ?_) | (with_reducible refine belowDrewN ?_ _) | (with_reducible refine Below.alloc ?_ ?_ _) | (with_reducible refine Below.setCell ?_ ?_ _) | (with_reducible refine belowStep (by assumption) ?_ ?_) | (with_reducible exact Below.size (by assumption)) | go_size))
            clear hoa hob hra
            go_wp2
            go_loopw [192] (fun v192 wq => ∃ k : Nat, v192 = .int .i64 (k : Int) ∧ k ≤ ys.length ∧ Below w27.heap.size w27 wq) (fun v192 _ => ys.length - (intOf v192).toNat)
            case atStart => exact ⟨0, rfl, Nat.zero_le _, by (repeat' (first | (with_reducible exact Below.refl _ _) | (with_reducible assumption) | (with_reducible refine Below.drew ?_) | (with_reducible refine belowDrewN ?_ _) | (with_reducible refine Below.alloc ?_ ?_ _) | (with_reducible refine Below.setCell ?_ ?_ _) | (with_reducible refine belowStep (by assumption) ?_ ?_) | (with_reducible exact Below.size (by assumption)) | go_size))⟩
            case round =>
              obtain ⟨k, rfl, hk, hbs⟩ := hrel
              have hzs := hbs.size
              by_cases hlt : k < ys.length
              · obtain ⟨⟨p, m⟩, hx⟩ : ∃ x, (pps N)[k]? = some x := ⟨_, List.getElem?_eq_getElem (show k < (pps N).length by omega)⟩
                obtain ⟨hp1, hp2, hq1, hq2, hm1, hm2⟩ := quo_in g1 g2 hx
                obtain ⟨b8, o8, x8, rfl, hbb, hy, hcell⟩ := (RA.out.below hbs).at_ hlt
                rw [Hys.out, fsts_at hx] at hy
                injection hy with hy
                subst hy
                have hki : (k : Int) < (ys.length : Int) := by omega
                have hne : (p : Int) ≠ 0 := by omega
                have hneN : p ≠ 0 := by omega
                obtain ⟨_, _, e3, e4⟩ := @remv N p
                by_cases hNp : N = p
                · have hE : ((N : Int) == (p : Int)) = true := by simp [hNp]
                  clear hx hNp
                  go_wp2
                  go_roundw
                  case rel => exact ⟨k + 1, by go_num, by omega, by (repeat' (first | (with_reducible exact Below.refl _ _) | (with_reducible assumption) | (with_reducible refine Below.drew ?_) | (with_reducible refine belowDrewN ?_ _) | (with_reducible refine Below.alloc ?_ ?_ _) | (with_reducible refine Below.setCell ?_ ?_ _) | (with_reducible refine belowStep (by assumption) ?_ ?_) | (with_reducible exact Below.size (by assumption)) | go_size))⟩
                  case measure => simp [intOf]; omega
                · have hE : ((N : Int) == (p : Int)) = false := by simp; omega
                  have HIQ : Hid (∀ w, Calls Try.prog 14 #[.int .i64 ((N / p : Nat) : Int)] w (Ret (.tuple #[.bool false, .bool true]) w)) := Lib.hid fun w => by
                    have := isPractical_any ((N / p : Nat) : Int) w
                    rwa [prcB_yes hq1 hq2, (isNone_no (HNO.out (p, m) (List.mem_of_getElem? hx) hNp)).1, numB_of hq1 hq2] at this
                  clear hx hNp
                  generalize N / p = q at *
                  go_wp2_with fail
                  refine (HIQ.out _).mono ?_; rintro e w28 ⟨rfl, hb28⟩; have hz28 := hb28.size; (try simp only [World.size_alloc, World.size_setCell, World.size_drew, World.heap_drewN] at hz28)
                  go_wp2
                  go_roundw
                  case rel => exact ⟨k + 1, by go_num, by omega, by (repeat' (first | (with_reducible exact Below.refl _ _) | (with_reducible assumption) | (with_reducible refine Below.drew ?_) | (with_reducible refine belowDrewN ?_ _) | (with_reducible refine Below.alloc ?_ ?_ _) | (with_reducible refine Below.setCell ?_ ?_ _) | (with_reducible refine belowStep (by assumption) ?_ ?_) | (with_reducible exact Below.size (by assumption)) | go_size))⟩
                  case measure => simp [intOf]; omega
              · have hki : ¬ (k : Int) < (ys.length : Int) := by omega
                go_wp2
                go_ret
                exact ⟨rfl, by (repeat' (first | (with_reducible exact Below.refl _ _) | (with_reducible assumption) | (with_reducible refine Below.drew ?_) | (with_reducible refine belowDrewN ?_ _) | (with_reducible refine Below.alloc ?_ ?_ _) | (with_reducible refine Below.setCell ?_ ?_ _) | (with_reducible refine belowStep (by assumption) ?_ ?_) | (with_reducible exact Below.size (by assumption)) | go_size))⟩
        · clear HFM
          generalize a * y = ay at *
          have hab' : ¬ (ay : Int) ≤ 2000 := by omega
          go_wp2
          go_quiet (fail)
          go_wp2_with fail
          refine (HDR2.out _ (by (repeat' (first | (with_reducible exact Below.refl _ _) | (with_reducible assumption) | (with_reducible refine Below.drew ?_) | (with_reducible refine belowDrewN ?_ _) | (with_reducible refine Below.alloc ?_ ?_ _) | (with_reducible refine Below.setCell ?_ ?_ _) | (with_reducible refine belowStep (by assumption) ?_ ?_) | (with_reducible exact Below.size (by assumption)) | go_size)))).mono ?_; rintro e w21 ⟨y, rfl, y0, y1, hb21⟩
          have hz21 := hb21.size; (try simp only [World.size_alloc, World.size_setCell, World.size_drew, World.heap_drewN] at hz21)
          have hby : Below w.heap.size w w21 := by (repeat' (first | (with_reducible exact Below.refl _ _) | (with_reducible assumption) | (with_reducible refine Below.drew ?_) | (with_reducible refine belowDrewN ?_ _) | (with_reducible refine Below.alloc ?_ ?_ _) | (with_reducible refine Below.setCell ?_ ?_ _) | (with_reducible refine belowStep (by assumption) ?_ ?_) | (with_reducible exact Below.size (by assumption)) | go_size))
          have IP1 := Lib.hid fun (w : World) => isPrimitive_any y w
          have IP2 := Lib.hid fun (w : World) => spec_isPrimitive_any y w
          have NP1 : Hid (∀ w, Calls Try.prog 21 #[.int .i64 y] w (Ret (nxV (nxO y)) w)) := Lib.hid fun w => nextPractical_any y w
          have NP2 : Hid (∀ w, Calls Try.prog 25 #[.int .i64 y] w (Ret (nxV (nxO y)) w)) := Lib.hid fun w => spec_nextPractical_any y w
          unfold nxV at NP1 NP2
          generalize (((nxO y).getD 0 : Nat) : Int) = na at *
          generalize (nxO y).isSome = nb at *
          cases hpm : pmB y with
          | false =>
            rw [hpm] at IP1 IP2
            clear hpm
            generalize numB y = nt at *
            go_wp2_with fail
            refine (IP1.out _).mono ?_; rintro e w22 ⟨rfl, hb22⟩; have hz22 := hb22.size; (try simp only [World.size_alloc, World.size_setCell, World.size_drew, World.heap_drewN] at hz22)
            go_wp2_with fail
            refine (IP2.out _).mono ?_; rintro e w23 ⟨rfl, hb23⟩; have hz23 := hb23.size; (try simp only [World.size_alloc, World.size_setCell, World.size_drew, World.heap_drewN] at hz23)
            go_wp2_with fail
            refine (NP1.out _).mono ?_; rintro e w24 ⟨rfl, hb24⟩; have hz24 := hb24.size; (try simp only [World.size_alloc, World.size_setCell, World.size_drew, World.heap_drewN] at hz24)
            go_wp2_with fail
            refine (NP2.out _).mono ?_; rintro e w25 ⟨rfl, hb25⟩; have hz25 := hb25.size; (try simp only [World.size_alloc, World.size_setCell, World.size_drew, World.heap_drewN] at hz25)
            go_wp2
            go_ret
            exact ⟨rfl, by (repeat' (first | (with_reducible exact Below.refl _ _) | (with_reducible assumption) | (with_reducible refine Below.drew ?_) | (with_reducible refine belowDrewN ?_ _) | (with_reducible refine Below.alloc ?_ ?_ _) | (with_reducible refine Below.setCell ?_ ?_ _) | (with_reducible refine belowStep (by assumption) ?_ ?_) | (with_reducible exact Below.size (by assumption)) | go_size))⟩
          | true =>
            obtain ⟨N, rfl, g1, g2, g3, g4⟩ := PRM.out y hpm
            have HNO := Lib.hid g4
            have hnb : numB (N : Int) = true := numB_of g1 g2
            rw [hpm, hnb] at IP1 IP2
            have HI : Hid (∀ w, Calls Try.prog 14 #[.int .i64 (N : Int)] w (Ret (.tuple #[.bool true, .bool true]) w)) := Lib.hid fun w => by
              have := isPractical_any (N : Int) w
              rwa [prcB_yes g1 g2, (isNone_yes g3).1, hnb] at this
            have HPP : Hid (∀ w, Calls Try.prog 26 #[.int .i64 (N : Int)] w (RetPP (pps N) true w)) := Lib.hid fun w => by
              have := primePowers_any (N : Int) w
              rwa [ppO_yes hnb] at this
            have hL := ppO_len (N : Int)
            rw [ppO_yes hnb] at hL
            simp only [Option.getD_some] at hL
            have hf1 := fsts_len (pps N)
            clear hpm hnb g4 g3
            obtain ⟨ys, hys⟩ : ∃ ys, ys = fsts (pps N) := ⟨_, rfl⟩
            obtain ⟨f2, f3⟩ : (fsts (pps N)).length ≤ (pps N).length ∧ (pps N).length ≤ (fsts (pps N)).length := by omega
            unfold RetPP at HPP
            rw [← hys] at HPP f2 f3
            have Hys := Lib.hid hys
            clear hf1 hys
            go_wp2_with fail
            refine (IP1.out _).mono ?_; rintro e w22 ⟨rfl, hb22⟩; have hz22 := hb22.size; (try simp only [World.size_alloc, World.size_setCell, World.size_drew, World.heap_drewN] at hz22)
            go_wp2_with fail
            refine (IP2.out _).mono ?_; rintro e w23 ⟨rfl, hb23⟩; have hz23 := hb23.size; (try simp only [World.size_alloc, World.size_setCell, World.size_drew, World.heap_drewN] at hz23)
            go_wp2_with fail
            refine (NP1.out _).mono ?_; rintro e w24 ⟨rfl, hb24⟩; have hz24 := hb24.size; (try simp only [World.size_alloc, World.size_setCell, World.size_drew, World.heap_drewN] at hz24)
            go_wp2_with fail
            refine (NP2.out _).mono ?_; rintro e w25 ⟨rfl, hb25⟩; have hz25 := hb25.size; (try simp only [World.size_alloc, World.size_setCell, World.size_drew, World.heap_drewN] at hz25)
            go_wp2_with fail
            refine (HI.out _).mono ?_; rintro e w26 ⟨rfl, hb26⟩; have hz26 := hb26.size; (try simp only [World.size_alloc, World.size_setCell, World.size_drew, World.heap_drewN] at hz26)
            go_wp2_with fail
            refine (HPP.out _).mono ?_; rintro e w27 ⟨va, vb, rfl, hoa, hob, _, hb27⟩; obtain ⟨A27, c27, rfl, hra⟩ := hoa.form
            have hz27 := hb27.size
            have RA := Lib.hid hra
            have hbw27 : Below w.heap.size w w27 := by (repeat' (first | (with_reducible exact Below.refl _ _) | (with_reducible assumption) | (with_reducible refine Below.drew ?_) | (with_reducible refine belowDrewN ?_ _) | (with_reducible refine Below.alloc ?_ ?_ _) | (with_reducible refine Below.setCell ?_ ?_ _) | (with_reducible refine belowStep (by assumption) ?_ ?_) | (with_reducible exact Below.size (by assumption)) | go_size))
            clear hoa hob hra
            go_wp2
            go_loopw [192] (fun v192 wq => ∃ k : Nat, v192 = .int .i64 (k : Int) ∧ k ≤ ys.length ∧ Below w27.heap.size w27 wq) (fun v192 _ => ys.length - (intOf v192).toNat)
            case atStart => exact ⟨0, rfl, Nat.zero_le _, by (repeat' (first | (with_reducible exact Below.refl _ _) | (with_reducible assumption) | (with_reducible refine Below.drew ?_) | (with_reducible refine belowDrewN ?_ _) | (with_reducible refine Below.alloc ?_ ?_ _) | (with_reducible refine Below.setCell ?_ ?_ _) | (with_reducible refine belowStep (by assumption) ?_ ?_) | (with_reducible exact Below.size (by assumption)) | go_size))⟩
            case round =>
              obtain ⟨k, rfl, hk, hbs⟩ := hrel
              have hzs := hbs.size
              by_cases hlt : k < ys.length
              · obtain ⟨⟨p, m⟩, hx⟩ : ∃ x, (pps N)[k]? = some x := ⟨_, List.getElem?_eq_getElem (show k < (pps N).length by omega)⟩
                obtain ⟨hp1, hp2, hq1, hq2, hm1, hm2⟩ := quo_in g1 g2 hx
                obtain ⟨b8, o8, x8, rfl, hbb, hy, hcell⟩ := (RA.out.below hbs).at_ hlt
                rw [Hys.out, fsts_at hx] at hy
                injection hy with hy
                subst hy
                have hki : (k : Int) < (ys.length : Int) := by omega
                have hne : (p : Int) ≠ 0 := by omega
                have hneN : p ≠ 0 := by omega
                obtain ⟨_, _, e3, e4⟩ := @remv N p
                by_cases hNp : N = p
                · have hE : ((N : Int) == (p : Int)) = true := by simp [hNp]
                  clear hx hNp
                  go_wp2
                  go_roundw
                  case rel => exact ⟨k + 1, by go_num, by omega, by (repeat' (first | (with_reducible exact Below.refl _ _) | (with_reducible assumption) | (with_reducible refine Below.drew ?_) | (with_reducible refine belowDrewN ?_ _) | (with_reducible refine Below.alloc ?_ ?_ _) | (with_reducible refine Below.setCell ?_ ?_ _) | (with_reducible refine belowStep (by assumption) ?_ ?_) | (with_reducible exact Below.size (by assumption)) | go_size))⟩
                  case measure => simp [intOf]; omega
                · have hE : ((N : Int) == (p : Int)) = false := by simp; omega
                  have HIQ : Hid (∀ w, Calls Try.prog 14 #[.int .i64 ((N / p : Nat) : Int)] w (Ret (.tuple #[.bool false, .bool true]) w)) := Lib.hid fun w => by
                    have := isPractical_any ((N / p : Nat) : Int) w
                    rwa [prcB_yes hq1 hq2, (isNone_no (HNO.out (p, m) (List.mem_of_getElem? hx) hNp)).1, numB_of hq1 hq2] at this
                  clear hx hNp
                  generalize N / p = q at *
                  go_wp2_with fail
                  refine (HIQ.out _).mono ?_; rintro e w28 ⟨rfl, hb28⟩; have hz28 := hb28.size; (try simp only [World.size_alloc, World.size_setCell, World.size_drew, World.heap_drewN] at hz28)
                  go_wp2
                  go_roundw
                  case rel => exact ⟨k + 1, by go_num, by omega, by (repeat' (first | (with_reducible exact Below.refl _ _) | (with_reducible assumption) | (with_reducible refine Below.drew ?_) | (with_reducible refine belowDrewN ?_ _) | (with_reducible refine Below.alloc ?_ ?_ _) | (with_reducible refine Below.setCell ?_ ?_ _) | (with_reducible refine belowStep (by assumption) ?_ ?_) | (with_reducible exact Below.size (by assumption)) | go_size))⟩
                  case measure => simp [intOf]; omega
              · have hki : ¬ (k : Int) < (ys.length : Int) := by omega
                go_wp2
                go_ret
                exact ⟨rfl, by (repeat' (first | (with_reducible exact Below.refl _ _) | (with_reducible assumption) | (with_reducible refine Below.drew ?_) | (with_reducible refine belowDrewN ?_ _) | (with_reducible refine Below.alloc ?_ ?_ _) | (with_reducible refine Below.setCell ?_ ?_ _) | (with_reducible refine belowStep (by assumption) ?_ ?_) | (with_reducible exact Below.size (by assumption)) | go_size))⟩
      · have hl1' : ¬ (1 : Int) < ((ints L).length : Int) := by omega
        go_wp2_with fail
        refine (HDR2.out _ (by (repeat' (first | (with_reducible exact Below.refl _ _) | (with_reducible assumption) | (with_reducible refine Below.drew ?_) | (with_reducible refine belowDrewN ?_ _) | (with_reducible refine Below.alloc ?_ ?_ _) | (with_reducible refine Below.setCell ?_ ?_ _) | (with_reducible refine belowStep (by assumption) ?_ ?_) | (with_reducible exact Below.size (by assumption)) | go_size)))).mono ?_; rintro e w21 ⟨y, rfl, y0, y1, hb21⟩
        have hz21 := hb21.size; (try simp only [World.size_alloc, World.size_setCell, World.size_drew, World.heap_drewN] at hz21)
        have hby : Below w.heap.size w w21 := by (repeat' (first | (with_reducible exact Below.refl _ _) | (with_reducible assumption) | (with_reducible refine Below.drew ?_) | (with_reducible refine belowDrewN ?_ _) | (with_reducible refine Below.alloc ?_ ?_ _) | (with_reducible refine Below.setCell ?_ ?_ _) | (with_reducible refine belowStep (by assumption) ?_ ?_) | (with_reducible exact Below.size (by assumption)) | go_size))
        have IP1 := Lib.hid fun (w : World) => isPrimitive_any y w
        have IP2 := Lib.hid fun (w : World) => spec_isPrimitive_any y w
        have NP1 : Hid (∀ w, Calls Try.prog 21 #[.int .i64 y] w (Ret (nxV (nxO y)) w)) := Lib.hid fun w => nextPractical_any y w
        have NP2 : Hid (∀ w, Calls Try.prog 25 #[.int .i64 y] w (Ret (nxV (nxO y)) w)) := Lib.hid fun w => spec_nextPractical_any y w
        unfold nxV at NP1 NP2
        generalize (((nxO y).getD 0 : Nat) : Int) = na at *
        generalize (nxO y).isSome = nb at *
        cases hpm : pmB y with
        | false =>
          rw [hpm] at IP1 IP2
          clear hpm
          generalize numB y = nt at *
          go_wp2_with fail
          refine (IP1.out _).mono ?_; rintro e w22 ⟨rfl, hb22⟩; have hz22 := hb22.size; (try simp only [World.size_alloc, World.size_setCell, World.size_drew, World.heap_drewN] at hz22)
          go_wp2_with fail
          refine (IP2.out _).mono ?_; rintro e w23 ⟨rfl, hb23⟩; have hz23 := hb23.size; (try simp only [World.size_alloc, World.size_setCell, World.size_drew, World.heap_drewN] at hz23)
          go_wp2_with fail
          refine (NP1.out _).mono ?_; rintro e w24 ⟨rfl, hb24⟩; have hz24 := hb24.size; (try simp only [World.size_alloc, World.size_setCell, World.size_drew, World.heap_drewN] at hz24)
          go_wp2_with fail
          refine (NP2.out _).mono ?_; rintro e w25 ⟨rfl, hb25⟩; have hz25 := hb25.size; (try simp only [World.size_alloc, World.size_setCell, World.size_drew, World.heap_drewN] at hz25)
          go_wp2
          go_ret
          exact ⟨rfl, by (repeat' (first | (with_reducible exact Below.refl _ _) | (with_reducible assumption) | (with_reducible refine Below.drew ?_) | (with_reducible refine belowDrewN ?_ _) | (with_reducible refine Below.alloc ?_ ?_ _) | (with_reducible refine Below.setCell ?_ ?_ _) | (with_reducible refine belowStep (by assumption) ?_ ?_) | (with_reducible exact Below.size (by assumption)) | go_size))⟩
        | true =>
          obtain ⟨N, rfl, g1, g2, g3, g4⟩ := PRM.out y hpm
          have HNO := Lib.hid g4
          have hnb : numB (N : Int) = true := numB_of g1 g2
          rw [hpm, hnb] at IP1 IP2
          have HI : Hid (∀ w, Calls Try.prog 14 #[.int .i64 (N : Int)] w (Ret (.tuple #[.bool true, .bool true]) w)) := Lib.hid fun w => by
            have := isPractical_any (N : Int) w
            rwa [prcB_yes g1 g2, (isNone_yes g3).1, hnb] at this
          have HPP : Hid (∀ w, Calls Try.prog 26 #[.int .i64 (N : Int)] w (RetPP (pps N) true w)) := Lib.hid fun w => by
            have := primePowers_any (N : Int) w
            rwa [ppO_yes hnb] at this
          have hL := ppO_len (N : Int)
          rw [ppO_yes hnb] at hL
          simp only [Option.getD_some] at hL
          have hf1 := fsts_len (pps N)
          clear hpm hnb g4 g3
          obtain ⟨ys, hys⟩ : ∃ ys, ys = fsts (pps N) := ⟨_, rfl⟩
          obtain ⟨f2, f3⟩ : (fsts (pps N)).length ≤ (pps N).length ∧ (pps N).length ≤ (fsts (pps N)).length := by omega
          unfold RetPP at HPP
          rw [← hys] at HPP f2 f3
          have Hys := Lib.hid hys
          clear hf1 hys
          go_wp2_with fail
          refine (IP1.out _).mono ?_; rintro e w22 ⟨rfl, hb22⟩; have hz22 := hb22.size; (try simp only [World.size_alloc, World.size_setCell, World.size_drew, World.heap_drewN] at hz22)
          go_wp2_with fail
          refine (IP2.out _).mono ?_; rintro e w23 ⟨rfl, hb23⟩; have hz23 := hb23.size; (try simp only [World.size_alloc, World.size_setCell, World.size_drew, World.heap_drewN] at hz23)
          go_wp2_with fail
          refine (NP1.out _).mono ?_; rintro e w24 ⟨rfl, hb24⟩; have hz24 := hb24.size; (try simp only [World.size_alloc, World.size_setCell, World.size_drew, World.heap_drewN] at hz24)
          go_wp2_with fail
          refine (NP2.out _).mono ?_; rintro e w25 ⟨rfl, hb25⟩; have hz25 := hb25.size; (try simp only [World.size_alloc, World.size_setCell, World.size_drew, World.heap_drewN] at hz25)
          go_wp2_with fail
          refine (HI.out _).mono ?_; rintro e w26 ⟨rfl, hb26⟩; have hz26 := hb26.size; (try simp only [World.size_alloc, World.size_setCell, World.size_drew, World.heap_drewN] at hz26)
          go_wp2_with fail
          refine (HPP.out _).mono ?_; rintro e w27 ⟨va, vb, rfl, hoa, hob, _, hb27⟩; obtain ⟨A27, c27, rfl, hra⟩ := hoa.form
          have hz27 := hb27.size
          have RA := Lib.hid hra
          have hbw27 : Below w.heap.size w w27 := by (repeat' (first | (with_reducible exact Below.refl _ _) | (with_reducible assumption) | (with_reducible refine Below.drew ?_) | (with_reducible refine belowDrewN ?_ _) | (with_reducible refine Below.alloc ?_ ?_ _) | (with_reducible refine Below.setCell ?_ ?_ _) | (with_reducible refine belowStep (by assumption) ?_ ?_) | (with_reducible exact Below.size (by assumption)) | go_size))
          clear hoa hob hra
          go_wp2
          go_loopw [192] (fun v192 wq => ∃ k : Nat, v192 = .int .i64 (k : Int) ∧ k ≤ ys.length ∧ Below w27.heap.size w27 wq) (fun v192 _ => ys.length - (intOf v192).toNat)
          case atStart => exact ⟨0, rfl, Nat.zero_le _, by (repeat' (first | (with_reducible exact Below.refl _ _) | (with_reducible assumption) | (with_reducible refine Below.drew ?_) | (with_reducible refine belowDrewN ?_ _) | (with_reducible refine Below.alloc ?_ ?_ _) | (with_reducible refine Below.setCell ?_ ?_ _) | (with_reducible refine belowStep (by assumption) ?_ ?_) | (with_reducible exact Below.size (by assumption)) | go_size))⟩
          case round =>
            obtain ⟨k, rfl, hk, hbs⟩ := hrel
            have hzs := hbs.size
            by_cases hlt : k < ys.length
            · obtain ⟨⟨p, m⟩, hx⟩ : ∃ x, (pps N)[k]? = some x := ⟨_, List.getElem?_eq_getElem (show k < (pps N).length by omega)⟩
              obtain ⟨hp1, hp2, hq1, hq2, hm1, hm2⟩ := quo_in g1 g2 hx
              obtain ⟨b8, o8, x8, rfl, hbb, hy, hcell⟩ := (RA.out.below hbs).at_ hlt
              rw [Hys.out, fsts_at hx] at hy
              injection hy with hy
              subst hy
              have hki : (k : Int) < (ys.length : Int) := by omega
              have hne : (p : Int) ≠ 0 := by omega
              have hneN : p ≠ 0 := by omega
              obtain ⟨_, _, e3, e4⟩ := @remv N p
              by_cases hNp : N = p
              · have hE : ((N : Int) == (p : Int)) = true := by simp [hNp]
                clear hx hNp
                go_wp2
                go_roundw
                case rel => exact ⟨k + 1, by go_num, by omega, by (repeat' (first | (with_reducible exact Below.refl _ _) | (with_reducible assumption) | (with_reducible refine Below.drew ?_) | (with_reducible refine belowDrewN ?_ _) | (with_reducible refine Below.alloc ?_ ?_ _) | (with_reducible refine Below.setCell ?_ ?_ _) | (with_reducible refine belowStep (by assumption) ?_ ?_) | (with_reducible exact Below.size (by assumption)) | go_size))⟩
                case measure => simp [intOf]; omega
              · have hE : ((N : Int) == (p : Int)) = false := by simp; omega
                have HIQ : Hid (∀ w, Calls Try.prog 14 #[.int .i64 ((N / p : Nat) : Int)] w (Ret (.tuple #[.bool false, .bool true]) w)) := Lib.hid fun w => by
                  have := isPractical_any ((N / p : Nat) : Int) w
                  rwa [prcB_yes hq1 hq2, (isNone_no (HNO.out (p, m) (List.mem_of_getElem? hx) hNp)).1, numB_of hq1 hq2] at this
                clear hx hNp
                generalize N / p = q at *
                go_wp2_with fail
                refine (HIQ.out _).mono ?_; rintro e w28 ⟨rfl, hb28⟩; have hz28 := hb28.size; (try simp only [World.size_alloc, World.size_setCell, World.size_drew, World.heap_drewN] at hz28)
                go_wp2
                go_roundw
                case rel => exact ⟨k + 1, by go_num, by omega, by (repeat' (first | (with_reducible exact Below.refl _ _) | (with_reducible assumption) | (with_reducible refine Below.drew ?_) | (with_reducible refine belowDrewN ?_ _) | (with_reducible refine Below.alloc ?_ ?_ _) | (with_reducible refine Below.setCell ?_ ?_ _) | (with_reducible refine belowStep (by assumption) ?_ ?_) | (with_reducible exact Below.size (by assumption)) | go_size))⟩
                case measure => simp [intOf]; omega
            · have hki : ¬ (k : Int) < (ys.length : Int) := by omega
              go_wp2
              go_ret
              exact ⟨rfl, by (repeat' (first | (with_reducible exact Below.refl _ _) | (with_reducible assumption) | (with_reducible refine Below.drew ?_) | (with_reducible refine belowDrewN ?_ _) | (with_reducible refine Below.alloc ?_ ?_ _) | (with_reducible refine Below.setCell ?_ ?_ _) | (with_reducible refine belowStep (by assumption) ?_ ?_) | (with_reducible exact Below.size (by assumption)) | go_size))⟩
set_option maxRecDepth 100000 in
set_option maxHeartbeats 8000000 in
theorem FnPracticalLists_walk (w : World) (A : Option Addr) (c n : Nat) (B : Option Addr) (d m' : Nat) (hA : ReadsB w A n ∧ n ≤ 9223372036854775807) (hB : ReadsB w B m' ∧ m' ≤ 9223372036854775807) :
    Calls Try.prog 4 #[.slice A n c, .slice B m' d] w (Ret (.bool true) w) := by
  obtain ⟨hA, hn⟩ := hA
  obtain ⟨hB, hm'⟩ := hB
  have HA := Lib.hid hA
  have HB := Lib.hid hB
  clear hA hB
  cases hbig : bigB n m' with
  | true =>
    go_enter Try.func4, Try.ntmps4
    go_wp2_with fail
    refine (big_any _ _ _ _ _ _ _ hn hm').mono ?_; rintro e w1 ⟨rfl, k1, rfl⟩
    rw [hbig]
    go_wp2
    go_ret
    exact ⟨rfl, by (repeat' (first | (with_reducible exact Below.refl _ _) | (with_reducible assumption) | (with_reducible refine Below.drew ?_) | (with_reducible refine belowDrewN ?_ _) | (with_reducible refine Below.alloc ?_ ?_ _) | (with_reducible refine Below.setCell ?_ ?_ _) | (with_reducible refine belowStep (by assumption) ?_ ?_) | (with_reducible exact Below.size (by assumption)) | go_size))⟩
  | false =>
    have hn2 : n ≤ 1048576 ∧ m' ≤ 1048576 := by
      simp only [bigB, Bool.or_eq_false_iff, decide_eq_false_iff_not] at hbig
      omega
    exact pl_whole w A c n B d m' hbig hn2.1 hn2.2 (fun w' hb => drawPracticalsUpTo_any w' A n c (HA.out.below hb) hn2.1) (fun w' hb => drawIsPrimitive_any w' B m' d (HB.out.below hb) hn2.2)

set_option maxRecDepth 100000 in
theorem FnPracticalLists_lifted (os : Os) (started : os.Started) (H : Type) (enc : TypeId × Value → H) :
    ReturnsInHanded {} Try.checked os 4 .any (Rows.fnPracticalListsSpec.pre6 enc Try.prog Try.f4 Rows.fnPracticalListsRow.domain false) (Rows.fnPracticalListsSpec.post enc Try.prog Try.f4 false true false false) := by
  refine returnsInHanded_of_change (C := Try.checked) own started (by kernel_rfl) Try.func4
    (ChangeSpec.witness6 (enc := enc) (C := Try.checked) false ⟨#[], #[.slice none 0 0, .slice none 0 0], []⟩ 8 (by kernel_rfl) (by kernel_rfl) (by kernel_rfl) (by kernel_rfl)) ?_
  intro W base args ds gs before hval0 hW hcnd _
  have hval : ∀ (j : Nat) t v, Try.f4.params[j]? = some t → args[j]? = some v → Value.okWide Try.prog W .any base t v := hval0
  have hW' := hW
  have hlt : ∀ p ∈ before, p.block < W.heap.size := fun p hp => hW'.lt p hp
  obtain ⟨p, q, hA0, hV, rfl, hfz, hnd⟩ := hW
  have hA : DataW.TrodAll enc Try.prog W 0 (fun _ => true) true Try.f4.params.toList args.toList ds p := hA0
  rw [Try.params4] at hA hval
  obtain ⟨v0, vs0, d0, ds0, p0, q0, hargs, rfl, rfl, h0, r0⟩ := trodAll_cons hA
  obtain ⟨v1, vs1, d1, ds1, p1, q1, rfl, rfl, rfl, h1, r1⟩ := trodAll_cons r0
  obtain ⟨rfl, rfl, rfl⟩ := trodAll_nil r1
  obtain rfl : args = #[v0, v1] := by cases args; simp_all
  obtain ⟨rfl, rfl⟩ := trodVars_none hV
  obtain ⟨Aa, ca, na, rfl, ha⟩ := open_bytes_reads Try.underlying22 Try.underlying5 (by kernel_rfl) (hval 0 22 v0 rfl rfl) h0 (fun y hy => hlt y (by simp [hy]))
  obtain ⟨Ab, cb, nb, rfl, hb⟩ := open_bytes_reads Try.underlying22 Try.underlying5 (by kernel_rfl) (hval 1 22 v1 rfl rfl) h1 (fun y hy => hlt y (by simp [hy]))
  refine (FnPracticalLists_walk W Aa ca na Ab cb nb ha hb).mono fun e W' ⟨he, hg⟩ => ?_
  subst he
  exact ⟨_, rfl, law_post laidOut (by rw [Try.params4]; intro t ht; simp only [List.mem_cons, List.not_mem_nil, or_false] at ht; rcases ht with rfl | rfl <;> exact ⟨by kernel_rfl, of_decide_eq_true (by kernel_rfl)⟩) (by kernel_rfl) Try.underlying4 rfl hW' rfl hg⟩

theorem FnPracticalLists_closed : joinedFacts Try.prog 4 Try.f4 Rows.fnPracticalListsSpec Rows.fnPracticalListsRow = true := by
  unfold joinedFacts
  rw [mayEnter_eq, lifts_eq, make_eq]
  kernel_rfl

theorem FnPracticalLists_holds : Rows.FnPracticalListsSaid :=
  OpenClaim.holds_of_wide 4 Try.f4 rfl rfl rfl rfl rfl rfl rfl ⟨rfl, rfl, rfl, rfl, rfl⟩ rfl rfl rfl rfl rfl (by kernel_rfl) Try.func4 FnPracticalLists_closed
    (of_decide_eq_true (by kernel_rfl)) (by unfold Func.isWrapper; first | (rw [if_pos (by decide +kernel)]; kernel_rfl) | (rw [if_neg (by decide +kernel)]; exact ⟨rfl, rfl⟩))
    (fun os started H enc _ => FnPracticalLists_lifted os started H enc)

end Go.Proofs.Ytiapljimgnhgoac
