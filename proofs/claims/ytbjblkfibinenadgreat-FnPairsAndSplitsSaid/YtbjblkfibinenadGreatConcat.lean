
/-
  The contract of the library's Concat of lists of ints.
-/
import Derived.Test.YtbjblkfibinenadGreatLists
import Derived.Lib.AppendZeros
namespace Go.Proofs.YtbjblkfibinenadGreat
open Go.RowKit
set_option maxRecDepth 100000 in
set_option maxHeartbeats 1000000 in
theorem growNil_any (w : World) (n : Nat) (hn : n ≤ 100000) : Calls Tryz.prog 129 #[.slice none 0 0, .int .i64 n] w (RetL [] w) := by
  obtain ⟨i0, hi, hz0, hz1, hz2⟩ := info_parts intInfo
  rcases Nat.eq_zero_or_pos n with h0 | h0
  · subst h0
    go_enter Tryz.func129, Tryz.ntmps129
    go_wp2
    go_ret
    exact ⟨_, rfl, OwnI.empty _ _, by (repeat' (first | (with_reducible exact Below.refl _ _) | (with_reducible assumption) | (with_reducible refine Below.drew ?_) | (with_reducible refine belowDrewN ?_ _) | (with_reducible refine Below.alloc ?_ ?_ _) | (with_reducible refine Below.setCell ?_ ?_ _) | (with_reducible refine belowStep (by assumption) ?_ ?_) | (with_reducible exact Below.size (by assumption)) | go_size))⟩
  · have h0' : 0 < (n : Int) := by omega
    have hge := grownCap_ge w n 0 3
    have hle := grownCap_le_maxLen w n 0 3 (by unfold maxLen; omega)
    have hle' := hle
    unfold maxLen at hle'
    have hrun := Lib.run_append_nil_zeros (P := Tryz.prog) w 30 3 30 3 i0 (.int .i64 0) .i64 .i64 Tryz.underlying30 Tryz.underlying3 hi hz0 n h0 (by omega) (by omega) (by rw [hz2]; omega)
    have hsz : (Builtin.zeroCells (Value.int .i64 0).cells n ++ Builtin.zeroCells (Value.int .i64 0).cells (grownCap w n 0 3 - n)).size = grownCap w n 0 3 * 1 := by
      rw [Array.size_append, size_zeroCells, size_zeroCells, show (Value.int .i64 0).cells.size = 1 from rfl]; omega
    generalize Builtin.zeroCells (Value.int .i64 0).cells n ++ Builtin.zeroCells (Value.int .i64 0).cells (grownCap w n 0 3 - n) = cs at *
    generalize grownCap w n 0 3 = g at *
    have Hrun := Lib.hid hrun
    have Hsz := Lib.hid hsz
    have Hle := Lib.hid hle
    clear hrun hsz hle
    go_enter Tryz.func129, Tryz.ntmps129
    go_wp2_with (at_builtin; refine Lib.wpList_append_run _ rfl _ _ _ _ rfl _ _ rfl rfl _ _ Hrun.out ?_)
    go_ret
    exact ⟨_, rfl, ⟨rfl, .inr ⟨w.heap.size, g, cs, rfl, Nat.le_refl _, heap_alloc_new w _, Nat.zero_le _, Hle.out, Hsz.out, by simp⟩⟩, by (repeat' (first | (with_reducible exact Below.refl _ _) | (with_reducible assumption) | (with_reducible refine Below.drew ?_) | (with_reducible refine belowDrewN ?_ _) | (with_reducible refine Below.alloc ?_ ?_ _) | (with_reducible refine Below.setCell ?_ ?_ _) | (with_reducible refine belowStep (by assumption) ?_ ?_) | (with_reducible exact Below.size (by assumption)) | go_size))⟩
theorem flat_take {L : List (List Int)} {k : Nat} {zs : List Int} (h : L[k]? = some zs) : (L.take (k + 1)).flatten = (L.take k).flatten ++ zs := by
  have hk : k < L.length := (List.getElem?_eq_some_iff.1 h).1
  rw [List.take_succ_eq_append_getElem hk, (List.getElem?_eq_some_iff.1 h).2]
  simp
theorem flat_le (L : List (List Int)) (k : Nat) : (L.take k).flatten.length ≤ L.flatten.length := by
  have := congrArg (fun l : List (List Int) => l.flatten.length) (List.take_append_drop k L)
  simp only [List.flatten_append, List.length_append] at this
  omega
set_option maxHeartbeats 2000000 in
theorem concat_any (w : World) (b n c : Nat) (L : List (List Int)) (hn : L.length = n) (hn2 : n ≤ 1000) (hf : L.flatten.length ≤ 100000) (hb : b < w.heap.size)
    (hL : ∀ (i : Nat) (zs : List Int), L[i]? = some zs → ∃ A c, w.cell? ⟨b, i, none⟩ = some (.slice A zs.length c) ∧ Reads w A zs) :
    Calls Tryz.prog 127 #[.slice (some ⟨b, 0, none⟩) n c] w (RetL L.flatten w) := by
  have HL := Lib.hid hL
  have Hn := Lib.hid hn
  clear hL hn
  go_enter Tryz.func127, Tryz.ntmps127
  go_wp2
  go_loopw [3, 11] (fun v3 v11 wr => ∃ k : Nat, k ≤ n ∧ v11 = .int .i64 k ∧ v3 = .int .i64 ((L.take k).flatten.length : Nat) ∧ ∃ m, wr = w.drewN m) (fun _ v11 _ => n - (intOf v11).toNat)
  case atStart => exact ⟨0, Nat.zero_le _, rfl, by simp, 0, rfl⟩
  case round =>
    obtain ⟨k, hk, rfl, rfl, m, rfl⟩ := hrel
    by_cases hlt : k < n
    · obtain ⟨zs, hzs⟩ : ∃ zs, L[k]? = some zs := ⟨_, List.getElem?_eq_getElem (by rw [Hn.out]; exact hlt)⟩
      obtain ⟨A, c1, hcell, hr⟩ := HL.out k zs hzs
      have Hfl := Lib.hid (flat_take hzs)
      clear hzs
      have hfl := flat_le L (k + 1)
      have Hr := Lib.hid hr
      clear hr
      rw [Hfl.out, List.length_append] at hfl
      generalize hf0 : (L.take k).flatten = fs at *
      have Hf0 := Lib.hid hf0
      clear hf0
      go_wp2
      go_roundw
      case rel => exact ⟨k + 1, by omega, by go_num, by rw [Hfl.out, List.length_append]; go_num, _, rfl⟩
      case measure => simp [intOf]; omega
    · obtain rfl : k = n := by omega
      have hfl := flat_le L k
      have Hk : Hid (L.take k = L) := by show L.take k = L; rw [← Hn.out, List.take_length]
      rw [Hk.out] at hfl ⊢
      go_wp2_with fail
      refine (growNil_any _ _ (by first | omega | (have := hf; rw [List.length_flatten] at this; omega))).mono ?_; rintro e w1 ⟨v1, rfl, ho1, hb1⟩
      have Ho1 := Lib.hid ho1
      have hz1 := hb1.size
      (try simp only [World.heap_drewN] at hz1)
      clear ho1
      go_wp2
      go_loopw [6, 27] (fun v6 v27 wr => ∃ j : Nat, j ≤ k ∧ v27 = .int .i64 j ∧ OwnI wr w.heap.size v6 (L.take j).flatten ∧ Below w.heap.size w wr) (fun _ v27 _ => k - (intOf v27).toNat)
      case atStart => exact ⟨0, Nat.zero_le _, rfl, Ho1.out, by (repeat' (first | (with_reducible exact Below.refl _ _) | (with_reducible assumption) | (with_reducible refine Below.drew ?_) | (with_reducible refine belowDrewN ?_ _) | (with_reducible refine Below.alloc ?_ ?_ _) | (with_reducible refine Below.setCell ?_ ?_ _) | (with_reducible refine belowStep (by assumption) ?_ ?_) | (with_reducible exact Below.size (by assumption)) | go_size))⟩
      case round =>
        obtain ⟨j, hj, rfl, ho, hbr⟩ := hrel
        by_cases hjk : j < k
        · obtain ⟨zs, hzs⟩ : ∃ zs, L[j]? = some zs := ⟨_, List.getElem?_eq_getElem (by rw [Hn.out]; exact hjk)⟩
          obtain ⟨A, c2, hcell, hr⟩ := HL.out j zs hzs
          have hcell := (hbr.cell (p := ⟨b, j, none⟩) hb).trans hcell
          have Hfl := Lib.hid (flat_take hzs)
          clear hzs
          have hfl2 := flat_le L (j + 1)
          have Hr := Lib.hid hr
          clear hr
          rw [Hfl.out, List.length_append] at hfl2
          have Ho := Lib.hid ho
          have hsz := hbr.size
          clear ho
          generalize hf0 : (L.take j).flatten = fs at *
          have Hf0 := Lib.hid hf0
          clear hf0
          go_wp2_with (at_builtin; refine wpList_app _ (o := ⟨some 33, _, _, _, _, _⟩) (ys := zs) rfl _ _ rfl rfl (Ho.out) (zs.length) (c2) (by first | (simp; done) | (simp; omega)) rfl (Hr.out.below (by (repeat' (first | (with_reducible exact Below.refl _ _) | (with_reducible assumption) | (with_reducible refine Below.drew ?_) | (with_reducible refine belowDrewN ?_ _) | (with_reducible refine Below.alloc ?_ ?_ _) | (with_reducible refine Below.setCell ?_ ?_ _) | (with_reducible refine belowStep (by assumption) ?_ ?_) | (with_reducible exact Below.size (by assumption)) | go_size)))) (by (try simp only [List.length_append, List.length_take, List.length_drop, List.length_nil, List.length_singleton, List.length_cons]); omega) (by first | exact Nat.le_refl _ | ((try simp only [World.size_alloc, World.size_setCell, World.size_drew, World.heap_drewN]); omega)) ?_; intro v3 w3 ho3 hb3 hg3 ht3; clear hg3 ht3; have hz3 := hb3.size; (try simp only [World.size_alloc, World.size_setCell, World.size_drew, World.heap_drewN] at hz3))
          go_roundw
          case rel => exact ⟨j + 1, by omega, by go_num, by rw [Hfl.out]; exact ho3, by (repeat' (first | (with_reducible exact Below.refl _ _) | (with_reducible assumption) | (with_reducible refine Below.drew ?_) | (with_reducible refine belowDrewN ?_ _) | (with_reducible refine Below.alloc ?_ ?_ _) | (with_reducible refine Below.setCell ?_ ?_ _) | (with_reducible refine belowStep (by assumption) ?_ ?_) | (with_reducible exact Below.size (by assumption)) | go_size))⟩
          case measure => simp [intOf]; omega
        · obtain rfl : j = k := by omega
          rw [Hk.out] at ho
          have Ho := Lib.hid ho
          clear ho
          go_wp2
          go_ret
          exact ⟨_, rfl, Ho.out, hbr⟩
theorem concat2_any (w : World) (b c : Nat) {xs ys : List Int} {Ax Ay : Option Addr} {cx cy : Nat} (hb : b < w.heap.size) (h0 : w.cell? ⟨b, 0, none⟩ = some (.slice Ax xs.length cx)) (h1 : w.cell? ⟨b, 1, none⟩ = some (.slice Ay ys.length cy)) (hx : Reads w Ax xs) (hy : Reads w Ay ys) (hf : xs.length + ys.length ≤ 100000) :
    Calls Tryz.prog 127 #[.slice (some ⟨b, 0, none⟩) 2 c] w (RetL (xs ++ ys) w) := by
  have := concat_any w b 2 c [xs, ys] rfl (by omega) (by simpa using hf) hb (fun i zs h => by
    match i, h with
    | 0, h => simp only [List.getElem?_cons_zero, Option.some.injEq] at h; subst h; exact ⟨_, _, h0, hx⟩
    | 1, h => simp only [List.getElem?_cons_succ, List.getElem?_cons_zero, Option.some.injEq] at h; subst h; exact ⟨_, _, h1, hy⟩)
  simpa using this
end Go.Proofs.YtbjblkfibinenadGreat
