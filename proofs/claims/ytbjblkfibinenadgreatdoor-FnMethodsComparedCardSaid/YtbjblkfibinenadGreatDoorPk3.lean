import Derived.Test.YtbjblkfibinenadGreatDoorPk2
import Derived.Lib.AppendZeros
import Derived.Test.YtbjblkfibinenadGreatDoorPk1

/-
  Contracts of the model's own helpers on lists: a copy, and a number put into a rising list.
-/
namespace Go.Proofs.YtbjblkfibinenadGreatDoor
open Go.RowKit
theorem l1Own_any (w : World) (Axs : Option Addr) (cxs : Nat) (xs : List Int) (hxs : Reads w Axs xs) (lxs : xs.length ≤ 1048576) : Calls Tryz.prog 84 #[.slice Axs xs.length cxs] w (RetL xs w) := by
  have Hxs := Lib.hid hxs
  clear hxs
  go_enter Tryz.func84, Tryz.ntmps84
  go_wp2_with (at_builtin; refine wpList_app _ rfl _ _ rfl rfl (OwnI.zero w w.heap.size (Nat.le_refl _)) xs.length cxs rfl rfl (Hxs.out.below (by (repeat' (first | (with_reducible exact Below.refl _ _) | (with_reducible assumption) | (with_reducible refine Below.drew ?_) | (with_reducible refine belowDrewN ?_ _) | (with_reducible refine Below.alloc ?_ ?_ _) | (with_reducible refine Below.setCell ?_ ?_ _) | (with_reducible refine belowStep (by assumption) ?_ ?_) | (with_reducible exact Below.size (by assumption)) | go_size)))) (by simp; omega) (by simp) ?_; intro v3 w3 ho3 hb3 hg3 ht3; clear hg3 ht3)
  go_ret
  exact ⟨_, rfl, by simpa using ho3, by (repeat' (first | (with_reducible exact Below.refl _ _) | (with_reducible assumption) | (with_reducible refine Below.drew ?_) | (with_reducible refine belowDrewN ?_ _) | (with_reducible refine Below.alloc ?_ ?_ _) | (with_reducible refine Below.setCell ?_ ?_ _) | (with_reducible refine belowStep (by assumption) ?_ ?_) | (with_reducible exact Below.size (by assumption)) | go_size))⟩
theorem l1Own_n (w : World) (A : Option Addr) (n c : Nat) (ys : List Int) (hn : ys.length = n) (hr : Reads w A ys) (hl : n ≤ 1048576) : Calls Tryz.prog 84 #[.slice A n c] w (RetL ys w) := by
  subst hn
  exact l1Own_any w A c ys hr hl
/-- what is left by a function that hands out its list again or a new one -/
def RetP (ys xs : List Int) (Axs : Option Addr) (cxs : Nat) (w : World) (e : Ending) (w' : World) : Prop := ∃ A c, e = .returned (.slice A ys.length c) ∧ ys.length ≤ c ∧ Reads w' A ys ∧ Below w.heap.size w w' ∧ (OwnI w' w.heap.size (.slice A ys.length c) ys ∨ (A = Axs ∧ c = cxs ∧ ys = xs))
set_option maxHeartbeats 2000000 in
theorem l1Put_old (w : World) (v : Int) (Axs : Option Addr) (cxs : Nat) (xs : List Int) (hxs : Reads w Axs xs) (lxs : xs.length ≤ 1048576) (hcap : xs.length ≤ cxs) : Calls Tryz.prog 63 #[.slice Axs xs.length cxs, .int .i64 v] w (RetP (putL xs v) xs Axs cxs w) := by
  have Hxs := Lib.hid hxs
  clear hxs
  go_enter Tryz.func63, Tryz.ntmps63
  go_wp2
  go_loopw [5] (fun v5 wr => ∃ k : Nat, k ≤ xs.length ∧ v5 = .int .i64 k ∧ (∀ (i : Nat) (x : Int), i < k → xs[i]? = some x → x < v) ∧ ∃ n, wr = w.drewN n) (fun v5 _ => xs.length - (intOf v5).toNat)
  case atStart => exact ⟨0, Nat.zero_le _, rfl, fun i x h => by omega, 0, rfl⟩
  case round =>
    obtain ⟨k, hk, rfl, hlow, n, rfl⟩ := hrel
    have Hlow := Lib.hid hlow
    clear hlow
    by_cases hlt : k < xs.length
    · obtain ⟨b, o, x, rfl, hb, hx, hcell⟩ := Hxs.out.at_ hlt
      have Hx := Lib.hid hx
      clear hx
      by_cases hv : x < v
      · go_wp2
        go_roundw
        case rel => exact ⟨k + 1, by omega, by go_num, (fun i y hi hy => by
          rcases Nat.lt_or_eq_of_le (Nat.le_of_lt_succ hi) with h | h
          · exact Hlow.out i y h hy
          · subst h; rw [Hx.out] at hy; injection hy with hy; omega), n, rfl⟩
        case measure => simp [intOf]; omega
      · have Hp := Lib.hid (pos_of hk Hlow.out (fun y hy => by rw [Hx.out] at hy; injection hy with hy; omega))
        by_cases he : x = v
        · have hee : (x == v) = true := by simp [he]
          have Hput : Hid (putL xs v = xs) := by show putL xs v = xs; rw [putL, Hp.out, Hx.out, if_pos (by rw [he])]
          clear he
          go_wp2
          go_ret
          rw [Hput.out]
          exact ⟨_, _, rfl, hcap, Hxs.out, by (repeat' (first | (with_reducible exact Below.refl _ _) | (with_reducible assumption) | (with_reducible refine Below.drew ?_) | (with_reducible refine belowDrewN ?_ _) | (with_reducible refine Below.alloc ?_ ?_ _) | (with_reducible refine Below.setCell ?_ ?_ _) | (with_reducible refine belowStep (by assumption) ?_ ?_) | (with_reducible exact Below.size (by assumption)) | go_size)), .inr ⟨rfl, rfl, rfl⟩⟩
        · have hee : (x == v) = false := by simp [he]
          have Hput : Hid (putL xs v = [] ++ xs.take k ++ [v] ++ xs.drop k) := by show putL xs v = _; rw [putL, Hp.out, Hx.out, if_neg (by simpa using he), insAt]; simp
          clear he
          have hcp : ¬ cxs = k := by omega
          go_wp2_with (first
            | (at_builtin; refine wpList_app _ (o := ⟨some 38, _, _, _, _, _⟩) (ys := xs.take k) rfl _ _ rfl rfl (OwnI.zero (w.drewN n) w.heap.size (Nat.le_refl _)) (k) (cxs) (by first | (simp; done) | (simp; omega)) rfl ((Hxs.out.below (by (repeat' (first | (with_reducible exact Below.refl _ _) | (with_reducible assumption) | (with_reducible refine Below.drew ?_) | (with_reducible refine belowDrewN ?_ _) | (with_reducible refine Below.alloc ?_ ?_ _) | (with_reducible refine Below.setCell ?_ ?_ _) | (with_reducible refine belowStep (by assumption) ?_ ?_) | (with_reducible exact Below.size (by assumption)) | go_size)))).cutTo k) (by (try simp only [List.length_take, List.length_nil]); omega) (by first | exact Nat.le_refl _ | ((try simp only [World.size_alloc, World.heap_drewN]); omega)) ?_; intro v3 w3 ho3 hb3 hg3 ht3; clear hg3 ht3; have hz3 := hb3.size; (try simp only [World.size_alloc, World.heap_drewN] at hz3))
            | (at_builtin; refine wpList_app _ (o := ⟨some 42, _, _, _, _, _⟩) (ys := [v]) rfl _ _ rfl rfl (OwnI.below ho3 ((Below.refl _ _).alloc (Nat.le_refl _) _)) (1) (1) (by first | (simp; done) | (simp; omega)) rfl (Reads.one _ v) (by (try simp only [List.length_append, List.length_take, List.length_nil, List.length_cons]); omega) (by first | exact Nat.le_refl _ | ((try simp only [World.size_alloc]); omega)) ?_; intro v4 w4 ho4 hb4 hg4 ht4; clear hg4 ht4; have hz4 := hb4.size; (try simp only [World.size_alloc] at hz4))
            | (at_builtin; refine wpList_app _ (o := ⟨some 47, _, _, _, _, _⟩) (ys := xs.drop k) rfl _ _ rfl rfl (ho4) ((xs.length - k)) ((cxs - k)) (by first | (simp; done) | (simp; omega)) rfl (Reads.cutS (Hxs.out.below (by (repeat' (first | (with_reducible exact Below.refl _ _) | (with_reducible assumption) | (with_reducible refine Below.drew ?_) | (with_reducible refine belowDrewN ?_ _) | (with_reducible refine Below.alloc ?_ ?_ _) | (with_reducible refine Below.setCell ?_ ?_ _) | (with_reducible refine belowStep (by assumption) ?_ ?_) | (with_reducible exact Below.size (by assumption)) | go_size))))) (by (try simp only [List.length_append, List.length_take, List.length_drop, List.length_nil, List.length_cons]); omega) (by first | exact Nat.le_refl _ | ((try simp only [World.size_alloc, World.size_setCell, World.size_drew, World.heap_drewN]); omega)) ?_; intro v5 w5 ho5 hb5 hg5 ht5; clear hg5 ht5; have hz5 := hb5.size; (try simp only [World.size_alloc, World.size_setCell, World.size_drew, World.heap_drewN] at hz5)))
          go_ret
          rw [Hput.out]
          obtain ⟨A5, c5, rfl, hr5⟩ := ho5.form
          exact ⟨_, _, rfl, ho5.cap_, by simpa using hr5, by (repeat' (first | (with_reducible exact Below.refl _ _) | (with_reducible assumption) | (with_reducible refine Below.drew ?_) | (with_reducible refine belowDrewN ?_ _) | (with_reducible refine Below.alloc ?_ ?_ _) | (with_reducible refine Below.setCell ?_ ?_ _) | (with_reducible refine belowStep (by assumption) ?_ ?_) | (with_reducible exact Below.size (by assumption)) | go_size)), .inl (ho5.mono (by (first | (go_size; done) | ((try simp only [World.size_alloc, World.size_setCell, World.size_drew, World.heap_drewN]); omega))))⟩
    · obtain rfl : k = xs.length := by omega
      have Hp := Lib.hid (pos_of hk Hlow.out (fun y hy => by rw [List.getElem?_eq_none (Nat.le_refl _)] at hy; cases hy))
      have Hput : Hid (putL xs v = [] ++ xs.take xs.length ++ [v] ++ []) := by show putL xs v = _; rw [putL, Hp.out, List.getElem?_eq_none (Nat.le_refl _), if_neg (by simp), insAt]; simp
      by_cases hcp : cxs = xs.length
      · subst hcp
        go_wp2_with (first
          | (at_builtin; refine wpList_app _ (o := ⟨some 38, _, _, _, _, _⟩) (ys := xs.take xs.length) rfl _ _ rfl rfl (OwnI.zero (w.drewN n) w.heap.size (Nat.le_refl _)) (xs.length) (xs.length) (by first | (simp; done) | (simp; omega)) rfl ((Hxs.out.below (by (repeat' (first | (with_reducible exact Below.refl _ _) | (with_reducible assumption) | (with_reducible refine Below.drew ?_) | (with_reducible refine belowDrewN ?_ _) | (with_reducible refine Below.alloc ?_ ?_ _) | (with_reducible refine Below.setCell ?_ ?_ _) | (with_reducible refine belowStep (by assumption) ?_ ?_) | (with_reducible exact Below.size (by assumption)) | go_size)))).cutTo xs.length) (by (try simp only [List.length_take, List.length_nil]); omega) (by first | exact Nat.le_refl _ | ((try simp only [World.size_alloc, World.heap_drewN]); omega)) ?_; intro v3 w3 ho3 hb3 hg3 ht3; clear hg3 ht3; have hz3 := hb3.size; (try simp only [World.size_alloc, World.heap_drewN] at hz3))
          | (at_builtin; refine wpList_app _ (o := ⟨some 42, _, _, _, _, _⟩) (ys := [v]) rfl _ _ rfl rfl (OwnI.below ho3 ((Below.refl _ _).alloc (Nat.le_refl _) _)) (1) (1) (by first | (simp; done) | (simp; omega)) rfl (Reads.one _ v) (by (try simp only [List.length_append, List.length_take, List.length_nil, List.length_cons]); omega) (by first | exact Nat.le_refl _ | ((try simp only [World.size_alloc]); omega)) ?_; intro v4 w4 ho4 hb4 hg4 ht4; clear hg4 ht4; have hz4 := hb4.size; (try simp only [World.size_alloc] at hz4))
          | (at_builtin; refine wpList_app _ (o := ⟨some 47, _, _, _, _, _⟩) (ys := []) rfl _ _ rfl rfl (ho4) (0) (0) (by first | (simp; done) | (simp; omega)) rfl (Reads.nil) (by (try simp only [List.length_append, List.length_take, List.length_nil, List.length_cons]); omega) (by first | exact Nat.le_refl _ | ((try simp only [World.size_alloc, World.size_setCell, World.size_drew, World.heap_drewN]); omega)) ?_; intro v5 w5 ho5 hb5 hg5 ht5; clear hg5 ht5; have hz5 := hb5.size; (try simp only [World.size_alloc, World.size_setCell, World.size_drew, World.heap_drewN] at hz5)))
        go_ret
        rw [Hput.out]
        obtain ⟨A5, c5, rfl, hr5⟩ := ho5.form
        exact ⟨_, _, rfl, ho5.cap_, by simpa using hr5, by (repeat' (first | (with_reducible exact Below.refl _ _) | (with_reducible assumption) | (with_reducible refine Below.drew ?_) | (with_reducible refine belowDrewN ?_ _) | (with_reducible refine Below.alloc ?_ ?_ _) | (with_reducible refine Below.setCell ?_ ?_ _) | (with_reducible refine belowStep (by assumption) ?_ ?_) | (with_reducible exact Below.size (by assumption)) | go_size)), .inl (ho5.mono (by (first | (go_size; done) | ((try simp only [World.size_alloc, World.size_setCell, World.size_drew, World.heap_drewN]); omega))))⟩
      · go_wp2_with (first
          | (at_builtin; refine wpList_app _ (o := ⟨some 38, _, _, _, _, _⟩) (ys := xs.take xs.length) rfl _ _ rfl rfl (OwnI.zero (w.drewN n) w.heap.size (Nat.le_refl _)) (xs.length) (cxs) (by first | (simp; done) | (simp; omega)) rfl ((Hxs.out.below (by (repeat' (first | (with_reducible exact Below.refl _ _) | (with_reducible assumption) | (with_reducible refine Below.drew ?_) | (with_reducible refine belowDrewN ?_ _) | (with_reducible refine Below.alloc ?_ ?_ _) | (with_reducible refine Below.setCell ?_ ?_ _) | (with_reducible refine belowStep (by assumption) ?_ ?_) | (with_reducible exact Below.size (by assumption)) | go_size)))).cutTo xs.length) (by (try simp only [List.length_take, List.length_nil]); omega) (by first | exact Nat.le_refl _ | ((try simp only [World.size_alloc, World.heap_drewN]); omega)) ?_; intro v3 w3 ho3 hb3 hg3 ht3; clear hg3 ht3; have hz3 := hb3.size; (try simp only [World.size_alloc, World.heap_drewN] at hz3))
          | (at_builtin; refine wpList_app _ (o := ⟨some 42, _, _, _, _, _⟩) (ys := [v]) rfl _ _ rfl rfl (OwnI.below ho3 ((Below.refl _ _).alloc (Nat.le_refl _) _)) (1) (1) (by first | (simp; done) | (simp; omega)) rfl (Reads.one _ v) (by (try simp only [List.length_append, List.length_take, List.length_nil, List.length_cons]); omega) (by first | exact Nat.le_refl _ | ((try simp only [World.size_alloc]); omega)) ?_; intro v4 w4 ho4 hb4 hg4 ht4; clear hg4 ht4; have hz4 := hb4.size; (try simp only [World.size_alloc] at hz4))
          | (at_builtin; refine wpList_app _ (o := ⟨some 47, _, _, _, _, _⟩) (ys := []) rfl _ _ rfl rfl (ho4) (0) ((cxs - xs.length)) (by first | (simp; done) | (simp; omega)) rfl (Reads.nil) (by (try simp only [List.length_append, List.length_take, List.length_nil, List.length_cons]); omega) (by first | exact Nat.le_refl _ | ((try simp only [World.size_alloc, World.size_setCell, World.size_drew, World.heap_drewN]); omega)) ?_; intro v5 w5 ho5 hb5 hg5 ht5; clear hg5 ht5; have hz5 := hb5.size; (try simp only [World.size_alloc, World.size_setCell, World.size_drew, World.heap_drewN] at hz5)))
        go_ret
        rw [Hput.out]
        obtain ⟨A5, c5, rfl, hr5⟩ := ho5.form
        exact ⟨_, _, rfl, ho5.cap_, by simpa using hr5, by (repeat' (first | (with_reducible exact Below.refl _ _) | (with_reducible assumption) | (with_reducible refine Below.drew ?_) | (with_reducible refine belowDrewN ?_ _) | (with_reducible refine Below.alloc ?_ ?_ _) | (with_reducible refine Below.setCell ?_ ?_ _) | (with_reducible refine belowStep (by assumption) ?_ ?_) | (with_reducible exact Below.size (by assumption)) | go_size)), .inl (ho5.mono (by (first | (go_size; done) | ((try simp only [World.size_alloc, World.size_setCell, World.size_drew, World.heap_drewN]); omega))))⟩
theorem l1Put_any (w : World) (v : Int) (Axs : Option Addr) (cxs : Nat) (xs : List Int) (hxs : Reads w Axs xs) (lxs : xs.length ≤ 1048576) (hcap : xs.length ≤ cxs) : Calls Tryz.prog 63 #[.slice Axs xs.length cxs, .int .i64 v] w (RetR (putL xs v) w) :=
  (l1Put_old w v Axs cxs xs hxs lxs hcap).mono fun _ _ ⟨A, c, h1, h2, h3, h4, _⟩ => ⟨A, c, h1, h2, h3, h4⟩
/-- onto a list of the call's own -/
theorem l1Put_own (w : World) (v : Int) (base : Nat) (A : Option Addr) (c : Nat) (xs : List Int) (hown : OwnI w base (.slice A xs.length c) xs) (lxs : xs.length ≤ 1048576) (hbase : base ≤ w.heap.size) : Calls Tryz.prog 63 #[.slice A xs.length c, .int .i64 v] w (fun e w' => ∃ v', e = .returned v' ∧ OwnI w' base v' (putL xs v) ∧ Below w.heap.size w w') :=
  (l1Put_old w v A c xs hown.reads.1 lxs hown.cap_).mono fun _ _ ⟨A', c', h1, h2, h3, h4, h5⟩ => by
    refine ⟨_, h1, ?_, h4⟩
    rcases h5 with h5 | ⟨rfl, rfl, h5⟩
    · exact h5.mono hbase
    · rw [h5]; exact hown.below h4
end Go.Proofs.YtbjblkfibinenadGreatDoor


/-
  The contract of the library's Concat of lists of ints.
-/
namespace Go.Proofs.YtbjblkfibinenadGreatDoor
open Go.RowKit
set_option maxRecDepth 100000 in
set_option maxHeartbeats 1000000 in
theorem growNil_any (w : World) (n : Nat) (hn : n ≤ 100000) : Calls Tryz.prog 136 #[.slice none 0 0, .int .i64 n] w (RetL [] w) := by
  obtain ⟨i0, hi, hz0, hz1, hz2⟩ := info_parts intInfo
  rcases Nat.eq_zero_or_pos n with h0 | h0
  · subst h0
    go_enter Tryz.func136, Tryz.ntmps136
    go_wp2
    go_ret
    exact ⟨_, rfl, OwnI.empty _ _, by (repeat' (first | (with_reducible exact Below.refl _ _) | (with_reducible assumption) | (with_reducible refine Below.drew ?_) | (with_reducible refine belowDrewN ?_ _) | (with_reducible refine Below.alloc ?_ ?_ _) | (with_reducible refine Below.setCell ?_ ?_ _) | (with_reducible refine belowStep (by assumption) ?_ ?_) | (with_reducible exact Below.size (by assumption)) | go_size))⟩
  · have h0' : 0 < (n : Int) := by omega
    have hge := grownCap_ge w n 0 3
    have hle := grownCap_le_maxLen w n 0 3 (by unfold maxLen; omega)
    have hle' := hle
    unfold maxLen at hle'
    have hrun := Lib.run_append_nil_zeros (P := Tryz.prog) w 24 3 24 3 i0 (.int .i64 0) .i64 .i64 Tryz.underlying24 Tryz.underlying3 hi hz0 n h0 (by omega) (by omega) (by rw [hz2]; omega)
    have hsz : (Builtin.zeroCells (Value.int .i64 0).cells n ++ Builtin.zeroCells (Value.int .i64 0).cells (grownCap w n 0 3 - n)).size = grownCap w n 0 3 * 1 := by
      rw [Array.size_append, size_zeroCells, size_zeroCells, show (Value.int .i64 0).cells.size = 1 from rfl]; omega
    generalize Builtin.zeroCells (Value.int .i64 0).cells n ++ Builtin.zeroCells (Value.int .i64 0).cells (grownCap w n 0 3 - n) = cs at *
    generalize grownCap w n 0 3 = g at *
    have Hrun := Lib.hid hrun
    have Hsz := Lib.hid hsz
    have Hle := Lib.hid hle
    clear hrun hsz hle
    go_enter Tryz.func136, Tryz.ntmps136
    go_wp2_with (at_builtin; refine Lib.wpList_append_run _ rfl _ _ _ _ rfl _ _ rfl rfl _ _ Hrun.out ?_)
    go_ret
    exact ⟨_, rfl, ⟨rfl, .inr ⟨w.heap.size, g, cs, rfl, Nat.le_refl _, heap_alloc_new w _, Nat.zero_le _, Hle.out, Hsz.out, by simp⟩⟩, by (repeat' (first | (with_reducible exact Below.refl _ _) | (with_reducible assumption) | (with_reducible refine Below.drew ?_) | (with_reducible refine belowDrewN ?_ _) | (with_reducible refine Below.alloc ?_ ?_ _) | (with_reducible refine Below.setCell ?_ ?_ _) | (with_reducible refine belowStep (by assumption) ?_ ?_) | (with_reducible exact Below.size (by assumption)) | go_size))⟩
theorem flat_take {L : List (List Int)} {k : Nat} {zs : List Int} (h : L[k]? = some zs) : (L.take (k + 1)).flatten = (L.take k).flatten ++ zs := by
  have hk : k < L.length := (List.getElem?_eq_some_iff.1 h).1
  rw [List.take_succ_eq_append_getElem hk, (List.getElem?_eq_some_iff.1 h).2]
  simp
theorem flat_le (L : List (List Int)) (k : Nat) : (L.take k).flatten.length ≤ L.flatten.length := by
  have := congrArg (fun l : List (List Int) => l.flatten.length) (List.take_append_drop k L)
  simp only [List.flatten_append, List.length_append] at this
  omega
set_option maxHeartbeats 2000000 in
theorem concat_any (w : World) (b n c : Nat) (L : List (List Int)) (hn : L.length = n) (hn2 : n ≤ 1000) (hf : L.flatten.length ≤ 100000) (hb : b < w.heap.size)
    (hL : ∀ (i : Nat) (zs : List Int), L[i]? = some zs → ∃ A c, w.cell? ⟨b, i, none⟩ = some (.slice A zs.length c) ∧ Reads w A zs) :
    Calls Tryz.prog 134 #[.slice (some ⟨b, 0, none⟩) n c] w (RetL L.flatten w) := by
  have HL := Lib.hid hL
  have Hn := Lib.hid hn
  clear hL hn
  go_enter Tryz.func134, Tryz.ntmps134
  go_wp2
  go_loopw [3, 11] (fun v3 v11 wr => ∃ k : Nat, k ≤ n ∧ v11 = .int .i64 k ∧ v3 = .int .i64 ((L.take k).flatten.length : Nat) ∧ ∃ m, wr = w.drewN m) (fun _ v11 _ => n - (intOf v11).toNat)
  case atStart => exact ⟨0, Nat.zero_le _, rfl, by simp, 0, rfl⟩
  case round =>
    obtain ⟨k, hk, rfl, rfl, m, rfl⟩ := hrel
    by_cases hlt : k < n
    · obtain ⟨zs, hzs⟩ : ∃ zs, L[k]? = some zs := ⟨_, List.getElem?_eq_getElem (by rw [Hn.out]; exact hlt)⟩
      obtain ⟨A, c1, hcell, hr⟩ := HL.out k zs hzs
      have Hfl := Lib.hid (flat_take hzs)
      clear hzs
      have hfl := flat_le L (k + 1)
      have Hr := Lib.hid hr
      clear hr
      rw [Hfl.out, List.length_append] at hfl
      generalize hf0 : (L.take k).flatten = fs at *
      have Hf0 := Lib.hid hf0
      clear hf0
      go_wp2
      go_roundw
      case rel => exact ⟨k + 1, by omega, by go_num, by rw [Hfl.out, List.length_append]; go_num, _, rfl⟩
      case measure => simp [intOf]; omega
    · obtain rfl : k = n := by omega
      have hfl := flat_le L k
      have Hk : Hid (L.take k = L) := by show L.take k = L; rw [← Hn.out, List.take_length]
      rw [Hk.out] at hfl ⊢
      go_wp2_with fail
      refine (growNil_any _ _ (by first | omega | (have := hf; rw [List.length_flatten] at this; omega))).mono ?_; rintro e w1 ⟨v1, rfl, ho1, hb1⟩
      have Ho1 := Lib.hid ho1
      have hz1 := hb1.size
      (try simp only [World.heap_drewN] at hz1)
      clear ho1
      go_wp2
      go_loopw [6, 27] (fun v6 v27 wr => ∃ j : Nat, j ≤ k ∧ v27 = .int .i64 j ∧ OwnI wr w.heap.size v6 (L.take j).flatten ∧ Below w.heap.size w wr) (fun _ v27 _ => k - (intOf v27).toNat)
      case atStart => exact ⟨0, Nat.zero_le _, rfl, Ho1.out, by (repeat' (first | (with_reducible exact Below.refl _ _) | (with_reducible assumption) | (with_reducible refine Below.drew ?_) | (with_reducible refine belowDrewN ?_ _) | (with_reducible refine Below.alloc ?_ ?_ _) | (with_reducible refine Below.setCell ?_ ?_ _) | (with_reducible refine belowStep (by assumption) ?_ ?_) | (with_reducible exact Below.size (by assumption)) | go_size))⟩
      case round =>
        obtain ⟨j, hj, rfl, ho, hbr⟩ := hrel
        by_cases hjk : j < k
        · obtain ⟨zs, hzs⟩ : ∃ zs, L[j]? = some zs := ⟨_, List.getElem?_eq_getElem (by rw [Hn.out]; exact hjk)⟩
          obtain ⟨A, c2, hcell, hr⟩ := HL.out j zs hzs
          have hcell := (hbr.cell (p := ⟨b, j, none⟩) hb).trans hcell
          have Hfl := Lib.hid (flat_take hzs)
          clear hzs
          have hfl2 := flat_le L (j + 1)
          have Hr := Lib.hid hr
          clear hr
          rw [Hfl.out, List.length_append] at hfl2
          have Ho := Lib.hid ho
          have hsz := hbr.size
          clear ho
          generalize hf0 : (L.take j).flatten = fs at *
          have Hf0 := Lib.hid hf0
          clear hf0
          go_wp2_with (at_builtin; refine wpList_app _ (o := ⟨some 33, _, _, _, _, _⟩) (ys := zs) rfl _ _ rfl rfl (Ho.out) (zs.length) (c2) (by first | (simp; done) | (simp; omega)) rfl (Hr.out.below (by (repeat' (first | (with_reducible exact Below.refl _ _) | (with_reducible assumption) | (with_reducible refine Below.drew ?_) | (with_reducible refine belowDrewN ?_ _) | (with_reducible refine Below.alloc ?_ ?_ _) | (with_reducible refine Below.setCell ?_ ?_ _) | (with_reducible refine belowStep (by assumption) ?_ ?_) | (with_reducible exact Below.size (by assumption)) | go_size)))) (by (try simp only [List.length_append, List.length_take, List.length_drop, List.length_nil, List.length_singleton, List.length_cons]); omega) (by first | exact Nat.le_refl _ | ((try simp only [World.size_alloc, World.size_setCell, World.size_drew, World.heap_drewN]); omega)) ?_; intro v3 w3 ho3 hb3 hg3 ht3; clear hg3 ht3; have hz3 := hb3.size; (try simp only [World.size_alloc, World.size_setCell, World.size_drew, World.heap_drewN] at hz3))
          go_roundw
          case rel => exact ⟨j + 1, by omega, by go_num, by rw [Hfl.out]; exact ho3, by (repeat' (first | (with_reducible exact Below.refl _ _) | (with_reducible assumption) | (with_reducible refine Below.drew ?_) | (with_reducible refine belowDrewN ?_ _) | (with_reducible refine Below.alloc ?_ ?_ _) | (with_reducible refine Below.setCell ?_ ?_ _) | (with_reducible refine belowStep (by assumption) ?_ ?_) | (with_reducible exact Below.size (by assumption)) | go_size))⟩
          case measure => simp [intOf]; omega
        · obtain rfl : j = k := by omega
          rw [Hk.out] at ho
          have Ho := Lib.hid ho
          clear ho
          go_wp2
          go_ret
          exact ⟨_, rfl, Ho.out, hbr⟩
theorem concat2_any (w : World) (b c : Nat) {xs ys : List Int} {Ax Ay : Option Addr} {cx cy : Nat} (hb : b < w.heap.size) (h0 : w.cell? ⟨b, 0, none⟩ = some (.slice Ax xs.length cx)) (h1 : w.cell? ⟨b, 1, none⟩ = some (.slice Ay ys.length cy)) (hx : Reads w Ax xs) (hy : Reads w Ay ys) (hf : xs.length + ys.length ≤ 100000) :
    Calls Tryz.prog 134 #[.slice (some ⟨b, 0, none⟩) 2 c] w (RetL (xs ++ ys) w) := by
  have := concat_any w b 2 c [xs, ys] rfl (by omega) (by simpa using hf) hb (fun i zs h => by
    match i, h with
    | 0, h => simp only [List.getElem?_cons_zero, Option.some.injEq] at h; subst h; exact ⟨_, _, h0, hx⟩
    | 1, h => simp only [List.getElem?_cons_succ, List.getElem?_cons_zero, Option.some.injEq] at h; subst h; exact ⟨_, _, h1, hy⟩)
  simpa using this
end Go.Proofs.YtbjblkfibinenadGreatDoor


/-
  Contracts of the two functions that compute greatest common divisors.
-/
namespace Go.Proofs.YtbjblkfibinenadGreatDoor
open Go.RowKit

set_option maxHeartbeats 400000 in
theorem commonDivisor_any (a b : Int) (w : World) (ha : 0 ≤ a) (hb : 0 ≤ b) (ha2 : a ≤ 9223372036854775807) (hb2 : b ≤ 9223372036854775807) :
    Calls Tryz.prog 74 #[.int .i64 a, .int .i64 b] w (RetQ (.int .i64 (gcdI a b)) w) := by
  go_enter Tryz.func74, Tryz.ntmps74
  go_wp2
  go_loopw [0, 1] (fun v0 v1 wr => ∃ x y : Int, 0 ≤ x ∧ 0 ≤ y ∧ x ≤ 9223372036854775807 ∧ y ≤ 9223372036854775807 ∧ v0 = .int .i64 x ∧ v1 = .int .i64 y ∧ gcdI x y = gcdI a b ∧ ∃ n, wr = w.drewN n) (fun _ v1 _ => (intOf v1).toNat)
  case atStart => exact ⟨a, b, ha, hb, ha2, hb2, rfl, rfl, rfl, 0, rfl⟩
  case round =>
    obtain ⟨x, y, hx, hy, hx2, hy2, rfl, rfl, hg, k, rfl⟩ := hrel
    have Hg := Lib.hid hg
    clear hg
    by_cases h0 : y = 0
    · subst h0
      go_wp2
      go_ret
      exact ⟨ret_int (by rw [← Hg.out, gcdI_zero x hx]), k, rfl⟩
    · have hne : ((y : Int) != 0) = true := by rw [bne_iff_ne]; omega
      have hy1 : 1 ≤ y := by omega
      have hr1 := Int.emod_nonneg x h0
      have hr2 := Int.emod_lt_of_pos x (b := y) (by omega)
      go_wp2
      go_region
      all_goals
        go_wp2
        go_roundw
        case rel => exact ⟨y, x % y, by omega, by omega, by omega, by omega, rfl, rfl, by rw [gcdI_step x y hx hy]; exact Hg.out, k + 1, rfl⟩
        case measure => simp [intOf]; omega

set_option maxHeartbeats 400000 in
theorem unGcd_any (a b : Int) (w : World) (ha : 0 ≤ a) (hb : 0 ≤ b) (ha2 : a ≤ 9223372036854775807) (hb2 : b ≤ 9223372036854775807) :
    Calls Tryz.prog 57 #[.int .i64 a, .int .i64 b] w (RetQ (.int .i64 (gcdI a b)) w) := by
  go_enter Tryz.func57, Tryz.ntmps57
  go_wp2
  go_loopw [0, 1] (fun v0 v1 wr => ∃ x y : Int, 0 ≤ x ∧ 0 ≤ y ∧ x ≤ 9223372036854775807 ∧ y ≤ 9223372036854775807 ∧ v0 = .int .i64 x ∧ v1 = .int .i64 y ∧ gcdI x y = gcdI a b ∧ ∃ n, wr = w.drewN n) (fun _ v1 _ => (intOf v1).toNat)
  case atStart => exact ⟨a, b, ha, hb, ha2, hb2, rfl, rfl, rfl, 0, rfl⟩
  case round =>
    obtain ⟨x, y, hx, hy, hx2, hy2, rfl, rfl, hg, k, rfl⟩ := hrel
    have Hg := Lib.hid hg
    clear hg
    by_cases h0 : y = 0
    · subst h0
      go_wp2
      go_ret
      exact ⟨ret_int (by rw [← Hg.out, gcdI_zero x hx]), k, rfl⟩
    · have hy1 : 1 ≤ y := by omega
      have hr1 := Int.emod_nonneg x h0
      have hr2 := Int.emod_lt_of_pos x (b := y) (by omega)
      go_wp2
      go_region
      all_goals
        go_wp2
        go_roundw
        case rel => exact ⟨y, x % y, by omega, by omega, by omega, by omega, rfl, rfl, by rw [gcdI_step x y hx hy]; exact Hg.out, k + 1, rfl⟩
        case measure => simp [intOf]; omega
end Go.Proofs.YtbjblkfibinenadGreatDoor


/-
  The contract of the function that brings a quotient into lowest terms.
-/
namespace Go.Proofs.YtbjblkfibinenadGreatDoor
open Go.RowKit

set_option maxHeartbeats 400000 in
theorem reduce_any (n d : Int) (w : World) (hn : 0 ≤ n) (hd : 1 ≤ d) (hn2 : n ≤ 9223372036854775807) (hd2 : d ≤ 9223372036854775807) :
    Calls Tryz.prog 48 #[.int .i64 n, .int .i64 d] w (Ret (.tuple #[.agg #[.int .i64 (redN n d), .int .i64 (redD n d)], .bool (redB n d)]) w) := by
  have hg1 : 1 ≤ gcdI n d := by have := gcdI_pos n d (by omega); omega
  have hg2 : gcdI n d ≤ 9223372036854775807 := by have := gcdI_leR n d (by omega); omega
  have hq1 : 0 ≤ n / gcdI n d := Int.ediv_nonneg hn (by omega)
  have hq2 : 0 ≤ d / gcdI n d := Int.ediv_nonneg (by omega) (by omega)
  by_cases h1 : n / gcdI n d ≤ 1000000000
  · by_cases h2 : d / gcdI n d ≤ 1000000000
    · have HB := Lib.hid (redB_yes h1 h2)
      go_enter Tryz.func48, Tryz.ntmps48
      go_wp2_with (go_at_call 74; refine (commonDivisor_any _ _ _ hn (by omega) hn2 hd2).mono ?_; rintro e w1 ⟨rfl, k1, rfl⟩)
      go_region
      all_goals
        go_wp2
        go_returns
        exact ⟨ret_fr (by rw [redN, if_pos HB.out]) (by rw [redD, if_pos HB.out]) HB.out.symm, by (repeat' (first | (with_reducible exact Below.refl _ _) | (with_reducible assumption) | (with_reducible refine Below.drew ?_) | (with_reducible refine belowDrewN ?_ _) | (with_reducible refine Below.alloc ?_ ?_ _) | (with_reducible refine Below.setCell ?_ ?_ _) | (with_reducible refine belowStep (by assumption) ?_ ?_) | (with_reducible exact Below.size (by assumption)) | go_size))⟩
    · have HB := Lib.hid (redB_no2 (n := n) h2)
      go_enter Tryz.func48, Tryz.ntmps48
      go_wp2_with (go_at_call 74; refine (commonDivisor_any _ _ _ hn (by omega) hn2 hd2).mono ?_; rintro e w1 ⟨rfl, k1, rfl⟩)
      go_region
      all_goals
        go_wp2
        go_returns
        exact ⟨ret_fr (by rw [redN, HB.out]; rfl) (by rw [redD, HB.out]; rfl) HB.out.symm, by (repeat' (first | (with_reducible exact Below.refl _ _) | (with_reducible assumption) | (with_reducible refine Below.drew ?_) | (with_reducible refine belowDrewN ?_ _) | (with_reducible refine Below.alloc ?_ ?_ _) | (with_reducible refine Below.setCell ?_ ?_ _) | (with_reducible refine belowStep (by assumption) ?_ ?_) | (with_reducible exact Below.size (by assumption)) | go_size))⟩
  · have HB := Lib.hid (redB_no1 (d := d) h1)
    go_enter Tryz.func48, Tryz.ntmps48
    go_wp2_with (go_at_call 74; refine (commonDivisor_any _ _ _ hn (by omega) hn2 hd2).mono ?_; rintro e w1 ⟨rfl, k1, rfl⟩)
    go_region
    all_goals
      go_wp2
      go_returns
      exact ⟨ret_fr (by rw [redN, HB.out]; rfl) (by rw [redD, HB.out]; rfl) HB.out.symm, by (repeat' (first | (with_reducible exact Below.refl _ _) | (with_reducible assumption) | (with_reducible refine Below.drew ?_) | (with_reducible refine belowDrewN ?_ _) | (with_reducible refine Below.alloc ?_ ?_ _) | (with_reducible refine Below.setCell ?_ ?_ _) | (with_reducible refine belowStep (by assumption) ?_ ?_) | (with_reducible exact Below.size (by assumption)) | go_size))⟩

theorem reduce_yes (n d : Int) (w : World) (hn : 0 ≤ n) (hd : 1 ≤ d) (hn2 : n ≤ 9223372036854775807) (hd2 : d ≤ 9223372036854775807) (hb : redB n d = true) :
    Calls Tryz.prog 48 #[.int .i64 n, .int .i64 d] w (Ret (.tuple #[.agg #[.int .i64 (n / gcdI n d), .int .i64 (d / gcdI n d)], .bool true]) w) := by
  have h := reduce_any n d w hn hd hn2 hd2
  rw [redN, redD, hb] at h
  exact h

theorem reduce_no (n d : Int) (w : World) (hn : 0 ≤ n) (hd : 1 ≤ d) (hn2 : n ≤ 9223372036854775807) (hd2 : d ≤ 9223372036854775807) (hb : redB n d = false) :
    Calls Tryz.prog 48 #[.int .i64 n, .int .i64 d] w (Ret (.tuple #[.agg #[.int .i64 0, .int .i64 0], .bool false]) w) := by
  have h := reduce_any n d w hn hd hn2 hd2
  rw [redN, redD, hb] at h
  exact h
end Go.Proofs.YtbjblkfibinenadGreatDoor
