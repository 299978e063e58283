import Derived.Test.YtleookfdngnphaaPk2
import Derived.Test.YtleookfdngnphaaPk11
import Derived.Laws.Bits64b
import Derived.Lib.AppendZeros

/-
  Contracts of the model's own helpers on lists: a copy, and a number put into a rising list.
-/
namespace Go.Proofs.Ytleookfdngnphaa
open Go.RowKit
theorem l1Own_any (w : World) (Axs : Option Addr) (cxs : Nat) (xs : List Int) (hxs : Reads w Axs xs) (lxs : xs.length ≤ 1048576) : Calls Try.prog 191 #[.slice Axs xs.length cxs] w (RetL xs w) := by
  have Hxs := Lib.hid hxs
  clear hxs
  go_enter Try.func191, Try.ntmps191
  go_wp2_with (at_builtin; refine wpList_app _ rfl _ _ rfl rfl (OwnI.zero w w.heap.size (Nat.le_refl _)) xs.length cxs rfl rfl (Hxs.out.below (by (repeat' (first | (with_reducible exact Below.refl _ _) | (with_reducible assumption) | (with_reducible refine Below.drew ?_) | (with_reducible refine belowDrewN ?_ _) | (with_reducible refine Below.alloc ?_ ?_ _) | (with_reducible refine Below.setCell ?_ ?_ _) | (with_reducible refine belowStep (by assumption) ?_ ?_) | (with_reducible exact Below.size (by assumption)) | go_size)))) (by simp; omega) (by simp) ?_; intro v3 w3 ho3 hb3 hg3 ht3; clear hg3 ht3)
  go_ret
  exact ⟨_, rfl, by simpa using ho3, by (repeat' (first | (with_reducible exact Below.refl _ _) | (with_reducible assumption) | (with_reducible refine Below.drew ?_) | (with_reducible refine belowDrewN ?_ _) | (with_reducible refine Below.alloc ?_ ?_ _) | (with_reducible refine Below.setCell ?_ ?_ _) | (with_reducible refine belowStep (by assumption) ?_ ?_) | (with_reducible exact Below.size (by assumption)) | go_size))⟩
theorem l1Own_n (w : World) (A : Option Addr) (n c : Nat) (ys : List Int) (hn : ys.length = n) (hr : Reads w A ys) (hl : n ≤ 1048576) : Calls Try.prog 191 #[.slice A n c] w (RetL ys w) := by
  subst hn
  exact l1Own_any w A c ys hr hl
/-- what is left by a function that hands out its list again or a new one -/
def RetP (ys xs : List Int) (Axs : Option Addr) (cxs : Nat) (w : World) (e : Ending) (w' : World) : Prop := ∃ A c, e = .returned (.slice A ys.length c) ∧ ys.length ≤ c ∧ Reads w' A ys ∧ Below w.heap.size w w' ∧ (OwnI w' w.heap.size (.slice A ys.length c) ys ∨ (A = Axs ∧ c = cxs ∧ ys = xs))
set_option maxHeartbeats 2000000 in
theorem l1Put_old (w : World) (v : Int) (Axs : Option Addr) (cxs : Nat) (xs : List Int) (hxs : Reads w Axs xs) (lxs : xs.length ≤ 1048576) (hcap : xs.length ≤ cxs) : Calls Try.prog 122 #[.slice Axs xs.length cxs, .int .i64 v] w (RetP (putL xs v) xs Axs cxs w) := by
  have Hxs := Lib.hid hxs
  clear hxs
  go_enter Try.func122, Try.ntmps122
  go_wp2
  go_loopw [5] (fun v5 wr => ∃ k : Nat, k ≤ xs.length ∧ v5 = .int .i64 k ∧ (∀ (i : Nat) (x : Int), i < k → xs[i]? = some x → x < v) ∧ ∃ n, wr = w.drewN n) (fun v5 _ => xs.length - (intOf v5).toNat)
  case atStart => exact ⟨0, Nat.zero_le _, rfl, fun i x h => by omega, 0, rfl⟩
  case round =>
    obtain ⟨k, hk, rfl, hlow, n, rfl⟩ := hrel
    have Hlow := Lib.hid hlow
    clear hlow
    by_cases hlt : k < xs.length
    · obtain ⟨b, o, x, rfl, hb, hx, hcell⟩ := Hxs.out.at_ hlt
      have Hx := Lib.hid hx
      clear hx
      by_cases hv : x < v
      · go_wp2
        go_roundw
        case rel => exact ⟨k + 1, by omega, by go_num, (fun i y hi hy => by
          rcases Nat.lt_or_eq_of_le (Nat.le_of_lt_succ hi) with h | h
          · exact Hlow.out i y h hy
          · subst h; rw [Hx.out] at hy; injection hy with hy; omega), n, rfl⟩
        case measure => simp [intOf]; omega
      · have Hp := Lib.hid (pos_of hk Hlow.out (fun y hy => by rw [Hx.out] at hy; injection hy with hy; omega))
        by_cases he : x = v
        · have hee : (x == v) = true := by simp [he]
          have Hput : Hid (putL xs v = xs) := by show putL xs v = xs; rw [putL, Hp.out, Hx.out, if_pos (by rw [he])]
          clear he
          go_wp2
          go_ret
          rw [Hput.out]
          exact ⟨_, _, rfl, hcap, Hxs.out, by (repeat' (first | (with_reducible exact Below.refl _ _) | (with_reducible assumption) | (with_reducible refine Below.drew ?_) | (with_reducible refine belowDrewN ?_ _) | (with_reducible refine Below.alloc ?_ ?_ _) | (with_reducible refine Below.setCell ?_ ?_ _) | (with_reducible refine belowStep (by assumption) ?_ ?_) | (with_reducible exact Below.size (by assumption)) | go_size)), .inr ⟨rfl, rfl, rfl⟩⟩
        · have hee : (x == v) = false := by simp [he]
          have Hput : Hid (putL xs v = [] ++ xs.take k ++ [v] ++ xs.drop k) := by show putL xs v = _; rw [putL, Hp.out, Hx.out, if_neg (by simpa using he), insAt]; simp
          clear he
          have hcp : ¬ cxs = k := by omega
          go_wp2_with (first
            | (at_builtin; refine wpList_app _ (o := ⟨some 38, _, _, _, _, _⟩) (ys := xs.take k) rfl _ _ rfl rfl (OwnI.zero (w.drewN n) w.heap.size (Nat.le_refl _)) (k) (cxs) (by first | (simp; done) | (simp; omega)) rfl ((Hxs.out.below (by (repeat' (first | (with_reducible exact Below.refl _ _) | (with_reducible assumption) | (with_reducible refine Below.drew ?_) | (with_reducible refine belowDrewN ?_ _) | (with_reducible refine Below.alloc ?_ ?_ _) | (with_reducible refine Below.setCell ?_ ?_ _) | (with_reducible refine belowStep (by assumption) ?_ ?_) | (with_reducible exact Below.size (by assumption)) | go_size)))).cutTo k) (by (try simp only [List.length_take, List.length_nil]); omega) (by first | exact Nat.le_refl _ | ((try simp only [World.size_alloc, World.heap_drewN]); omega)) ?_; intro v3 w3 ho3 hb3 hg3 ht3; clear hg3 ht3; have hz3 := hb3.size; (try simp only [World.size_alloc, World.heap_drewN] at hz3))
            | (at_builtin; refine wpList_app _ (o := ⟨some 42, _, _, _, _, _⟩) (ys := [v]) rfl _ _ rfl rfl (OwnI.below ho3 ((Below.refl _ _).alloc (Nat.le_refl _) _)) (1) (1) (by first | (simp; done) | (simp; omega)) rfl (Reads.one _ v) (by (try simp only [List.length_append, List.length_take, List.length_nil, List.length_cons]); omega) (by first | exact Nat.le_refl _ | ((try simp only [World.size_alloc]); omega)) ?_; intro v4 w4 ho4 hb4 hg4 ht4; clear hg4 ht4; have hz4 := hb4.size; (try simp only [World.size_alloc] at hz4))
            | (at_builtin; refine wpList_app _ (o := ⟨some 47, _, _, _, _, _⟩) (ys := xs.drop k) rfl _ _ rfl rfl (ho4) ((xs.length - k)) ((cxs - k)) (by first | (simp; done) | (simp; omega)) rfl (Reads.cutS (Hxs.out.below (by (repeat' (first | (with_reducible exact Below.refl _ _) | (with_reducible assumption) | (with_reducible refine Below.drew ?_) | (with_reducible refine belowDrewN ?_ _) | (with_reducible refine Below.alloc ?_ ?_ _) | (with_reducible refine Below.setCell ?_ ?_ _) | (with_reducible refine belowStep (by assumption) ?_ ?_) | (with_reducible exact Below.size (by assumption)) | go_size))))) (by (try simp only [List.length_append, List.length_take, List.length_drop, List.length_nil, List.length_cons]); omega) (by first | exact Nat.le_refl _ | ((try simp only [World.size_alloc, World.size_setCell, World.size_drew, World.heap_drewN]); omega)) ?_; intro v5 w5 ho5 hb5 hg5 ht5; clear hg5 ht5; have hz5 := hb5.size; (try simp only [World.size_alloc, World.size_setCell, World.size_drew, World.heap_drewN] at hz5)))
          go_ret
          rw [Hput.out]
          obtain ⟨A5, c5, rfl, hr5⟩ := ho5.form
          exact ⟨_, _, rfl, ho5.cap_, by simpa using hr5, by (repeat' (first | (with_reducible exact Below.refl _ _) | (with_reducible assumption) | (with_reducible refine Below.drew ?_) | (with_reducible refine belowDrewN ?_ _) | (with_reducible refine Below.alloc ?_ ?_ _) | (with_reducible refine Below.setCell ?_ ?_ _) | (with_reducible refine belowStep (by assumption) ?_ ?_) | (with_reducible exact Below.size (by assumption)) | go_size)), .inl (ho5.mono (by (first | (go_size; done) | ((try simp only [World.size_alloc, World.size_setCell, World.size_drew, World.heap_drewN]); omega))))⟩
    · obtain rfl : k = xs.length := by omega
      have Hp := Lib.hid (pos_of hk Hlow.out (fun y hy => by rw [List.getElem?_eq_none (Nat.le_refl _)] at hy; cases hy))
      have Hput : Hid (putL xs v = [] ++ xs.take xs.length ++ [v] ++ []) := by show putL xs v = _; rw [putL, Hp.out, List.getElem?_eq_none (Nat.le_refl _), if_neg (by simp), insAt]; simp
      by_cases hcp : cxs = xs.length
      · subst hcp
        go_wp2_with (first
          | (at_builtin; refine wpList_app _ (o := ⟨some 38, _, _, _, _, _⟩) (ys := xs.take xs.length) rfl _ _ rfl rfl (OwnI.zero (w.drewN n) w.heap.size (Nat.le_refl _)) (xs.length) (xs.length) (by first | (simp; done) | (simp; omega)) rfl ((Hxs.out.below (by (repeat' (first | (with_reducible exact Below.refl _ _) | (with_reducible assumption) | (with_reducible refine Below.drew ?_) | (with_reducible refine belowDrewN ?_ _) | (with_reducible refine Below.alloc ?_ ?_ _) | (with_reducible refine Below.setCell ?_ ?_ _) | (with_reducible refine belowStep (by assumption) ?_ ?_) | (with_reducible exact Below.size (by assumption)) | go_size)))).cutTo xs.length) (by (try simp only [List.length_take, List.length_nil]); omega) (by first | exact Nat.le_refl _ | ((try simp only [World.size_alloc, World.heap_drewN]); omega)) ?_; intro v3 w3 ho3 hb3 hg3 ht3; clear hg3 ht3; have hz3 := hb3.size; (try simp only [World.size_alloc, World.heap_drewN] at hz3))
          | (at_builtin; refine wpList_app _ (o := ⟨some 42, _, _, _, _, _⟩) (ys := [v]) rfl _ _ rfl rfl (OwnI.below ho3 ((Below.refl _ _).alloc (Nat.le_refl _) _)) (1) (1) (by first | (simp; done) | (simp; omega)) rfl (Reads.one _ v) (by (try simp only [List.length_append, List.length_take, List.length_nil, List.length_cons]); omega) (by first | exact Nat.le_refl _ | ((try simp only [World.size_alloc]); omega)) ?_; intro v4 w4 ho4 hb4 hg4 ht4; clear hg4 ht4; have hz4 := hb4.size; (try simp only [World.size_alloc] at hz4))
          | (at_builtin; refine wpList_app _ (o := ⟨some 47, _, _, _, _, _⟩) (ys := []) rfl _ _ rfl rfl (ho4) (0) (0) (by first | (simp; done) | (simp; omega)) rfl (Reads.nil) (by (try simp only [List.length_append, List.length_take, List.length_nil, List.length_cons]); omega) (by first | exact Nat.le_refl _ | ((try simp only [World.size_alloc, World.size_setCell, World.size_drew, World.heap_drewN]); omega)) ?_; intro v5 w5 ho5 hb5 hg5 ht5; clear hg5 ht5; have hz5 := hb5.size; (try simp only [World.size_alloc, World.size_setCell, World.size_drew, World.heap_drewN] at hz5)))
        go_ret
        rw [Hput.out]
        obtain ⟨A5, c5, rfl, hr5⟩ := ho5.form
        exact ⟨_, _, rfl, ho5.cap_, by simpa using hr5, by (repeat' (first | (with_reducible exact Below.refl _ _) | (with_reducible assumption) | (with_reducible refine Below.drew ?_) | (with_reducible refine belowDrewN ?_ _) | (with_reducible refine Below.alloc ?_ ?_ _) | (with_reducible refine Below.setCell ?_ ?_ _) | (with_reducible refine belowStep (by assumption) ?_ ?_) | (with_reducible exact Below.size (by assumption)) | go_size)), .inl (ho5.mono (by (first | (go_size; done) | ((try simp only [World.size_alloc, World.size_setCell, World.size_drew, World.heap_drewN]); omega))))⟩
      · go_wp2_with (first
          | (at_builtin; refine wpList_app _ (o := ⟨some 38, _, _, _, _, _⟩) (ys := xs.take xs.length) rfl _ _ rfl rfl (OwnI.zero (w.drewN n) w.heap.size (Nat.le_refl _)) (xs.length) (cxs) (by first | (simp; done) | (simp; omega)) rfl ((Hxs.out.below (by (repeat' (first | (with_reducible exact Below.refl _ _) | (with_reducible assumption) | (with_reducible refine Below.drew ?_) | (with_reducible refine belowDrewN ?_ _) | (with_reducible refine Below.alloc ?_ ?_ _) | (with_reducible refine Below.setCell ?_ ?_ _) | (with_reducible refine belowStep (by assumption) ?_ ?_) | (with_reducible exact Below.size (by assumption)) | go_size)))).cutTo xs.length) (by (try simp only [List.length_take, List.length_nil]); omega) (by first | exact Nat.le_refl _ | ((try simp only [World.size_alloc, World.heap_drewN]); omega)) ?_; intro v3 w3 ho3 hb3 hg3 ht3; clear hg3 ht3; have hz3 := hb3.size; (try simp only [World.size_alloc, World.heap_drewN] at hz3))
          | (at_builtin; refine wpList_app _ (o := ⟨some 42, _, _, _, _, _⟩) (ys := [v]) rfl _ _ rfl rfl (OwnI.below ho3 ((Below.refl _ _).alloc (Nat.le_refl _) _)) (1) (1) (by first | (simp; done) | (simp; omega)) rfl (Reads.one _ v) (by (try simp only [List.length_append, List.length_take, List.length_nil, List.length_cons]); omega) (by first | exact Nat.le_refl _ | ((try simp only [World.size_alloc]); omega)) ?_; intro v4 w4 ho4 hb4 hg4 ht4; clear hg4 ht4; have hz4 := hb4.size; (try simp only [World.size_alloc] at hz4))
          | (at_builtin; refine wpList_app _ (o := ⟨some 47, _, _, _, _, _⟩) (ys := []) rfl _ _ rfl rfl (ho4) (0) ((cxs - xs.length)) (by first | (simp; done) | (simp; omega)) rfl (Reads.nil) (by (try simp only [List.length_append, List.length_take, List.length_nil, List.length_cons]); omega) (by first | exact Nat.le_refl _ | ((try simp only [World.size_alloc, World.size_setCell, World.size_drew, World.heap_drewN]); omega)) ?_; intro v5 w5 ho5 hb5 hg5 ht5; clear hg5 ht5; have hz5 := hb5.size; (try simp only [World.size_alloc, World.size_setCell, World.size_drew, World.heap_drewN] at hz5)))
        go_ret
        rw [Hput.out]
        obtain ⟨A5, c5, rfl, hr5⟩ := ho5.form
        exact ⟨_, _, rfl, ho5.cap_, by simpa using hr5, by (repeat' (first | (with_reducible exact Below.refl _ _) | (with_reducible assumption) | (with_reducible refine Below.drew ?_) | (with_reducible refine belowDrewN ?_ _) | (with_reducible refine Below.alloc ?_ ?_ _) | (with_reducible refine Below.setCell ?_ ?_ _) | (with_reducible refine belowStep (by assumption) ?_ ?_) | (with_reducible exact Below.size (by assumption)) | go_size)), .inl (ho5.mono (by (first | (go_size; done) | ((try simp only [World.size_alloc, World.size_setCell, World.size_drew, World.heap_drewN]); omega))))⟩
theorem l1Put_any (w : World) (v : Int) (Axs : Option Addr) (cxs : Nat) (xs : List Int) (hxs : Reads w Axs xs) (lxs : xs.length ≤ 1048576) (hcap : xs.length ≤ cxs) : Calls Try.prog 122 #[.slice Axs xs.length cxs, .int .i64 v] w (RetR (putL xs v) w) :=
  (l1Put_old w v Axs cxs xs hxs lxs hcap).mono fun _ _ ⟨A, c, h1, h2, h3, h4, _⟩ => ⟨A, c, h1, h2, h3, h4⟩
/-- onto a list of the call's own -/
theorem l1Put_own (w : World) (v : Int) (base : Nat) (A : Option Addr) (c : Nat) (xs : List Int) (hown : OwnI w base (.slice A xs.length c) xs) (lxs : xs.length ≤ 1048576) (hbase : base ≤ w.heap.size) : Calls Try.prog 122 #[.slice A xs.length c, .int .i64 v] w (fun e w' => ∃ v', e = .returned v' ∧ OwnI w' base v' (putL xs v) ∧ Below w.heap.size w w') :=
  (l1Put_old w v A c xs hown.reads.1 lxs hown.cap_).mono fun _ _ ⟨A', c', h1, h2, h3, h4, h5⟩ => by
    refine ⟨_, h1, ?_, h4⟩
    rcases h5 with h5 | ⟨rfl, rfl, h5⟩
    · exact h5.mono hbase
    · rw [h5]; exact hown.below h4
end Go.Proofs.Ytleookfdngnphaa


/-
  Contracts of the cursor that draws inputs from bytes: what it hands out lies in its range, whatever the bytes are.
-/
namespace Go.Proofs.Ytleookfdngnphaa
open Go.RowKit
/-- bytes that may be read -/
def ReadsB (w : World) (A : Option Addr) (len : Nat) : Prop := 0 < len → ∃ b o, A = some ⟨b, o, none⟩ ∧ b < w.heap.size ∧ ∀ i, i < len → ∃ v : Int, w.cell? ⟨b, o + i, none⟩ = some (.int .u8 v) ∧ 0 ≤ v ∧ v ≤ 255
theorem ReadsB.below {w w' : World} {A : Option Addr} {len : Nat} (h : ReadsB w A len) (hb : Below w.heap.size w w') : ReadsB w' A len := fun h0 => by
  obtain ⟨b, o, e, hlt, hc⟩ := h h0
  refine ⟨b, o, e, Nat.lt_of_lt_of_le hlt hb.size, fun i hi => ?_⟩
  obtain ⟨v, h1, h2⟩ := hc i hi
  exact ⟨v, (hb.cell (p := ⟨b, o + i, none⟩) hlt).trans h1, h2⟩
/-- the cursor's three cells, and that its count has gone at most to n; its bytes are older than it -/
def Cur (w0 w : World) (g n : Nat) : Prop := w0.heap.size ≤ g ∧ g < w.heap.size ∧ Below w0.heap.size w0 w ∧ ∃ (A : Option Addr) (len c : Nat) (k s : Int),
  w.cell? ⟨g, 0, none⟩ = some (.slice A len c) ∧ len ≤ 1048576 ∧ ReadsB w0 A len ∧ w.cell? ⟨g, 1, none⟩ = some (.int .i64 k) ∧ 0 ≤ k ∧ k ≤ n ∧ w.cell? ⟨g, 2, none⟩ = some (.int .u64 s) ∧ w.frozen? ⟨g, 1, none⟩ = false ∧ w.frozen? ⟨g, 2, none⟩ = false
def DrawN (w0 w : World) (g n : Nat) (lo hi : Int) (e : Ending) (w' : World) : Prop := ∃ x : Int, e = .returned (.int .i64 x) ∧ lo ≤ x ∧ x ≤ hi ∧ Cur w0 w' g n ∧ w.grownBy w' (some g)
theorem grownDrewN {a w : World} {row : Option Nat} (h : a.grownBy w row) (k : Nat) : a.grownBy (w.drewN k) row := ⟨h.os, h.tape, h.output, h.size, h.block⟩
theorem Cur.step {w0 w : World} {g n : Nat} {k : Int} (h : Cur w0 w g n) (hk : w.cell? ⟨g, 1, none⟩ = some (.int .i64 k)) (hkn : k ≤ n) (k0 : 0 ≤ k) (a b : Nat) (s : Int) :
    Cur w0 ((((w.drewN a).setCell ⟨g, 1, none⟩ (.int .i64 (k + 1))).setCell ⟨g, 2, none⟩ (.int .u64 s)).drewN b) g (n + 1) ∧ w.grownBy ((((w.drewN a).setCell ⟨g, 1, none⟩ (.int .i64 (k + 1))).setCell ⟨g, 2, none⟩ (.int .u64 s)).drewN b) (some g) := by
  obtain ⟨hg0, hg, hb0, A, len, c, k', s', h0, hl, hr, h1, k0, k1, h2, f1, f2⟩ := h
  have G : w.grownBy ((((w.drewN a).setCell ⟨g, 1, none⟩ (.int .i64 (k + 1))).setCell ⟨g, 2, none⟩ (.int .u64 s)).drewN b) (some g) :=
    grownDrewN (grownSet (grownSet (grownDrewN (World.grownBy.refl w (some g)) a) rfl 1 _) rfl 2 _) b
  refine ⟨⟨hg0, by simpa using hg, hb0.grown G (by have := hb0.size; omega) (fun j hj => by injection hj with hj; omega), A, len, c, k + 1, s, ?_, hl, hr, ?_, by omega, by omega, ?_, ?_, ?_⟩, G⟩
  all_goals simp [go_sem, *]
theorem and255 (x : Int) (h0 : 0 ≤ x) (h1 : x < 18446744073709551616) : 0 ≤ wrap64 (bits BinOp.and IntKind.u64 x 255) ∧ wrap64 (bits BinOp.and IntKind.u64 x 255) ≤ 255 := by
  obtain ⟨a, rfl⟩ := Int.eq_ofNat_of_zero_le h0
  have h := bits_and_u64_nat a 255 (by omega) (by omega)
  have h2 : a &&& 255 ≤ 255 := Nat.and_le_right
  rw [show ((255 : Nat) : Int) = 255 from rfl] at h
  rw [h]
  unfold wrap64
  omega
theorem shr40 (x : Int) : 0 ≤ IntKind.u64.wrap x / 1099511627776 ∧ IntKind.u64.wrap x / 1099511627776 < 18446744073709551616 := by
  have h : 0 ≤ IntKind.u64.wrap x ∧ IntKind.u64.wrap x < 18446744073709551616 := by
    rw [IntKind.wrap_u64]; omega
  omega
set_option maxHeartbeats 2000000 in
theorem next_any (w0 w : World) (g n : Nat) (hn : n ≤ 1000000000) (h : Cur w0 w g n) : Calls Try.prog 167 #[.pointer (some ⟨g, 0, none⟩)] w (DrawN w0 w g (n + 1) 0 255) := by
  have HC := Lib.hid h
  obtain ⟨hg0, hg, hb0, A, len, c, k, s, h0, hl, hr, h1, k0, k1, h2, f1, f2⟩ := h
  by_cases hlt : k < len
  · obtain ⟨j, rfl⟩ := Int.eq_ofNat_of_zero_le k0
    obtain ⟨b, o, rfl, hb, hc⟩ := (hr.below hb0) (by omega)
    obtain ⟨v, hv, v0, v1⟩ := hc j (by omega)
    have Hr := Lib.hid hr
    have Hc := Lib.hid hc
    clear hr hc
    have hj : (j : Int) < (len : Int) := hlt
    have hj1 : (j : Int) + 1 ≤ (len : Int) := by omega
    go_enter Try.func167, Try.ntmps167
    go_wp2
    go_quiet (fail)
    go_wp2
    go_quiet (fail)
    go_wp2
    go_quiet (fail)
    go_wp2
    go_ret
    have HS := HC.out.step h1 k1 k0
    exact ⟨_, rfl, v0, v1, (HS _ _ _).1, (HS _ _ _).2⟩
  · have hj : (len : Int) ≤ k := by omega
    have hj1 : ¬ k + 1 ≤ (len : Int) := by omega
    go_enter Try.func167, Try.ntmps167
    go_wp2
    go_quiet (fail)
    go_wp2
    go_quiet (fail)
    go_wp2
    go_ret
    have HS := HC.out.step h1 k1 k0
    exact ⟨_, rfl, (and255 _ (shr40 _).1 (shr40 _).2).1, (and255 _ (shr40 _).1 (shr40 _).2).2, (HS _ _ _).1, (HS _ _ _).2⟩
theorem mod_in {x n : Int} (h : 1 ≤ n) : 0 ≤ x % n ∧ x % n ≤ n - 1 := by
  have := Int.emod_nonneg x (by omega : n ≠ 0)
  have := Int.emod_lt_of_pos x (by omega : 0 < n)
  omega
theorem Cur.more {w0 w : World} {g n m : Nat} (h : Cur w0 w g n) (hm : n ≤ m) : Cur w0 w g m := by
  obtain ⟨hg0, hg, hb0, A, len, c, k, s, h0, hl, hr, h1, k0, k1, r⟩ := h
  exact ⟨hg0, hg, hb0, A, len, c, k, s, h0, hl, hr, h1, k0, by omega, r⟩
set_option maxHeartbeats 2000000 in
theorem pick_any (w0 w : World) (g n : Nat) (hn : n ≤ 1000000) (m : Int) (hm : m ≤ 1000000000) (h : Cur w0 w g n) : Calls Try.prog 100 #[.pointer (some ⟨g, 0, none⟩), .int .i64 m] w (DrawN w0 w g (n + 2) 0 (max 0 (m - 1))) := by
  have HC := Lib.hid h
  clear h
  by_cases h1 : m ≤ 1
  · go_enter Try.func100, Try.ntmps100
    go_wp2
    go_ret
    exact ⟨0, rfl, by omega, by omega, HC.out.more (by omega), World.grownBy.refl w _⟩
  · have h1' : 1 < m := by omega
    clear h1
    by_cases h2 : 200 < m
    · go_enter Try.func100, Try.ntmps100
      go_wp2_with fail
      refine (next_any w0 _ _ n (by omega) HC.out).mono ?_; rintro e w1 ⟨x, rfl, x0, x1, hc1, hg1⟩
      have HC1 := Lib.hid hc1
      have Hg1 := Lib.hid hg1
      clear hc1 hg1
      go_wp2_with fail
      refine (next_any w0 _ _ (n + 1) (by omega) HC1.out).mono ?_; rintro e w2 ⟨y, rfl, y0, y1, hc2, hg2⟩
      have HC2 := Lib.hid hc2
      have Hg2 := Lib.hid hg2
      have hmd := mod_in (x := x * 256 + y) (n := m) (by omega)
      clear hc2 hg2
      go_wp2
      go_ret
      exact ⟨_, rfl, hmd.1, by omega, HC2.out, Hg1.out.trans Hg2.out⟩
    · go_enter Try.func100, Try.ntmps100
      go_wp2_with fail
      refine (next_any w0 _ _ n (by omega) HC.out).mono ?_; rintro e w1 ⟨x, rfl, x0, x1, hc1, hg1⟩
      have HC1 := Lib.hid hc1
      have Hg1 := Lib.hid hg1
      have hmd := mod_in (x := x) (n := m) (by omega)
      clear hc1 hg1
      go_wp2
      go_ret
      exact ⟨_, rfl, hmd.1, by omega, HC1.out.more (by omega), Hg1.out⟩
end Go.Proofs.Ytleookfdngnphaa


/-
  The contract of the library's Concat of lists of ints.
-/
namespace Go.Proofs.Ytleookfdngnphaa
open Go.RowKit
set_option maxRecDepth 100000 in
set_option maxHeartbeats 1000000 in
theorem growNil_any (w : World) (n : Nat) (hn : n ≤ 100000) : Calls Try.prog 180 #[.slice none 0 0, .int .i64 n] w (RetL [] w) := by
  obtain ⟨i0, hi, hz0, hz1, hz2⟩ := info_parts intInfo
  rcases Nat.eq_zero_or_pos n with h0 | h0
  · subst h0
    go_enter Try.func180, Try.ntmps180
    go_wp2
    go_ret
    exact ⟨_, rfl, OwnI.empty _ _, by (repeat' (first | (with_reducible exact Below.refl _ _) | (with_reducible assumption) | (with_reducible refine Below.drew ?_) | (with_reducible refine belowDrewN ?_ _) | (with_reducible refine Below.alloc ?_ ?_ _) | (with_reducible refine Below.setCell ?_ ?_ _) | (with_reducible refine belowStep (by assumption) ?_ ?_) | (with_reducible exact Below.size (by assumption)) | go_size))⟩
  · have h0' : 0 < (n : Int) := by omega
    have hge := grownCap_ge w n 0 3
    have hle := grownCap_le_maxLen w n 0 3 (by unfold maxLen; omega)
    have hle' := hle
    unfold maxLen at hle'
    have hrun := Lib.run_append_nil_zeros (P := Try.prog) w 26 3 26 3 i0 (.int .i64 0) .i64 .i64 Try.underlying26 Try.underlying3 hi hz0 n h0 (by omega) (by omega) (by rw [hz2]; omega)
    have hsz : (Builtin.zeroCells (Value.int .i64 0).cells n ++ Builtin.zeroCells (Value.int .i64 0).cells (grownCap w n 0 3 - n)).size = grownCap w n 0 3 * 1 := by
      rw [Array.size_append, size_zeroCells, size_zeroCells, show (Value.int .i64 0).cells.size = 1 from rfl]; omega
    generalize Builtin.zeroCells (Value.int .i64 0).cells n ++ Builtin.zeroCells (Value.int .i64 0).cells (grownCap w n 0 3 - n) = cs at *
    generalize grownCap w n 0 3 = g at *
    have Hrun := Lib.hid hrun
    have Hsz := Lib.hid hsz
    have Hle := Lib.hid hle
    clear hrun hsz hle
    go_enter Try.func180, Try.ntmps180
    go_wp2_with (at_builtin; refine Lib.wpList_append_run _ rfl _ _ _ _ rfl _ _ rfl rfl _ _ Hrun.out ?_)
    go_ret
    exact ⟨_, rfl, ⟨rfl, .inr ⟨w.heap.size, g, cs, rfl, Nat.le_refl _, heap_alloc_new w _, Nat.zero_le _, Hle.out, Hsz.out, by simp⟩⟩, by (repeat' (first | (with_reducible exact Below.refl _ _) | (with_reducible assumption) | (with_reducible refine Below.drew ?_) | (with_reducible refine belowDrewN ?_ _) | (with_reducible refine Below.alloc ?_ ?_ _) | (with_reducible refine Below.setCell ?_ ?_ _) | (with_reducible refine belowStep (by assumption) ?_ ?_) | (with_reducible exact Below.size (by assumption)) | go_size))⟩
theorem flat_take {L : List (List Int)} {k : Nat} {zs : List Int} (h : L[k]? = some zs) : (L.take (k + 1)).flatten = (L.take k).flatten ++ zs := by
  have hk : k < L.length := (List.getElem?_eq_some_iff.1 h).1
  rw [List.take_succ_eq_append_getElem hk, (List.getElem?_eq_some_iff.1 h).2]
  simp
theorem flat_le (L : List (List Int)) (k : Nat) : (L.take k).flatten.length ≤ L.flatten.length := by
  have := congrArg (fun l : List (List Int) => l.flatten.length) (List.take_append_drop k L)
  simp only [List.flatten_append, List.length_append] at this
  omega
set_option maxHeartbeats 2000000 in
theorem concat_any (w : World) (b n c : Nat) (L : List (List Int)) (hn : L.length = n) (hn2 : n ≤ 1000) (hf : L.flatten.length ≤ 100000) (hb : b < w.heap.size)
    (hL : ∀ (i : Nat) (zs : List Int), L[i]? = some zs → ∃ A c, w.cell? ⟨b, i, none⟩ = some (.slice A zs.length c) ∧ Reads w A zs) :
    Calls Try.prog 134 #[.slice (some ⟨b, 0, none⟩) n c] w (RetL L.flatten w) := by
  have HL := Lib.hid hL
  have Hn := Lib.hid hn
  clear hL hn
  go_enter Try.func134, Try.ntmps134
  go_wp2
  go_loopw [3, 11] (fun v3 v11 wr => ∃ k : Nat, k ≤ n ∧ v11 = .int .i64 k ∧ v3 = .int .i64 ((L.take k).flatten.length : Nat) ∧ ∃ m, wr = w.drewN m) (fun _ v11 _ => n - (intOf v11).toNat)
  case atStart => exact ⟨0, Nat.zero_le _, rfl, by simp, 0, rfl⟩
  case round =>
    obtain ⟨k, hk, rfl, rfl, m, rfl⟩ := hrel
    by_cases hlt : k < n
    · obtain ⟨zs, hzs⟩ : ∃ zs, L[k]? = some zs := ⟨_, List.getElem?_eq_getElem (by rw [Hn.out]; exact hlt)⟩
      obtain ⟨A, c1, hcell, hr⟩ := HL.out k zs hzs
      have Hfl := Lib.hid (flat_take hzs)
      clear hzs
      have hfl := flat_le L (k + 1)
      have Hr := Lib.hid hr
      clear hr
      rw [Hfl.out, List.length_append] at hfl
      generalize hf0 : (L.take k).flatten = fs at *
      have Hf0 := Lib.hid hf0
      clear hf0
      go_wp2
      go_roundw
      case rel => exact ⟨k + 1, by omega, by go_num, by rw [Hfl.out, List.length_append]; go_num, _, rfl⟩
      case measure => simp [intOf]; omega
    · obtain rfl : k = n := by omega
      have hfl := flat_le L k
      have Hk : Hid (L.take k = L) := by show L.take k = L; rw [← Hn.out, List.take_length]
      rw [Hk.out] at hfl ⊢
      go_wp2_with fail
      refine (growNil_any _ _ (by first | omega | (have := hf; rw [List.length_flatten] at this; omega))).mono ?_; rintro e w1 ⟨v1, rfl, ho1, hb1⟩
      have Ho1 := Lib.hid ho1
      have hz1 := hb1.size
      (try simp only [World.heap_drewN] at hz1)
      clear ho1
      go_wp2
      go_loopw [6, 27] (fun v6 v27 wr => ∃ j : Nat, j ≤ k ∧ v27 = .int .i64 j ∧ OwnI wr w.heap.size v6 (L.take j).flatten ∧ Below w.heap.size w wr) (fun _ v27 _ => k - (intOf v27).toNat)
      case atStart => exact ⟨0, Nat.zero_le _, rfl, Ho1.out, by (repeat' (first | (with_reducible exact Below.refl _ _) | (with_reducible assumption) | (with_reducible refine Below.drew ?_) | (with_reducible refine belowDrewN ?_ _) | (with_reducible refine Below.alloc ?_ ?_ _) | (with_reducible refine Below.setCell ?_ ?_ _) | (with_reducible refine belowStep (by assumption) ?_ ?_) | (with_reducible exact Below.size (by assumption)) | go_size))⟩
      case round =>
        obtain ⟨j, hj, rfl, ho, hbr⟩ := hrel
        by_cases hjk : j < k
        · obtain ⟨zs, hzs⟩ : ∃ zs, L[j]? = some zs := ⟨_, List.getElem?_eq_getElem (by rw [Hn.out]; exact hjk)⟩
          obtain ⟨A, c2, hcell, hr⟩ := HL.out j zs hzs
          have hcell := (hbr.cell (p := ⟨b, j, none⟩) hb).trans hcell
          have Hfl := Lib.hid (flat_take hzs)
          clear hzs
          have hfl2 := flat_le L (j + 1)
          have Hr := Lib.hid hr
          clear hr
          rw [Hfl.out, List.length_append] at hfl2
          have Ho := Lib.hid ho
          have hsz := hbr.size
          clear ho
          generalize hf0 : (L.take j).flatten = fs at *
          have Hf0 := Lib.hid hf0
          clear hf0
          go_wp2_with (at_builtin; refine wpList_app _ (o := ⟨some 33, _, _, _, _, _⟩) (ys := zs) rfl _ _ rfl rfl (Ho.out) (zs.length) (c2) (by first | (simp; done) | (simp; omega)) rfl (Hr.out.below (by (repeat' (first | (with_reducible exact Below.refl _ _) | (with_reducible assumption) | (with_reducible refine Below.drew ?_) | (with_reducible refine belowDrewN ?_ _) | (with_reducible refine Below.alloc ?_ ?_ _) | (with_reducible refine Below.setCell ?_ ?_ _) | (with_reducible refine belowStep (by assumption) ?_ ?_) | (with_reducible exact Below.size (by assumption)) | go_size)))) (by (try simp only [List.length_append, List.length_take, List.length_drop, List.length_nil, List.length_singleton, List.length_cons]); omega) (by first | exact Nat.le_refl _ | ((try simp only [World.size_alloc, World.size_setCell, World.size_drew, World.heap_drewN]); omega)) ?_; intro v3 w3 ho3 hb3 hg3 ht3; clear hg3 ht3; have hz3 := hb3.size; (try simp only [World.size_alloc, World.size_setCell, World.size_drew, World.heap_drewN] at hz3))
          go_roundw
          case rel => exact ⟨j + 1, by omega, by go_num, by rw [Hfl.out]; exact ho3, by (repeat' (first | (with_reducible exact Below.refl _ _) | (with_reducible assumption) | (with_reducible refine Below.drew ?_) | (with_reducible refine belowDrewN ?_ _) | (with_reducible refine Below.alloc ?_ ?_ _) | (with_reducible refine Below.setCell ?_ ?_ _) | (with_reducible refine belowStep (by assumption) ?_ ?_) | (with_reducible exact Below.size (by assumption)) | go_size))⟩
          case measure => simp [intOf]; omega
        · obtain rfl : j = k := by omega
          rw [Hk.out] at ho
          have Ho := Lib.hid ho
          clear ho
          go_wp2
          go_ret
          exact ⟨_, rfl, Ho.out, hbr⟩
theorem concat2_any (w : World) (b c : Nat) {xs ys : List Int} {Ax Ay : Option Addr} {cx cy : Nat} (hb : b < w.heap.size) (h0 : w.cell? ⟨b, 0, none⟩ = some (.slice Ax xs.length cx)) (h1 : w.cell? ⟨b, 1, none⟩ = some (.slice Ay ys.length cy)) (hx : Reads w Ax xs) (hy : Reads w Ay ys) (hf : xs.length + ys.length ≤ 100000) :
    Calls Try.prog 134 #[.slice (some ⟨b, 0, none⟩) 2 c] w (RetL (xs ++ ys) w) := by
  have := concat_any w b 2 c [xs, ys] rfl (by omega) (by simpa using hf) hb (fun i zs h => by
    match i, h with
    | 0, h => simp only [List.getElem?_cons_zero, Option.some.injEq] at h; subst h; exact ⟨_, _, h0, hx⟩
    | 1, h => simp only [List.getElem?_cons_succ, List.getElem?_cons_zero, Option.some.injEq] at h; subst h; exact ⟨_, _, h1, hy⟩)
  simpa using this
end Go.Proofs.Ytleookfdngnphaa
