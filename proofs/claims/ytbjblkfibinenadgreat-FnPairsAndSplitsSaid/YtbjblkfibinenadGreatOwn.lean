
/-
  Contracts of the model's own helpers on lists: a copy, and a number put into a rising list.
-/
import Derived.Test.YtbjblkfibinenadGreatLists
import Derived.Test.YtbjblkfibinenadGreatInsP
namespace Go.Proofs.YtbjblkfibinenadGreat
open Go.RowKit
theorem l1Own_any (w : World) (Axs : Option Addr) (cxs : Nat) (xs : List Int) (hxs : Reads w Axs xs) (lxs : xs.length ≤ 1048576) : Calls Tryz.prog 69 #[.slice Axs xs.length cxs] w (RetL xs w) := by
  have Hxs := Lib.hid hxs
  clear hxs
  go_enter Tryz.func69, Tryz.ntmps69
  go_wp2_with (at_builtin; refine wpList_app _ rfl _ _ rfl rfl (OwnI.zero w w.heap.size (Nat.le_refl _)) xs.length cxs rfl rfl (Hxs.out.below (by (repeat' (first | (with_reducible exact Below.refl _ _) | (with_reducible assumption) | (with_reducible refine Below.drew ?_) | (with_reducible refine belowDrewN ?_ _) | (with_reducible refine Below.alloc ?_ ?_ _) | (with_reducible refine Below.setCell ?_ ?_ _) | (with_reducible refine belowStep (by assumption) ?_ ?_) | (with_reducible exact Below.size (by assumption)) | go_size)))) (by simp; omega) (by simp) ?_; intro v3 w3 ho3 hb3 hg3 ht3; clear hg3 ht3)
  go_ret
  exact ⟨_, rfl, by simpa using ho3, by (repeat' (first | (with_reducible exact Below.refl _ _) | (with_reducible assumption) | (with_reducible refine Below.drew ?_) | (with_reducible refine belowDrewN ?_ _) | (with_reducible refine Below.alloc ?_ ?_ _) | (with_reducible refine Below.setCell ?_ ?_ _) | (with_reducible refine belowStep (by assumption) ?_ ?_) | (with_reducible exact Below.size (by assumption)) | go_size))⟩
theorem l1Own_n (w : World) (A : Option Addr) (n c : Nat) (ys : List Int) (hn : ys.length = n) (hr : Reads w A ys) (hl : n ≤ 1048576) : Calls Tryz.prog 69 #[.slice A n c] w (RetL ys w) := by
  subst hn
  exact l1Own_any w A c ys hr hl
/-- what is left by a function that hands out its list again or a new one -/
def RetP (ys xs : List Int) (Axs : Option Addr) (cxs : Nat) (w : World) (e : Ending) (w' : World) : Prop := ∃ A c, e = .returned (.slice A ys.length c) ∧ ys.length ≤ c ∧ Reads w' A ys ∧ Below w.heap.size w w' ∧ (OwnI w' w.heap.size (.slice A ys.length c) ys ∨ (A = Axs ∧ c = cxs ∧ ys = xs))
set_option maxHeartbeats 2000000 in
theorem l1Put_old (w : World) (v : Int) (Axs : Option Addr) (cxs : Nat) (xs : List Int) (hxs : Reads w Axs xs) (lxs : xs.length ≤ 1048576) (hcap : xs.length ≤ cxs) : Calls Tryz.prog 59 #[.slice Axs xs.length cxs, .int .i64 v] w (RetP (putL xs v) xs Axs cxs w) := by
  have Hxs := Lib.hid hxs
  clear hxs
  go_enter Tryz.func59, Tryz.ntmps59
  go_wp2
  go_loopw [5] (fun v5 wr => ∃ k : Nat, k ≤ xs.length ∧ v5 = .int .i64 k ∧ (∀ (i : Nat) (x : Int), i < k → xs[i]? = some x → x < v) ∧ ∃ n, wr = w.drewN n) (fun v5 _ => xs.length - (intOf v5).toNat)
  case atStart => exact ⟨0, Nat.zero_le _, rfl, fun i x h => by omega, 0, rfl⟩
  case round =>
    obtain ⟨k, hk, rfl, hlow, n, rfl⟩ := hrel
    have Hlow := Lib.hid hlow
    clear hlow
    by_cases hlt : k < xs.length
    · obtain ⟨b, o, x, rfl, hb, hx, hcell⟩ := Hxs.out.at_ hlt
      have Hx := Lib.hid hx
      clear hx
      by_cases hv : x < v
      · go_wp2
        go_roundw
        case rel => exact ⟨k + 1, by omega, by go_num, (fun i y hi hy => by
          rcases Nat.lt_or_eq_of_le (Nat.le_of_lt_succ hi) with h | h
          · exact Hlow.out i y h hy
          · subst h; rw [Hx.out] at hy; injection hy with hy; omega), n, rfl⟩
        case measure => simp [intOf]; omega
      · have Hp := Lib.hid (pos_of hk Hlow.out (fun y hy => by rw [Hx.out] at hy; injection hy with hy; omega))
        by_cases he : x = v
        · have hee : (x == v) = true := by simp [he]
          have Hput : Hid (putL xs v = xs) := by show putL xs v = xs; rw [putL, Hp.out, Hx.out, if_pos (by rw [he])]
          clear he
          go_wp2
          go_ret
          rw [Hput.out]
          exact ⟨_, _, rfl, hcap, Hxs.out, by (repeat' (first | (with_reducible exact Below.refl _ _) | (with_reducible assumption) | (with_reducible refine Below.drew ?_) | (with_reducible refine belowDrewN ?_ _) | (with_reducible refine Below.alloc ?_ ?_ _) | (with_reducible refine Below.setCell ?_ ?_ _) | (with_reducible refine belowStep (by assumption) ?_ ?_) | (with_reducible exact Below.size (by assumption)) | go_size)), .inr ⟨rfl, rfl, rfl⟩⟩
        · have hee : (x == v) = false := by simp [he]
          have Hput : Hid (putL xs v = [] ++ xs.take k ++ [v] ++ xs.drop k) := by show putL xs v = _; rw [putL, Hp.out, Hx.out, if_neg (by simpa using he), insAt]; simp
          clear he
          have hcp : ¬ cxs = k := by omega
          go_wp2_with (first
            | (at_builtin; refine wpList_app _ (o := ⟨some 38, _, _, _, _, _⟩) (ys := xs.take k) rfl _ _ rfl rfl (OwnI.zero (w.drewN n) w.heap.size (Nat.le_refl _)) (k) (cxs) (by first | (simp; done) | (simp; omega)) rfl ((Hxs.out.below (by (repeat' (first | (with_reducible exact Below.refl _ _) | (with_reducible assumption) | (with_reducible refine Below.drew ?_) | (with_reducible refine belowDrewN ?_ _) | (with_reducible refine Below.alloc ?_ ?_ _) | (with_reducible refine Below.setCell ?_ ?_ _) | (with_reducible refine belowStep (by assumption) ?_ ?_) | (with_reducible exact Below.size (by assumption)) | go_size)))).cutTo k) (by (try simp only [List.length_take, List.length_nil]); omega) (by first | exact Nat.le_refl _ | ((try simp only [World.size_alloc, World.heap_drewN]); omega)) ?_; intro v3 w3 ho3 hb3 hg3 ht3; clear hg3 ht3; have hz3 := hb3.size; (try simp only [World.size_alloc, World.heap_drewN] at hz3))
            | (at_builtin; refine wpList_app _ (o := ⟨some 42, _, _, _, _, _⟩) (ys := [v]) rfl _ _ rfl rfl (OwnI.below ho3 ((Below.refl _ _).alloc (Nat.le_refl _) _)) (1) (1) (by first | (simp; done) | (simp; omega)) rfl (Reads.one _ v) (by (try simp only [List.length_append, List.length_take, List.length_nil, List.length_cons]); omega) (by first | exact Nat.le_refl _ | ((try simp only [World.size_alloc]); omega)) ?_; intro v4 w4 ho4 hb4 hg4 ht4; clear hg4 ht4; have hz4 := hb4.size; (try simp only [World.size_alloc] at hz4))
            | (at_builtin; refine wpList_app _ (o := ⟨some 47, _, _, _, _, _⟩) (ys := xs.drop k) rfl _ _ rfl rfl (ho4) ((xs.length - k)) ((cxs - k)) (by first | (simp; done) | (simp; omega)) rfl (Reads.cutS (Hxs.out.below (by (repeat' (first | (with_reducible exact Below.refl _ _) | (with_reducible assumption) | (with_reducible refine Below.drew ?_) | (with_reducible refine belowDrewN ?_ _) | (with_reducible refine Below.alloc ?_ ?_ _) | (with_reducible refine Below.setCell ?_ ?_ _) | (with_reducible refine belowStep (by assumption) ?_ ?_) | (with_reducible exact Below.size (by assumption)) | go_size))))) (by (try simp only [List.length_append, List.length_take, List.length_drop, List.length_nil, List.length_cons]); omega) (by first | exact Nat.le_refl _ | ((try simp only [World.size_alloc, World.size_setCell, World.size_drew, World.heap_drewN]); omega)) ?_; intro v5 w5 ho5 hb5 hg5 ht5; clear hg5 ht5; have hz5 := hb5.size; (try simp only [World.size_alloc, World.size_setCell, World.size_drew, World.heap_drewN] at hz5)))
          go_ret
          rw [Hput.out]
          obtain ⟨A5, c5, rfl, hr5⟩ := ho5.form
          exact ⟨_, _, rfl, ho5.cap_, by simpa using hr5, by (repeat' (first | (with_reducible exact Below.refl _ _) | (with_reducible assumption) | (with_reducible refine Below.drew ?_) | (with_reducible refine belowDrewN ?_ _) | (with_reducible refine Below.alloc ?_ ?_ _) | (with_reducible refine Below.setCell ?_ ?_ _) | (with_reducible refine belowStep (by assumption) ?_ ?_) | (with_reducible exact Below.size (by assumption)) | go_size)), .inl (ho5.mono (by (first | (go_size; done) | ((try simp only [World.size_alloc, World.size_setCell, World.size_drew, World.heap_drewN]); omega))))⟩
    · obtain rfl : k = xs.length := by omega
      have Hp := Lib.hid (pos_of hk Hlow.out (fun y hy => by rw [List.getElem?_eq_none (Nat.le_refl _)] at hy; cases hy))
      have Hput : Hid (putL xs v = [] ++ xs.take xs.length ++ [v] ++ []) := by show putL xs v = _; rw [putL, Hp.out, List.getElem?_eq_none (Nat.le_refl _), if_neg (by simp), insAt]; simp
      by_cases hcp : cxs = xs.length
      · subst hcp
        go_wp2_with (first
          | (at_builtin; refine wpList_app _ (o := ⟨some 38, _, _, _, _, _⟩) (ys := xs.take xs.length) rfl _ _ rfl rfl (OwnI.zero (w.drewN n) w.heap.size (Nat.le_refl _)) (xs.length) (xs.length) (by first | (simp; done) | (simp; omega)) rfl ((Hxs.out.below (by (repeat' (first | (with_reducible exact Below.refl _ _) | (with_reducible assumption) | (with_reducible refine Below.drew ?_) | (with_reducible refine belowDrewN ?_ _) | (with_reducible refine Below.alloc ?_ ?_ _) | (with_reducible refine Below.setCell ?_ ?_ _) | (with_reducible refine belowStep (by assumption) ?_ ?_) | (with_reducible exact Below.size (by assumption)) | go_size)))).cutTo xs.length) (by (try simp only [List.length_take, List.length_nil]); omega) (by first | exact Nat.le_refl _ | ((try simp only [World.size_alloc, World.heap_drewN]); omega)) ?_; intro v3 w3 ho3 hb3 hg3 ht3; clear hg3 ht3; have hz3 := hb3.size; (try simp only [World.size_alloc, World.heap_drewN] at hz3))
          | (at_builtin; refine wpList_app _ (o := ⟨some 42, _, _, _, _, _⟩) (ys := [v]) rfl _ _ rfl rfl (OwnI.below ho3 ((Below.refl _ _).alloc (Nat.le_refl _) _)) (1) (1) (by first | (simp; done) | (simp; omega)) rfl (Reads.one _ v) (by (try simp only [List.length_append, List.length_take, List.length_nil, List.length_cons]); omega) (by first | exact Nat.le_refl _ | ((try simp only [World.size_alloc]); omega)) ?_; intro v4 w4 ho4 hb4 hg4 ht4; clear hg4 ht4; have hz4 := hb4.size; (try simp only [World.size_alloc] at hz4))
          | (at_builtin; refine wpList_app _ (o := ⟨some 47, _, _, _, _, _⟩) (ys := []) rfl _ _ rfl rfl (ho4) (0) (0) (by first | (simp; done) | (simp; omega)) rfl (Reads.nil) (by (try simp only [List.length_append, List.length_take, List.length_nil, List.length_cons]); omega) (by first | exact Nat.le_refl _ | ((try simp only [World.size_alloc, World.size_setCell, World.size_drew, World.heap_drewN]); omega)) ?_; intro v5 w5 ho5 hb5 hg5 ht5; clear hg5 ht5; have hz5 := hb5.size; (try simp only [World.size_alloc, World.size_setCell, World.size_drew, World.heap_drewN] at hz5)))
        go_ret
        rw [Hput.out]
        obtain ⟨A5, c5, rfl, hr5⟩ := ho5.form
        exact ⟨_, _, rfl, ho5.cap_, by simpa using hr5, by (repeat' (first | (with_reducible exact Below.refl _ _) | (with_reducible assumption) | (with_reducible refine Below.drew ?_) | (with_reducible refine belowDrewN ?_ _) | (with_reducible refine Below.alloc ?_ ?_ _) | (with_reducible refine Below.setCell ?_ ?_ _) | (with_reducible refine belowStep (by assumption) ?_ ?_) | (with_reducible exact Below.size (by assumption)) | go_size)), .inl (ho5.mono (by (first | (go_size; done) | ((try simp only [World.size_alloc, World.size_setCell, World.size_drew, World.heap_drewN]); omega))))⟩
      · go_wp2_with (first
          | (at_builtin; refine wpList_app _ (o := ⟨some 38, _, _, _, _, _⟩) (ys := xs.take xs.length) rfl _ _ rfl rfl (OwnI.zero (w.drewN n) w.heap.size (Nat.le_refl _)) (xs.length) (cxs) (by first | (simp; done) | (simp; omega)) rfl ((Hxs.out.below (by (repeat' (first | (with_reducible exact Below.refl _ _) | (with_reducible assumption) | (with_reducible refine Below.drew ?_) | (with_reducible refine belowDrewN ?_ _) | (with_reducible refine Below.alloc ?_ ?_ _) | (with_reducible refine Below.setCell ?_ ?_ _) | (with_reducible refine belowStep (by assumption) ?_ ?_) | (with_reducible exact Below.size (by assumption)) | go_size)))).cutTo xs.length) (by (try simp only [List.length_take, List.length_nil]); omega) (by first | exact Nat.le_refl _ | ((try simp only [World.size_alloc, World.heap_drewN]); omega)) ?_; intro v3 w3 ho3 hb3 hg3 ht3; clear hg3 ht3; have hz3 := hb3.size; (try simp only [World.size_alloc, World.heap_drewN] at hz3))
          | (at_builtin; refine wpList_app _ (o := ⟨some 42, _, _, _, _, _⟩) (ys := [v]) rfl _ _ rfl rfl (OwnI.below ho3 ((Below.refl _ _).alloc (Nat.le_refl _) _)) (1) (1) (by first | (simp; done) | (simp; omega)) rfl (Reads.one _ v) (by (try simp only [List.length_append, List.length_take, List.length_nil, List.length_cons]); omega) (by first | exact Nat.le_refl _ | ((try simp only [World.size_alloc]); omega)) ?_; intro v4 w4 ho4 hb4 hg4 ht4; clear hg4 ht4; have hz4 := hb4.size; (try simp only [World.size_alloc] at hz4))
          | (at_builtin; refine wpList_app _ (o := ⟨some 47, _, _, _, _, _⟩) (ys := []) rfl _ _ rfl rfl (ho4) (0) ((cxs - xs.length)) (by first | (simp; done) | (simp; omega)) rfl (Reads.nil) (by (try simp only [List.length_append, List.length_take, List.length_nil, List.length_cons]); omega) (by first | exact Nat.le_refl _ | ((try simp only [World.size_alloc, World.size_setCell, World.size_drew, World.heap_drewN]); omega)) ?_; intro v5 w5 ho5 hb5 hg5 ht5; clear hg5 ht5; have hz5 := hb5.size; (try simp only [World.size_alloc, World.size_setCell, World.size_drew, World.heap_drewN] at hz5)))
        go_ret
        rw [Hput.out]
        obtain ⟨A5, c5, rfl, hr5⟩ := ho5.form
        exact ⟨_, _, rfl, ho5.cap_, by simpa using hr5, by (repeat' (first | (with_reducible exact Below.refl _ _) | (with_reducible assumption) | (with_reducible refine Below.drew ?_) | (with_reducible refine belowDrewN ?_ _) | (with_reducible refine Below.alloc ?_ ?_ _) | (with_reducible refine Below.setCell ?_ ?_ _) | (with_reducible refine belowStep (by assumption) ?_ ?_) | (with_reducible exact Below.size (by assumption)) | go_size)), .inl (ho5.mono (by (first | (go_size; done) | ((try simp only [World.size_alloc, World.size_setCell, World.size_drew, World.heap_drewN]); omega))))⟩
theorem l1Put_any (w : World) (v : Int) (Axs : Option Addr) (cxs : Nat) (xs : List Int) (hxs : Reads w Axs xs) (lxs : xs.length ≤ 1048576) (hcap : xs.length ≤ cxs) : Calls Tryz.prog 59 #[.slice Axs xs.length cxs, .int .i64 v] w (RetR (putL xs v) w) :=
  (l1Put_old w v Axs cxs xs hxs lxs hcap).mono fun _ _ ⟨A, c, h1, h2, h3, h4, _⟩ => ⟨A, c, h1, h2, h3, h4⟩
/-- onto a list of the call's own -/
theorem l1Put_own (w : World) (v : Int) (base : Nat) (A : Option Addr) (c : Nat) (xs : List Int) (hown : OwnI w base (.slice A xs.length c) xs) (lxs : xs.length ≤ 1048576) (hbase : base ≤ w.heap.size) : Calls Tryz.prog 59 #[.slice A xs.length c, .int .i64 v] w (fun e w' => ∃ v', e = .returned v' ∧ OwnI w' base v' (putL xs v) ∧ Below w.heap.size w w') :=
  (l1Put_old w v A c xs hown.reads.1 lxs hown.cap_).mono fun _ _ ⟨A', c', h1, h2, h3, h4, h5⟩ => by
    refine ⟨_, h1, ?_, h4⟩
    rcases h5 with h5 | ⟨rfl, rfl, h5⟩
    · exact h5.mono hbase
    · rw [h5]; exact hown.below h4
end Go.Proofs.YtbjblkfibinenadGreat
