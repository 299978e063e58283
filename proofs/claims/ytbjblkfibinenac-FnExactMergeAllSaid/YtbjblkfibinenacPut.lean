
/-
  Contracts of putting a number into a rising list.
-/
import Derived.Test.YtbjblkfibinenacSearch
import Derived.Test.YtbjblkfibinenacIfExp
namespace Go.Proofs.Ytbjblkfibinenac
open Go.RowKit
set_option maxHeartbeats 2000000 in
theorem putIn_no (w : World) (v : Int) (Axs : Option Addr) (cxs : Nat) (xs : List Int) (hxs : Reads w Axs xs) (lxs : xs.length ≤ 1048576) (hcap : xs.length ≤ cxs) (hs : Rising xs) (hf : hasB xs v = false) :
    Calls Try.prog 132 #[.slice Axs xs.length cxs, .int .i64 v] w (RetLB (insAt xs (pos xs v) v) true w) := by
  have hnf : decide (xs[pos xs v]? = some v) = false := by
    rw [decide_eq_false_iff_not, found_iff hs, hf]; simp
  obtain ⟨i0, hi, hz0, hz1, hz2⟩ := info_parts intInfo
  have hpl := pos_le xs v
  have Hs := Lib.hid hs
  have Hxs := Lib.hid hxs
  clear hs hxs
  generalize hp : pos xs v = p at *
  have Hp := Lib.hid hp
  clear hp
  by_cases hcp : cxs = p
  · obtain rfl : p = xs.length := by omega
    subst hcp
    go_enter Try.func132, Try.ntmps132
    go_wp2_with fail
    refine (search_any _ _ _ _ _ Hxs.out lxs Hs.out).mono ?_; rintro e w1 ⟨rfl, k1, rfl⟩
    rw [Hp.out]
    go_wp2_with (first
      | (at_make; refine wpList_make_own _ rfl _ _ 24 rfl w.heap.size 3 i0 (.int .i64 0) 1 Try.underlying24 hi hz0 hz1 .i64 .i64 _ (xs.length + 1) rfl rfl (by simp) (by rw [hz2]; omega) (by unfold maxLen; omega) (Nat.le_refl _) ?_; intro w2 hown2 hgrow2; have hb2 : Below w.heap.size w w2 := (belowDrewN (Below.refl _ _) k1).grown hgrow2 (Nat.le_refl _) (by simp); have ho2 : OwnI w2 w.heap.size (.slice (some ⟨w.heap.size, 0, none⟩) 0 (xs.length + 1)) [] := hown2; clear hown2 hgrow2; have hz2' := hb2.size)
      | (at_builtin; refine wpList_app _ (o := ⟨some 24, _, _, _, _, _⟩) (ys := xs.take xs.length) rfl _ _ rfl rfl (ho2) (xs.length) (xs.length) (by first | (simp; done) | (simp; omega)) rfl ((Hxs.out.below (by (repeat' (first | (with_reducible exact Below.refl _ _) | (with_reducible assumption) | (with_reducible refine Below.drew ?_) | (with_reducible refine belowDrewN ?_ _) | (with_reducible refine Below.alloc ?_ ?_ _) | (with_reducible refine Below.setCell ?_ ?_ _) | (with_reducible refine belowStep (by assumption) ?_ ?_) | (with_reducible exact Below.size (by assumption)) | go_size)))).cutTo xs.length) (by (try simp only [List.length_take, List.length_nil]); omega) (by first | exact Nat.le_refl _ | ((try simp only [World.size_alloc, World.size_setCell, World.size_drew, World.heap_drewN]); omega)) ?_; intro v3 w3 ho3 hb3 hg3 ht3; clear hg3 ht3; have hz3 := hb3.size; (try simp only [World.size_alloc, World.size_setCell, World.size_drew, World.heap_drewN] at hz3))
      | (at_builtin; refine wpList_app _ (o := ⟨some 28, _, _, _, _, _⟩) (ys := [v]) rfl _ _ rfl rfl (OwnI.below ho3 ((Below.refl _ _).alloc (Nat.le_refl _) _)) (1) (1) (by first | (simp; done) | (simp; omega)) rfl (Reads.one w3 v) (by (try simp only [List.length_append, List.length_take, List.length_nil, List.length_cons]); omega) (by first | exact Nat.le_refl _ | ((try simp only [World.size_alloc]); omega)) ?_; intro v4 w4 ho4 hb4 hg4 ht4; clear hg4 ht4; have hz4 := hb4.size; (try simp only [World.size_alloc] at hz4))
      | (at_builtin; refine wpList_app _ (o := ⟨some 33, _, _, _, _, _⟩) (ys := []) rfl _ _ rfl rfl (ho4) (0) (0) (by first | (simp; done) | (simp; omega)) rfl (Reads.nil) (by (try simp only [List.length_append, List.length_take, List.length_nil, List.length_cons]); omega) (by first | exact Nat.le_refl _ | ((try simp only [World.size_alloc, World.size_setCell, World.size_drew, World.heap_drewN]); omega)) ?_; intro v5 w5 ho5 hb5 hg5 ht5; clear hg5 ht5; have hz5 := hb5.size; (try simp only [World.size_alloc, World.size_setCell, World.size_drew, World.heap_drewN] at hz5)))
    go_ret2
    exact ⟨_, rfl, by simpa [insAt] using ho5, by (repeat' (first | (with_reducible exact Below.refl _ _) | (with_reducible assumption) | (with_reducible refine Below.drew ?_) | (with_reducible refine belowDrewN ?_ _) | (with_reducible refine Below.alloc ?_ ?_ _) | (with_reducible refine Below.setCell ?_ ?_ _) | (with_reducible refine belowStep (by assumption) ?_ ?_) | (with_reducible exact Below.size (by assumption)) | go_size))⟩
  · go_enter Try.func132, Try.ntmps132
    go_wp2_with fail
    refine (search_any _ _ _ _ _ Hxs.out lxs Hs.out).mono ?_; rintro e w1 ⟨rfl, k1, rfl⟩
    rw [Hp.out]
    go_wp2_with (first
      | (at_make; refine wpList_make_own _ rfl _ _ 24 rfl w.heap.size 3 i0 (.int .i64 0) 1 Try.underlying24 hi hz0 hz1 .i64 .i64 _ (xs.length + 1) rfl rfl (by simp) (by rw [hz2]; omega) (by unfold maxLen; omega) (Nat.le_refl _) ?_; intro w2 hown2 hgrow2; have hb2 : Below w.heap.size w w2 := (belowDrewN (Below.refl _ _) k1).grown hgrow2 (Nat.le_refl _) (by simp); have ho2 : OwnI w2 w.heap.size (.slice (some ⟨w.heap.size, 0, none⟩) 0 (xs.length + 1)) [] := hown2; clear hown2 hgrow2; have hz2' := hb2.size)
      | (at_builtin; refine wpList_app _ (o := ⟨some 24, _, _, _, _, _⟩) (ys := xs.take p) rfl _ _ rfl rfl (ho2) (p) (cxs) (by first | (simp; done) | (simp; omega)) rfl ((Hxs.out.below (by (repeat' (first | (with_reducible exact Below.refl _ _) | (with_reducible assumption) | (with_reducible refine Below.drew ?_) | (with_reducible refine belowDrewN ?_ _) | (with_reducible refine Below.alloc ?_ ?_ _) | (with_reducible refine Below.setCell ?_ ?_ _) | (with_reducible refine belowStep (by assumption) ?_ ?_) | (with_reducible exact Below.size (by assumption)) | go_size)))).cutTo p) (by (try simp only [List.length_take, List.length_nil]); omega) (by first | exact Nat.le_refl _ | ((try simp only [World.size_alloc, World.size_setCell, World.size_drew, World.heap_drewN]); omega)) ?_; intro v3 w3 ho3 hb3 hg3 ht3; clear hg3 ht3; have hz3 := hb3.size; (try simp only [World.size_alloc, World.size_setCell, World.size_drew, World.heap_drewN] at hz3))
      | (at_builtin; refine wpList_app _ (o := ⟨some 28, _, _, _, _, _⟩) (ys := [v]) rfl _ _ rfl rfl (OwnI.below ho3 ((Below.refl _ _).alloc (Nat.le_refl _) _)) (1) (1) (by first | (simp; done) | (simp; omega)) rfl (Reads.one w3 v) (by (try simp only [List.length_append, List.length_take, List.length_nil, List.length_cons]); omega) (by first | exact Nat.le_refl _ | ((try simp only [World.size_alloc]); omega)) ?_; intro v4 w4 ho4 hb4 hg4 ht4; clear hg4 ht4; have hz4 := hb4.size; (try simp only [World.size_alloc] at hz4))
      | (at_builtin; refine wpList_app _ (o := ⟨some 33, _, _, _, _, _⟩) (ys := xs.drop p) rfl _ _ rfl rfl (ho4) ((xs.length - p)) ((cxs - p)) (by first | (simp; done) | (simp; omega)) rfl (Reads.cutA (Hxs.out.below (by (repeat' (first | (with_reducible exact Below.refl _ _) | (with_reducible assumption) | (with_reducible refine Below.drew ?_) | (with_reducible refine belowDrewN ?_ _) | (with_reducible refine Below.alloc ?_ ?_ _) | (with_reducible refine Below.setCell ?_ ?_ _) | (with_reducible refine belowStep (by assumption) ?_ ?_) | (with_reducible exact Below.size (by assumption)) | go_size)))) hpl hcap hcp) (by (try simp only [List.length_append, List.length_take, List.length_drop, List.length_nil, List.length_cons]); omega) (by first | exact Nat.le_refl _ | ((try simp only [World.size_alloc, World.size_setCell, World.size_drew, World.heap_drewN]); omega)) ?_; intro v5 w5 ho5 hb5 hg5 ht5; clear hg5 ht5; have hz5 := hb5.size; (try simp only [World.size_alloc, World.size_setCell, World.size_drew, World.heap_drewN] at hz5)))
    go_ret2
    exact ⟨_, rfl, by simpa [insAt] using ho5, by (repeat' (first | (with_reducible exact Below.refl _ _) | (with_reducible assumption) | (with_reducible refine Below.drew ?_) | (with_reducible refine belowDrewN ?_ _) | (with_reducible refine Below.alloc ?_ ?_ _) | (with_reducible refine Below.setCell ?_ ?_ _) | (with_reducible refine belowStep (by assumption) ?_ ?_) | (with_reducible exact Below.size (by assumption)) | go_size))⟩
theorem putIn_yes (w : World) (v : Int) (Axs : Option Addr) (cxs : Nat) (xs : List Int) (hxs : Reads w Axs xs) (lxs : xs.length ≤ 1048576) (hs : Rising xs) (hf : hasB xs v = true) :
    Calls Try.prog 132 #[.slice Axs xs.length cxs, .int .i64 v] w (Ret (.tuple #[.slice none 0 0, .bool false]) w) := by
  have hnf : decide (xs[pos xs v]? = some v) = true := by
    rw [decide_eq_true_iff, found_iff hs, hf]
  have Hs := Lib.hid hs
  have Hxs := Lib.hid hxs
  clear hs hxs
  generalize hp : pos xs v = p at *
  have Hp := Lib.hid hp
  clear hp
  go_enter Try.func132, Try.ntmps132
  go_wp2_with fail
  refine (search_any _ _ _ _ _ Hxs.out lxs Hs.out).mono ?_; rintro e w1 ⟨rfl, k1, rfl⟩
  rw [Hp.out]
  go_wp2
  go_ret2
  exact ⟨rfl, by (repeat' (first | (with_reducible exact Below.refl _ _) | (with_reducible assumption) | (with_reducible refine Below.drew ?_) | (with_reducible refine belowDrewN ?_ _) | (with_reducible refine Below.alloc ?_ ?_ _) | (with_reducible refine Below.setCell ?_ ?_ _) | (with_reducible refine belowStep (by assumption) ?_ ?_) | (with_reducible exact Below.size (by assumption)) | go_size))⟩
end Go.Proofs.Ytbjblkfibinenac
