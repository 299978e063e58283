
/-
  Contracts of the terms of Engel lists, in the program and in the model.
-/
import Derived.Test.YtpfpekfpaknlgaaStepL
namespace Go.Proofs.Ytpfpekfpaknlgaa
open Go.RowKit
def etO (n d : Int) : Option (List Int) := (engO n d).bind (prodL 1)
theorem engO_some {n d : Int} {xs : List Int} (h : engO n d = some xs) : engB xs = true := by
  unfold engO at h
  split at h
  · obtain ⟨es, _, _, hk⟩ := lstO_some h
    exact hk
  · cases h
theorem engB_prod {xs : List Int} (h : engB xs = true) : ∃ ps, prodL 1 xs = some ps ∧ expB ps = true ∧ ps.length = xs.length := by
  obtain ⟨h1, h2, h3⟩ := engB_parts h
  unfold engS at h3
  cases hp : prodL 1 xs with
  | none => rw [hp] at h3; cases h3
  | some ps =>
    rw [hp] at h3
    have h4 : sumL 0 1 ps = some (engN xs, engD xs) := h3
    exact ⟨ps, rfl, by rw [eng_exp h1 h2 hp, h4]; rfl, prodL_len hp⟩
theorem etO_len (n d : Int) : ((etO n d).getD []).length ≤ 24 := by
  unfold etO
  cases h : engO n d with
  | none => simp
  | some xs =>
    obtain ⟨ps, h1, h2, h3⟩ := engB_prod (engO_some h)
    rw [Option.bind_some, h1]
    exact expB_len h2
set_option maxHeartbeats 2000000 in
theorem engelTerms_any (n d : Int) (w : World) (rn : -9223372036854775808 ≤ n ∧ n ≤ 9223372036854775807) (rd : -9223372036854775808 ≤ d ∧ d ≤ 9223372036854775807) : Calls Try.prog 20 #[.agg #[.int .i64 n, .int .i64 d]] w (RetLB ((etO n d).getD []) (etO n d).isSome w) := by
  cases h : engO n d with
  | none =>
    have E : Hid (etO n d = none) := Lib.hid (by unfold etO; rw [h]; rfl)
    have H := Lib.hid h
    clear h
    go_enter Try.func20, Try.ntmps20
    go_wp2_with fail
    refine (engelOf_any _ _ _ rn rd).mono ?_; rintro e w1 ⟨v1, rfl, ho1, hb1⟩; have hz1 := hb1.size; (try simp only [World.size_alloc, World.size_setCell, World.size_drew, World.heap_drewN] at hz1)
    rw [H.out]
    go_wp2
    go_ret2
    rw [E.out]
    exact ⟨_, rfl, OwnI.empty _ _, by (repeat' (first | (with_reducible exact Below.refl _ _) | (with_reducible assumption) | (with_reducible refine Below.drew ?_) | (with_reducible refine belowDrewN ?_ _) | (with_reducible refine Below.alloc ?_ ?_ _) | (with_reducible refine Below.setCell ?_ ?_ _) | (with_reducible refine belowStep (by assumption) ?_ ?_) | (with_reducible exact Below.size (by assumption)) | go_size))⟩
  | some xs =>
    have hb := engO_some h
    have hp := engB_parts hb
    obtain ⟨ps, h1, h2, h3⟩ := engB_prod hb
    have E : Hid (etO n d = some ps) := Lib.hid (by unfold etO; rw [h]; exact h1)
    have P := Lib.hid (prod_some h1)
    have Hin := Lib.hid fun (x : Int) (hx : x ∈ xs) => (by have := up_in (by omega) hp.2.1 x hx; omega : 1 ≤ x ∧ x ≤ 1000000000)
    have hl := hp.1
    have H := Lib.hid h
    clear h hb hp h1 h2 h3
    go_enter Try.func20, Try.ntmps20
    go_wp2_with fail
    refine (engelOf_any _ _ _ rn rd).mono ?_; rintro e w1 ⟨v1, rfl, ho1, hb1⟩; have hz1 := hb1.size; (try simp only [World.size_alloc, World.size_setCell, World.size_drew, World.heap_drewN] at hz1)
    rw [H.out] at ho1
    rw [H.out]
    obtain ⟨A1, c1, rfl, hr1⟩ := (show OwnI w1 _ v1 xs from ho1).form
    have Hr1 := Lib.hid hr1
    clear ho1 hr1
    go_wp2_with fail
    refine (products_any _ _ _ _ Hr1.out (by omega) Hin.out hl).mono ?_; rintro e w2 ⟨v2, rfl, ho2, hb2⟩; have hz2 := hb2.size; (try simp only [World.size_alloc, World.size_setCell, World.size_drew, World.heap_drewN] at hz2)
    rw [P.out.1]
    rw [P.out.2] at ho2
    go_wp2
    go_ret2
    rw [E.out]
    exact ⟨_, rfl, ho2.mono (by (first | (go_size; done) | ((try simp only [World.size_alloc, World.size_setCell, World.size_drew, World.heap_drewN]); omega))), by (repeat' (first | (with_reducible exact Below.refl _ _) | (with_reducible assumption) | (with_reducible refine Below.drew ?_) | (with_reducible refine belowDrewN ?_ _) | (with_reducible refine Below.alloc ?_ ?_ _) | (with_reducible refine Below.setCell ?_ ?_ _) | (with_reducible refine belowStep (by assumption) ?_ ?_) | (with_reducible exact Below.size (by assumption)) | go_size))⟩
end Go.Proofs.Ytpfpekfpaknlgaa
