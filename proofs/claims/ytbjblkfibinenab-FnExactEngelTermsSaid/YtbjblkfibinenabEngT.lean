
/-
  Contracts of the terms of Engel lists, in the program and in the model.
-/
import Derived.Test.YtbjblkfibinenabStepL
namespace Go.Proofs.Ytbjblkfibinenab
open Go.RowKit
def etO (n d : Int) : Option (List Int) := (engO n d).bind (prodL 1)
theorem engO_some {n d : Int} {xs : List Int} (h : engO n d = some xs) : engB xs = true := by
  unfold engO at h
  split at h
  · obtain ⟨es, _, _, hk⟩ := lstO_some h
    exact hk
  · cases h
theorem engB_prod {xs : List Int} (h : engB xs = true) : ∃ ps, prodL 1 xs = some ps ∧ expB ps = true ∧ ps.length = xs.length := by
  obtain ⟨h1, h2, h3⟩ := engB_parts h
  unfold engS at h3
  cases hp : prodL 1 xs with
  | none => rw [hp] at h3; cases h3
  | some ps =>
    rw [hp] at h3
    have h4 : sumL 0 1 ps = some (engN xs, engD xs) := h3
    exact ⟨ps, rfl, by rw [eng_exp h1 h2 hp, h4]; rfl, prodL_len hp⟩
theorem etO_len (n d : Int) : ((etO n d).getD []).length ≤ 24 := by
  unfold etO
  cases h : engO n d with
  | none => simp
  | some xs =>
    obtain ⟨ps, h1, h2, h3⟩ := engB_prod (engO_some h)
    rw [Option.bind_some, h1]
    exact expB_len h2
set_option maxHeartbeats 2000000 in
theorem engelTerms_any (n d : Int) (w : World) (rn : -9223372036854775808 ≤ n ∧ n ≤ 9223372036854775807) (rd : -9223372036854775808 ≤ d ∧ d ≤ 9223372036854775807) : Calls Try.prog 23 #[.agg #[.int .i64 n, .int .i64 d]] w (RetLB ((etO n d).getD []) (etO n d).isSome w) := by
  cases h : engO n d with
  | none =>
    have E : Hid (etO n d = none) := Lib.hid (by unfold etO; rw [h]; rfl)
    have H := Lib.hid h
    clear h
    go_enter Try.func23, Try.ntmps23
    go_wp2_with fail
    refine (engelOf_any _ _ _ rn rd).mono ?_; rintro e w1 ⟨v1, rfl, ho1, hb1⟩; have hz1 := hb1.size; (try simp only [World.size_alloc] at hz1)
    rw [H.out]
    go_wp2
    go_ret2
    rw [E.out]
    exact ⟨_, rfl, OwnI.empty _ _, by (repeat' (first | (with_reducible exact Below.refl _ _) | (with_reducible assumption) | (with_reducible refine Below.drew ?_) | (with_reducible refine belowDrewN ?_ _) | (with_reducible refine Below.alloc ?_ ?_ _) | (with_reducible refine Below.setCell ?_ ?_ _) | (with_reducible refine belowStep (by assumption) ?_ ?_) | (with_reducible exact Below.size (by assumption)) | go_size))⟩
  | some xs =>
    have hb := engO_some h
    have hp := engB_parts hb
    obtain ⟨ps, h1, h2, h3⟩ := engB_prod hb
    have E : Hid (etO n d = some ps) := Lib.hid (by unfold etO; rw [h]; exact h1)
    have P := Lib.hid (prod_some h1)
    have Hin := Lib.hid fun (x : Int) (hx : x ∈ xs) => (by have := up_in (by omega) hp.2.1 x hx; omega : 1 ≤ x ∧ x ≤ 1000000000)
    have hl := hp.1
    have H := Lib.hid h
    clear h hb hp h1 h2 h3
    go_enter Try.func23, Try.ntmps23
    go_wp2_with fail
    refine (engelOf_any _ _ _ rn rd).mono ?_; rintro e w1 ⟨v1, rfl, ho1, hb1⟩; have hz1 := hb1.size; (try simp only [World.size_alloc] at hz1)
    rw [H.out] at ho1
    rw [H.out]
    obtain ⟨A1, c1, rfl, hr1⟩ := (show OwnI w1 _ v1 xs from ho1).form
    have Hr1 := Lib.hid hr1
    clear ho1 hr1
    go_wp2_with fail
    refine (products_any _ _ _ _ Hr1.out (by omega) Hin.out hl).mono ?_; rintro e w2 ⟨v2, rfl, ho2, hb2⟩; have hz2 := hb2.size; (try simp only [World.size_alloc, World.size_setCell, World.size_drew, World.heap_drewN] at hz2)
    rw [P.out.1]
    rw [P.out.2] at ho2
    go_wp2
    go_ret2
    rw [E.out]
    exact ⟨_, rfl, ho2.mono (by (first | (go_size; done) | ((try simp only [World.size_alloc, World.size_setCell, World.size_drew, World.heap_drewN]); omega))), by (repeat' (first | (with_reducible exact Below.refl _ _) | (with_reducible assumption) | (with_reducible refine Below.drew ?_) | (with_reducible refine belowDrewN ?_ _) | (with_reducible refine Below.alloc ?_ ?_ _) | (with_reducible refine Below.setCell ?_ ?_ _) | (with_reducible refine belowStep (by assumption) ?_ ?_) | (with_reducible exact Below.size (by assumption)) | go_size))⟩
set_option maxRecDepth 100000 in
set_option maxHeartbeats 8000000 in
theorem spec_engelTerms_any (n d : Int) (w : World) : Calls Try.prog 22 #[.agg #[.int .i64 n, .int .i64 d]] w (RetRB ((etO n d).getD []) (etO n d).isSome w) := by
  cases h : engO n d with
  | none =>
    have E : Hid (etO n d = none) := Lib.hid (by unfold etO; rw [h]; rfl)
    have H := Lib.hid h
    clear h
    go_enter Try.func22, Try.ntmps22
    go_wp2_with fail
    refine (spec_engelOf_any _ _ _).mono ?_; rintro e w1 ⟨A1, c1, rfl, hr1, hb1⟩; have hz1 := hb1.size; (try simp only [World.size_alloc] at hz1)
    rw [H.out]
    go_wp2
    go_ret2
    rw [E.out]
    exact ret_rnil' (by (repeat' (first | (with_reducible exact Below.refl _ _) | (with_reducible assumption) | (with_reducible refine Below.drew ?_) | (with_reducible refine belowDrewN ?_ _) | (with_reducible refine Below.alloc ?_ ?_ _) | (with_reducible refine Below.setCell ?_ ?_ _) | (with_reducible refine belowStep (by assumption) ?_ ?_) | (with_reducible exact Below.size (by assumption)) | go_size)))
  | some xs =>
    have hb := engO_some h
    have hp := engB_parts hb
    obtain ⟨ps, h1, h2, h3⟩ := engB_prod hb
    have E : Hid (etO n d = some ps) := Lib.hid (by unfold etO; rw [h]; exact h1)
    have P := Lib.hid h1
    have X := Lib.hid h2
    have hpl := expB_len h2
    have Hin := Lib.hid fun (x : Int) (hx : x ∈ xs) => (by have := up_in (by omega) hp.2.1 x hx; omega : 1 ≤ x ∧ x ≤ 1000000000)
    have hl := hp.1
    have H := Lib.hid h
    clear h hb hp h1 h2 h3
    go_enter Try.func22, Try.ntmps22
    go_wp2_with fail
    refine (spec_engelOf_any _ _ _).mono ?_; rintro e w1 ⟨A1, c1, rfl, hr1, hb1⟩; have hz1 := hb1.size; (try simp only [World.size_alloc] at hz1)
    rw [H.out] at hr1
    rw [H.out]
    have Hr1 := Lib.hid (show Reads w1 A1 xs from hr1)
    clear hr1
    rw [Option.getD_some]
    go_wp2
    go_loopw [6, 7, 19] (fun v6 v7 v19 wr => ∃ (k : Nat) (p : Int) (qs : List Int), k ≤ xs.length ∧ v19 = .int .i64 k ∧ v7 = .int .i64 p ∧ (∃ A c, v6 = .slice A qs.length c) ∧ 1 ≤ p ∧ p ≤ 1000000000 ∧ qs.length ≤ k ∧ prodL 1 xs = (prodL p (xs.drop k)).map (qs ++ ·) ∧ OwnI wr w1.heap.size v6 qs ∧ Below w1.heap.size w1 wr) (fun _ _ v19 _ => xs.length - (intOf v19).toNat)
    case atStart => exact ⟨0, 1, [], Nat.zero_le _, rfl, rfl, ⟨_, _, rfl⟩, by omega, by omega, by simp, by cases h : prodL 1 xs <;> simp [h], OwnI.empty _ _, by (repeat' (first | (with_reducible exact Below.refl _ _) | (with_reducible assumption) | (with_reducible refine Below.drew ?_) | (with_reducible refine belowDrewN ?_ _) | (with_reducible refine Below.alloc ?_ ?_ _) | (with_reducible refine Below.setCell ?_ ?_ _) | (with_reducible refine belowStep (by assumption) ?_ ?_) | (with_reducible exact Below.size (by assumption)) | go_size))⟩
    case round =>
      obtain ⟨k, p, qs, hk, rfl, rfl, ⟨A, c, rfl⟩, p1, p2, hql, hr, ho, hbr⟩ := hrel
      have Hr := Lib.hid hr
      have Ho := Lib.hid ho
      have hzr := hbr.size
      clear hr ho
      by_cases hlt : k < xs.length
      · obtain ⟨b, o, x, rfl, hb, hx, hcell⟩ := (Hr1.out.below hbr).at_ hlt
        obtain ⟨x1, x2⟩ := Hin.out x (List.mem_of_getElem? hx)
        have hm := mul_bounds (a := p) (b := x) (by omega) p2 (by omega) x2
        have hm1 := mul_pos1 p1 x1
        have Hx := Lib.hid (drop_at hx)
        have hle : p * x ≤ 1000000000 := by
          refine Decidable.byContradiction fun hn => ?_
          have := Hr.out
          rw [P.out, Hx.out, prodL_no hn] at this
          cases this
        have Hst := Lib.hid (prodL_yes (xs := xs.drop (k + 1)) hle)
        clear hx
        go_wp2_with (at_builtin; refine wpList_app _ (o := ⟨some 29, _, _, _, _, _⟩) (ys := [p * x]) rfl _ _ rfl rfl (OwnI.below Ho.out (by (repeat' (first | (with_reducible exact Below.refl _ _) | (with_reducible assumption) | (with_reducible refine Below.drew ?_) | (with_reducible refine belowDrewN ?_ _) | (with_reducible refine Below.alloc ?_ ?_ _) | (with_reducible refine Below.setCell ?_ ?_ _) | (with_reducible refine belowStep (by assumption) ?_ ?_) | (with_reducible exact Below.size (by assumption)) | go_size)))) (1) (1) (by first | (simp; done) | (simp; omega)) rfl (Reads.one _ (p * x)) (by (try simp only [List.length_nil, List.length_cons]); omega) (by first | exact Nat.le_refl _ | ((try simp only [World.size_alloc]); omega)) ?_; intro v6 w6 ho6 hb6 hg6 ht6; clear hg6 ht6; have hz6 := hb6.size; (try simp only [World.size_alloc] at hz6))
        obtain ⟨A6, c6, rfl, hr6⟩ := ho6.form
        go_roundw
        case rel => exact ⟨k + 1, p * x, qs ++ [p * x], by omega, by go_num, rfl, ⟨A6, c6, by simp⟩, hm1, hle, by simp; omega, by
            rw [Hr.out, Hx.out, Hst.out, Option.map_map]
            congr 1
            funext z
            simp, by simpa using ho6, by (repeat' (first | (with_reducible exact Below.refl _ _) | (with_reducible assumption) | (with_reducible refine Below.drew ?_) | (with_reducible refine belowDrewN ?_ _) | (with_reducible refine Below.alloc ?_ ?_ _) | (with_reducible refine Below.setCell ?_ ?_ _) | (with_reducible refine belowStep (by assumption) ?_ ?_) | (with_reducible exact Below.size (by assumption)) | go_size))⟩
        case measure => simp [intOf]; omega
      · obtain rfl : k = xs.length := by omega
        have hq : qs = ps := by
          have := Hr.out
          rw [P.out, drop_all] at this
          simp only [prodL, Option.map_some, List.append_nil, Option.some.injEq] at this
          exact this.symm
        subst hq
        obtain ⟨A2, c2, e2, hr2⟩ := Ho.out.form
        injection e2 with e21 e22 e23
        subst e21
        have Hr2 := Lib.hid hr2
        clear hr2
        go_wp2_with fail
        refine (unList_yes _ _ _ _ Hr2.out (by omega) X.out).mono ?_; rintro e w7 ⟨rfl, hb7⟩; have hz7 := hb7.size; (try simp only [World.size_alloc, World.size_setCell, World.size_drew, World.heap_drewN] at hz7)
        go_wp2
        go_ret2
        rw [E.out]
        exact ⟨_, _, rfl, Hr2.out.below hb7, by (repeat' (first | (with_reducible exact Below.refl _ _) | (with_reducible assumption) | (with_reducible refine Below.drew ?_) | (with_reducible refine belowDrewN ?_ _) | (with_reducible refine Below.alloc ?_ ?_ _) | (with_reducible refine Below.setCell ?_ ?_ _) | (with_reducible refine belowStep (by assumption) ?_ ?_) | (with_reducible exact Below.size (by assumption)) | go_size))⟩
end Go.Proofs.Ytbjblkfibinenab
