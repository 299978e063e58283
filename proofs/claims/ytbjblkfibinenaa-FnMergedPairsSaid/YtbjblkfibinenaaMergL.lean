
/-
  Plain facts on merging: the sum is kept, and nothing is left to merge; the model's merge for whatever input; and the draws for the law on merging.
-/
import Derived.Test.YtbjblkfibinenaaMergX
import Derived.Test.YtbjblkfibinenaaRat
import Derived.Test.YtbjblkfibinenaaDrawP
namespace Go.Proofs.Ytbjblkfibinenaa
open Go.RowKit
theorem keep_two_sum {xs : List Int} {i j : Nat} {x y : Int} (hij : i < j) (hxi : xs[i]? = some x) (hxj : xs[j]? = some y) : ∀ k, k ≤ xs.length → sumQ (keepL [(i : Int), (j : Int)] 0 (xs.take k)) + ((if i < k then 1 / (x : Rat) else 0) + (if j < k then 1 / (y : Rat) else 0)) = sumQ (xs.take k)
  | 0, _ => by simp [keepL, sumQ]; grind
  | k + 1, hk => by
    have ih := keep_two_sum hij hxi hxj k (by omega)
    obtain ⟨z, hz⟩ : ∃ z, xs[k]? = some z := ⟨_, List.getElem?_eq_getElem (by omega)⟩
    have et : xs.take (k + 1) = xs.take k ++ [z] := by rw [List.take_add_one, hz]; rfl
    rw [keep_take hz, has_two, et, sumQ_append, sumQ_append]
    by_cases h1 : k = i
    · have a1 : ¬ i < k := by omega
      have a2 : i < k + 1 := by omega
      have a3 : ¬ j < k := by omega
      have a4 : ¬ j < k + 1 := by omega
      have hzx : z = x := by rw [h1, hxi] at hz; injection hz with hz; exact hz.symm
      rw [if_neg a1, if_neg a3] at ih
      rw [if_pos a2, if_neg a4]
      simp [h1, hzx, sumQ] at ih ⊢
      grind
    · by_cases h2 : k = j
      · have a1 : i < k := by omega
        have a2 : i < k + 1 := by omega
        have a3 : ¬ j < k := by omega
        have a4 : j < k + 1 := by omega
        have hzy : z = y := by rw [h2, hxj] at hz; injection hz with hz; exact hz.symm
        rw [if_pos a1, if_neg a3] at ih
        rw [if_pos a2, if_pos a4]
        simp [h2, hzy, sumQ] at ih ⊢
        grind
      · have e1 : (if i < k + 1 then 1 / (x : Rat) else 0) = (if i < k then 1 / (x : Rat) else 0) := by
          by_cases h3 : i < k
          · rw [if_pos h3, if_pos (by omega)]
          · rw [if_neg h3, if_neg (by omega)]
        have e2 : (if j < k + 1 then 1 / (y : Rat) else 0) = (if j < k then 1 / (y : Rat) else 0) := by
          by_cases h3 : j < k
          · rw [if_pos h3, if_pos (by omega)]
          · rw [if_neg h3, if_neg (by omega)]
        rw [e1, e2]
        simp [h1, h2, sumQ] at ih ⊢
        grind
theorem mp_sum {xs : List Int} {i j : Nat} (hij : i < j) (h : mpB xs i j = true) : sumQ (mpL xs i j) = sumQ xs := by
  have h0 := h
  unfold mpB at h0
  simp only [Bool.and_eq_true, decide_eq_true_eq] at h0
  obtain ⟨⟨⟨⟨⟨hx, _⟩, _⟩, hj⟩, hm⟩, hi⟩ := h0
  have hjl : j < xs.length := by omega
  obtain ⟨x, hxi⟩ : ∃ x, xs[i]? = some x := ⟨_, List.getElem?_eq_getElem (by omega)⟩
  obtain ⟨y, hxj⟩ : ∃ y, xs[j]? = some y := ⟨_, List.getElem?_eq_getElem hjl⟩
  have x1 := (expB_small hx x (List.mem_of_getElem? hxi)).1
  have y1 := (expB_small hx y (List.mem_of_getElem? hxj)).1
  rw [term_at hxi, term_at hxj] at hm hi
  have hk := keep_two_sum hij hxi hxj xs.length (Nat.le_refl _)
  rw [List.take_length, if_pos (by omega), if_pos hjl] at hk
  have hr := (expB_rising hx).keep [(i : Int), (j : Int)] 0
  obtain ⟨f1, f2⟩ := into_one hr (x * y / (x + y))
  rw [mpL, if_pos h, term_at hxi, term_at hxj, f2]
  rw [f1] at hi
  rw [if_pos hi]
  simp only [Bool.and_eq_true, Bool.not_eq_true'] at hi
  rw [sumQ_put hr _ hi.1, ← hk]
  have hdv : (x + y) * (x * y / (x + y)) = x * y := Int.mul_ediv_cancel' (Int.dvd_of_emod_eq_zero hm)
  have hxy := mul_pos1 x1 y1
  have hf : 1 ≤ x * y / (x + y) := by
    rcases Int.lt_or_le 0 (x * y / (x + y)) with h1 | h1
    · omega
    · have : (x + y) * (x * y / (x + y)) ≤ (x + y) * 0 := Int.mul_le_mul_of_nonneg_left h1 (by omega)
      omega
  generalize x * y / (x + y) = f at *
  have n1 := ne0 x1
  have n2 := ne0 y1
  have n3 := ne0 hf
  have hq : ((x : Rat) + y) * f = x * y := by exact_mod_cast congrArg (fun z : Int => (z : Rat)) hdv
  have e : 1 / (f : Rat) = 1 / (x : Rat) + 1 / (y : Rat) := by grind
  rw [e]
  grind
theorem mp_keeps {xs : List Int} {i j : Nat} (hij : i < j) (h : mpB xs i j = true) : expB xs = true ∧ expB (mpL xs i j) = true ∧ (mpL xs i j).length + 1 = xs.length ∧ eN (mpL xs i j) = eN xs ∧ eD (mpL xs i j) = eD xs := by
  obtain ⟨a, b⟩ := mp_less hij h
  have hx : expB xs = true := by
    cases hh : expB xs with
    | true => rfl
    | false => rw [mp_exp hh] at h; cases h
  have q1 := sum_q a
  have q2 := sum_q hx
  rw [mp_sum hij h, ← q2] at q1
  obtain ⟨e1, e2⟩ := good_same (good_sum a) (good_sum hx) q1
  exact ⟨hx, a, b, by rw [eN, eN, if_pos a, if_pos hx, e1], by rw [eD, eD, if_pos a, if_pos hx, e2]⟩
theorem mfJ_none {xs : List Int} {i : Nat} : ∀ (k j : Nat), mfJ xs i k j = none → ∀ j', j ≤ j' → j' < j + k → mpB xs i (j' : Nat) = false
  | 0, j, _, j', h1, h2 => by omega
  | k + 1, j, h, j', h1, h2 => by
    cases hb : mpB xs i j with
    | true => rw [mfJ_yes hb] at h; cases h
    | false =>
      rw [mfJ_no hb] at h
      by_cases e : j' = j
      · rw [e]; exact hb
      · exact mfJ_none k (j + 1) h j' (by omega) (by omega)
theorem mfI_all {xs : List Int} : ∀ (k i : Nat), mfI xs k i = none → ∀ i', i ≤ i' → i' < i + k → mfJ xs i' (xs.length - (i' + 1)) (i' + 1) = none
  | 0, i, _, i', h1, h2 => by omega
  | k + 1, i, h, i', h1, h2 => by
    cases hb : mfJ xs i (xs.length - (i + 1)) (i + 1) with
    | some ys => rw [mfI_some hb] at h; cases h
    | none =>
      rw [mfI_none hb] at h
      by_cases e : i' = i
      · rw [e]; exact hb
      · exact mfI_all k (i + 1) h i' (by omega) (by omega)
theorem mf_none {xs : List Int} (h : mf xs = none) (i j : Nat) (hij : i < j) (hj : j < xs.length) : mpB xs (i : Int) (j : Int) = false :=
  mfJ_none _ _ (mfI_all _ _ h i (by omega) (by omega)) j (by omega) (by omega)
theorem mall_end : ∀ (k : Nat) {xs : List Int}, expB xs = true → xs.length ≤ k → mf (mall k xs) = none ∧ expB (mall k xs) = true ∧ eN (mall k xs) = eN xs ∧ eD (mall k xs) = eD xs
  | 0, xs, hx, hl => by
    obtain rfl := List.eq_nil_of_length_eq_zero (by omega : xs.length = 0)
    exact ⟨rfl, hx, rfl, rfl⟩
  | k + 1, xs, hx, hl => by
    cases h : mf xs with
    | none => rw [mall_none h]; exact ⟨h, hx, rfl, rfl⟩
    | some ys =>
      rw [mall_some h]
      obtain ⟨i, j, hij, hb, rfl⟩ := mfI_is _ _ h
      obtain ⟨_, a, b, c, d⟩ := mp_keeps hij hb
      obtain ⟨e1, e2, e3, e4⟩ := mall_end k a (by omega)
      exact ⟨e1, e2, e3.trans c, e4.trans d⟩
structure MergA (xs ys : List Int) : Prop where
  xexp : expB xs = true
  exp : expB ys = true
  sum : eN ys = eN xs ∧ eD ys = eD xs
  few : ys.length ≤ xs.length
  none : ∀ i j : Nat, i < j → j < ys.length → mpB ys (i : Int) (j : Int) = false
  l24 : ys.length ≤ 24
  y64 : In64 ys
theorem maO_back {xs ys : List Int} (h : maO xs = some ys) : MergA xs ys := by
  unfold maO at h
  split at h
  · rename_i hx
    injection h with h
    subst h
    obtain ⟨a, b, c, d⟩ := mall_end xs.length hx (Nat.le_refl _)
    exact ⟨hx, b, ⟨c, d⟩, mall_len _ _, mf_none a, expB_len b, In64.of_mem fun x hx => by have := expB_small b x hx; omega⟩
  · cases h
set_option maxRecDepth 100000 in
set_option maxHeartbeats 4000000 in
theorem spec_mergePair_any (w : World) (i j : Int) (ri : -9223372036854775808 ≤ i ∧ i ≤ 9223372036854775807) (rj : -9223372036854775808 ≤ j ∧ j ≤ 9223372036854775807) (Axs : Option Addr) (cxs : Nat) (xs : List Int) (hxs : Reads w Axs xs) (lxs : xs.length ≤ 1048576) : Calls Try.prog 49 #[.slice Axs xs.length cxs, .int .i64 i, .int .i64 j] w (RetRB (mpL xs i j) (mpB xs i j) w) := by
  by_cases hin : expB xs = true ∧ 0 ≤ i ∧ i < j ∧ j < xs.length
  · obtain ⟨hx, h0, hij, hj⟩ := hin
    obtain ⟨a, rfl⟩ := Int.eq_ofNat_of_zero_le h0
    obtain ⟨b, rfl⟩ := Int.eq_ofNat_of_zero_le (by omega : 0 ≤ j)
    exact spec_mergePair_in w a b Axs cxs xs hxs lxs hx (by omega) (by omega)
  · have Hxs := Lib.hid hxs
    clear hxs
    cases hx : expB xs with
    | false =>
      have E := Lib.hid (mp_exp (i := i) (j := j) hx)
      have E2 := Lib.hid (mp_no E.out)
      have HX := Lib.hid fun (w : World) (h : Reads w Axs xs) => unExpansion_any w Axs cxs xs h lxs
      rw [hx] at HX
      clear hin
      go_enter Try.func49, Try.ntmps49
      go_wp2_with fail
      refine (HX.out _ (Hxs.out.below (by (repeat' (first | (with_reducible exact Below.refl _ _) | (with_reducible assumption) | (with_reducible refine Below.drew ?_) | (with_reducible refine belowDrewN ?_ _) | (with_reducible refine Below.alloc ?_ ?_ _) | (with_reducible refine Below.setCell ?_ ?_ _) | (with_reducible refine belowStep (by assumption) ?_ ?_) | (with_reducible exact Below.size (by assumption)) | go_size))))).mono ?_; rintro e w1 ⟨rfl, hb1⟩
      go_wp2
      go_ret2
      rw [E2.out, E.out]
      exact ret_rnil' (by (repeat' (first | (with_reducible exact Below.refl _ _) | (with_reducible assumption) | (with_reducible refine Below.drew ?_) | (with_reducible refine belowDrewN ?_ _) | (with_reducible refine Below.alloc ?_ ?_ _) | (with_reducible refine Below.setCell ?_ ?_ _) | (with_reducible refine belowStep (by assumption) ?_ ?_) | (with_reducible exact Below.size (by assumption)) | go_size)))
    | true =>
      have hlen := expB_len hx
      have hout : ¬ (0 ≤ i ∧ i < j ∧ j < xs.length) := fun h => hin ⟨hx, h⟩
      have E := Lib.hid (mp_out hout)
      have E2 := Lib.hid (mp_no E.out)
      have HX := Lib.hid fun (w : World) (h : Reads w Axs xs) => unExpansion_any w Axs cxs xs h lxs
      rw [hx] at HX
      clear hin hx
      by_cases hj : 1 ≤ j ∧ j ≤ (xs.length : Int) - 1
      · have hi : ¬ (0 ≤ i ∧ i ≤ j - 1) := fun h => hout ⟨h.1, by omega, by omega⟩
        clear hout
        obtain ⟨hj1, hj2⟩ := hj
        go_enter Try.func49, Try.ntmps49
        go_wp2_with fail
        refine (HX.out _ (Hxs.out.below (by (repeat' (first | (with_reducible exact Below.refl _ _) | (with_reducible assumption) | (with_reducible refine Below.drew ?_) | (with_reducible refine belowDrewN ?_ _) | (with_reducible refine Below.alloc ?_ ?_ _) | (with_reducible refine Below.setCell ?_ ?_ _) | (with_reducible refine belowStep (by assumption) ?_ ?_) | (with_reducible exact Below.size (by assumption)) | go_size))))).mono ?_; rintro e w1 ⟨rfl, hb1⟩
        go_wp2_with fail
        refine (l1In_yes _ _ _ _ hj1 hj2).mono ?_; rintro e w2 ⟨rfl, k2, rfl⟩
        go_wp2_with fail
        refine (l1In_no _ _ _ _ hi).mono ?_; rintro e w3 ⟨rfl, k3, rfl⟩
        go_wp2
        go_ret2
        rw [E2.out, E.out]
        exact ret_rnil' (by (repeat' (first | (with_reducible exact Below.refl _ _) | (with_reducible assumption) | (with_reducible refine Below.drew ?_) | (with_reducible refine belowDrewN ?_ _) | (with_reducible refine Below.alloc ?_ ?_ _) | (with_reducible refine Below.setCell ?_ ?_ _) | (with_reducible refine belowStep (by assumption) ?_ ?_) | (with_reducible exact Below.size (by assumption)) | go_size)))
      · clear hout
        go_enter Try.func49, Try.ntmps49
        go_wp2_with fail
        refine (HX.out _ (Hxs.out.below (by (repeat' (first | (with_reducible exact Below.refl _ _) | (with_reducible assumption) | (with_reducible refine Below.drew ?_) | (with_reducible refine belowDrewN ?_ _) | (with_reducible refine Below.alloc ?_ ?_ _) | (with_reducible refine Below.setCell ?_ ?_ _) | (with_reducible refine belowStep (by assumption) ?_ ?_) | (with_reducible exact Below.size (by assumption)) | go_size))))).mono ?_; rintro e w1 ⟨rfl, hb1⟩
        go_wp2_with fail
        refine (l1In_no _ _ _ _ hj).mono ?_; rintro e w2 ⟨rfl, k2, rfl⟩
        go_wp2
        go_ret2
        rw [E2.out, E.out]
        exact ret_rnil' (by (repeat' (first | (with_reducible exact Below.refl _ _) | (with_reducible assumption) | (with_reducible refine Below.drew ?_) | (with_reducible refine belowDrewN ?_ _) | (with_reducible refine Below.alloc ?_ ?_ _) | (with_reducible refine Below.setCell ?_ ?_ _) | (with_reducible refine belowStep (by assumption) ?_ ?_) | (with_reducible exact Below.size (by assumption)) | go_size)))
set_option maxHeartbeats 2000000 in
theorem drawMergeAll_any (w : World) (A : Option Addr) (n c : Nat) (hr : ReadsB w A n) (hn : n ≤ 1048576) : Calls Try.prog 50 #[.slice A n c] w (DrawnL w) := by
  have HC0 := Lib.hid (beginP w A n c 64 hr hn)
  clear hr
  go_enter Try.func50, Try.ntmps50
  go_wp2_with fail
  refine (terms_any w _ w.heap.size 0 (by omega) HC0.out).mono ?_; rintro e w2 ⟨v, zs, rfl, ho, hl, h64, hc2, hg2⟩
  have hbs := hc2.base.2.2
  clear hc2 hg2
  go_wp2
  go_ret
  exact ⟨v, zs, rfl, ho.mono (by (first | (go_size; done) | ((try simp only [World.size_alloc, World.size_setCell, World.size_drew, World.heap_drewN]); omega))), hl, h64, hbs⟩
end Go.Proofs.Ytbjblkfibinenaa
