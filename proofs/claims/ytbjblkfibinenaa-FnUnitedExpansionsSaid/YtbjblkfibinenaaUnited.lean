
/-
  For all bytes: two lists are drawn; the program's union is the model's; its parts are parts of it; what is left of its sum less that of one list is the sum of the others. No condition.
-/
import Derived.Test.YtbjblkfibinenaaRat
import Derived.Test.YtbjblkfibinenaaLawK
import Derived.Test.YtbjblkfibinenaaRest
import Derived.Test.YtbjblkfibinenaaSplitsD
import Derived.Test.YtbjblkfibinenaaShell
import Derived.Test.YtbjblkfibinenaaUnite
namespace Go.Proofs.Ytbjblkfibinenaa
open Go.ChangeShapes Go.WideShapes Go.ChangeAt Go.RowKit Go.Joins Go.Deep
def DrawTwo (w : World) (e : Ending) (w' : World) : Prop := ∃ v1 v2 xs ys, e = .returned (.tuple #[v1, v2]) ∧ OwnI w' w.heap.size v1 xs ∧ OwnI w' w.heap.size v2 ys ∧ xs.length ≤ 40 ∧ ys.length ≤ 40 ∧ In64 xs ∧ In64 ys ∧ Below w.heap.size w w'
set_option maxHeartbeats 1000000 in
theorem drawUnite_any (w : World) (A : Option Addr) (n c : Nat) (hr : ReadsB w A n) (hn : n ≤ 1048576) : Calls Try.prog 46 #[.slice A n c] w (DrawTwo w) := by
  have Hr := Lib.hid hr
  clear hr
  go_enter Try.func46, Try.ntmps46
  go_wp2_with fail
  refine (terms_any w _ w.heap.size 0 (by omega) (Cur.start w A n c _ Hr.out hn)).mono ?_; rintro e w1 ⟨v1, xs, rfl, ho1, hl1, hi1, hc1, hg1⟩
  have Ho1 := Lib.hid ho1
  have Hi1 := Lib.hid hi1
  have HC1 := Lib.hid hc1
  have hz1 := hg1.size
  simp only [World.size_alloc] at hz1
  clear ho1 hi1 hc1 hg1
  go_wp2_with fail
  refine (terms_any w _ w.heap.size 100 (by omega) HC1.out).mono ?_; rintro e w2 ⟨v2, ys, rfl, ho2, hl2, hi2, hc2, hg2⟩
  have Ho2 := Lib.hid ho2
  have Hi2 := Lib.hid hi2
  have Hb2 := Lib.hid hc2.base.2.2
  have Hg2 := Lib.hid hg2
  clear ho2 hi2 hc2 hg2
  go_wp2
  go_ret2
  exact ⟨v1, v2, xs, ys, rfl, (Ho1.out.grown Hg2.out (by simp)).mono (by simp), Ho2.out.mono (by omega), hl1, hl2, In64.of_mem Hi1.out, In64.of_mem Hi2.out, Hb2.out⟩
theorem part_self {xs ys : List Int} (h : ∀ z ∈ xs, z ∈ ys) : partB xs ys = true := by
  induction xs with
  | nil => rfl
  | cons x xs ih =>
    rw [part_yes ((hasB_iff ys x).2 (h x (by simp)))]
    exact ih (fun z hz => h z (by simp [hz]))
theorem oth_take {xs ys : List Int} {k : Nat} {y : Int} (h : ys[k]? = some y) : oth xs (ys.take (k + 1)) = oth xs (ys.take k) ++ (if hasB xs y = true then [] else [y]) := by
  have hk : k < ys.length := (List.getElem?_eq_some_iff.1 h).1
  rw [List.take_succ_eq_append_getElem hk, (List.getElem?_eq_some_iff.1 h).2]
  unfold oth
  rw [List.filter_append]
  cases hb : hasB xs y <;> simp [hb]
theorem oth_len (xs ys : List Int) : (oth xs ys).length ≤ ys.length := List.length_filter_le _ _
theorem oth_64 {xs ys : List Int} (h : In64 ys) : In64 (oth xs ys) := In64.of_mem (fun z hz => h.mem z (List.mem_filter.1 hz).1)
theorem exp_mem {xs : List Int} (h : expB xs = true) : ∀ x ∈ xs, 1 ≤ x := fun x hx => (expB_small h x hx).1
theorem united_facts {xs ys U : List Int} {rN rD : Int} (hu : unB xs ys = true) (hU : unL xs ys = U) (hn : redN (sumN U * sumD xs - sumN xs * sumD U) (sumD U * sumD xs) = rN) (hd : redD (sumN U * sumD xs - sumN xs * sumD U) (sumD U * sumD xs) = rD) :
    expB xs = true ∧ expB ys = true ∧ expB U = true ∧ partB xs U = true ∧ partB ys U = true ∧ U.length = xs.length + (oth xs ys).length ∧ sumN xs * sumD U ≤ sumN U * sumD xs ∧
      (redB (sumN U * sumD xs - sumN xs * sumD U) (sumD U * sumD xs) = true → goodB rN rD = true ∧ (redB (sumN xs * rD + rN * sumD xs) (sumD xs * rD) = true → redN (sumN xs * rD + rN * sumD xs) (sumD xs * rD) = sumN U ∧ redD (sumN xs * rD + rN * sumD xs) (sumD xs * rD) = sumD U) ∧ (expB (oth xs ys) = true → eN (oth xs ys) = rN ∧ eD (oth xs ys) = rD)) := by
  have h0 := hu
  simp only [unB, Bool.and_eq_true] at h0
  obtain ⟨⟨hx, hy⟩, hp⟩ := h0
  rw [unL, if_pos hu] at hU
  subst hU
  obtain ⟨c1, c2, c3⟩ := putAll_oth ys (expB_rising hx) (expB_rising hy)
  have q1 := sum_q hx
  have q2 := sum_q hp
  obtain ⟨a1, a2, a3, a4⟩ := good_bounds (good_sum hx)
  obtain ⟨b1, b2, b3, b4⟩ := good_bounds (good_sum hp)
  have hle : sumN xs * sumD (putAll xs ys) ≤ sumN (putAll xs ys) * sumD xs := by
    refine le_rq a3 b3 ?_
    rw [q1, q2, c2]
    have : 0 ≤ sumQ (oth xs ys) := sumQ_nonneg (fun z hz => exp_mem hy z ((List.mem_filter.1 hz).1))
    grind
  refine ⟨hx, hy, hp, part_self (fun z hz => (c3 z).2 (.inl hz)), part_self (fun z hz => (c3 z).2 (.inr hz)), c1, hle, fun hr => ?_⟩
  have gp := good_sum hp
  generalize sumN (putAll xs ys) = N at *
  generalize sumD (putAll xs ys) = D at *
  generalize sumN xs = n at *
  generalize sumD xs = d at *
  have p1 := mul_pos1 b3 a3
  have g := good_of_redB (by omega) p1 hr
  have qr := redN_q p1 hr
  rw [hn, hd] at g qr
  have qr2 : rq rN rD = sumQ (oth xs ys) := by
    rw [qr]
    have e1 := ne0 a3
    have e2 := ne0 b3
    have : rq (N * d - n * D) (D * d) = rq N D - rq n d := by
      unfold rq
      simp only [Rat.intCast_sub, Rat.intCast_mul]
      grind
    rw [this, q1, q2, c2]
    grind
  obtain ⟨r1, r2, r3, r4⟩ := good_bounds g
  refine ⟨g, fun hs => ?_, fun ho => ?_⟩
  · have p2 := mul_pos1 a3 r3
    have p3 := mul_bounds a1 a2 (by omega : 0 ≤ rD) r4
    have p4 := mul_bounds r1 r2 (by omega : 0 ≤ d) a4
    refine good_same (good_of_redB (by omega) p2 hs) gp ?_
    rw [redN_q p2 hs, q2, c2, ← q1, ← qr2]
    have e1 := ne0 a3
    have e2 := ne0 r3
    unfold rq
    simp only [Rat.intCast_add, Rat.intCast_mul]
    grind
  · rw [eN, eD, if_pos ho, if_pos ho]
    refine good_same (good_sum ho) g ?_
    rw [sum_q ho, qr2]
end Go.Proofs.Ytbjblkfibinenaa
