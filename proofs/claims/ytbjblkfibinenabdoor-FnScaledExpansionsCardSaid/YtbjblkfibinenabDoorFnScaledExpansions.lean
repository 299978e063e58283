import Derived.Test.YtbjblkfibinenabDoorShell
import Derived.Test.YtbjblkfibinenabDoorEnv
import Derived.LaidMore
import Derived.ProofKit
import Derived.OpenShut
import Derived.Lay
import Derived.Stop.Joined
import Derived.Test.YtbjblkfibinenabDoorHas
import Derived.Test.YtbjblkfibinenabDoorSum2
import Derived.Test.YtbjblkfibinenabDoorOrder
import Derived.Test.YtbjblkfibinenabDoorRq
import Derived.Test.YtbjblkfibinenabDoorUnite
import Derived.Test.YtbjblkfibinenabDoorCommon
import Derived.Test.YtbjblkfibinenabDoorScale
import Derived.Test.YtbjblkfibinenabDoorParseQ
import Derived.Lib.Join
import Derived.Test.YtbjblkfibinenabDoorDrawS
import Derived.Test.YtbjblkfibinenabDoorTie
import Derived.Test.YtbjblkfibinenabDoorCards
import Derived.SevenTiedAt
import Derived.Test.YtbjblkfibinenabDoorArith
import Derived.Test.YtbjblkfibinenabDoorLawK

/-
  The common last step of the laws of this seat whose rows list variables: the walk is handed what the list gives.
-/
namespace Go.Proofs.YtbjblkfibinenabDoor
open Go.ChangeShapes Go.WideShapes Go.ChangeAt Go.RowKit Go.Joins Go.Deep
section
variable {H : Type} {enc : TypeId × Value → H}
/-- the wrap with a premise, the world's shape kept -/
theorem handed_and_shaped {a : Assume} {C : Checked} {os : Os} {f : FuncId} {fn : Func} {s : ChangeSpec} {conds : List PathCond} {apart fresh handsOn again : Bool} {X : World → Array Value → Prop}
    (hX : ∀ (w w' : World) (args : Array Value), w.heap = w'.heap → X w args → X w' args)
    (own : ownKnob C.prog.godebug = none) (started : os.Started) (noInit : C.prog.inits.idxOf? f = none) (hfn : C.prog.funcs[f]? = some fn)
    (witness : ∃ (w : World) (tape : Tape) (i : Input), w.os = os ∧ (w.forCall tape i).Shaped C.prog ∧ i.vars = [] ∧ Input.okWide C.prog (w.forCall tape i) .any w.heap.size f i ∧
      ((s.pre enc C.prog fn conds apart (w.forCall tape i).memory i.args ∧ X (w.forCall tape i).memory i.args) ∧ sizedMet enc C.prog fn (OpenSpec.ofChange s) apart (w.forCall tape i).memory i.args) ∧ a.holds C.prog (lone (Frame.enter C.prog f i.args .normal) [] (w.forCall tape i)))
    (contract : ∀ (W : World) (base : Nat) (args : Array Value) (ds gs : List (DataW H)) (before : List MemPlace),
      (∀ (j : Nat) t v, fn.params[j]? = some t → args[j]? = some v → Value.okWide C.prog W .any base t v) →
      DataW.Whole enc C.prog fn.params.toList s.vars apart W args.toList ds gs before →
      conds.all (PathCond.test C.prog ⟨fn.params.toList, ds, s.plain.varTypes C.prog, gs⟩) = true →
      (DataW.weightsEach C.prog (fn.params.toList ++ s.plain.varTypes C.prog) (ds ++ gs)).all (· ≤ reachBytes) = true → X W args → W.ShapedOpen C.prog →
      a.holds C.prog (lone (Frame.enter C.prog f args .normal) [] W) →
      Calls C.prog f args W fun e W' => ∃ v, e = .returned v ∧ s.post enc C.prog fn apart fresh handsOn again W args v W') :
    ReturnsInHanded a C os f .any (fun w args => (s.pre enc C.prog fn conds apart w args ∧ X w args) ∧ sizedMet enc C.prog fn (OpenSpec.ofChange s) apart w args) (s.post enc C.prog fn apart fresh handsOn again) := by
  refine returnsInHanded_of_calls own started noInit witness ?_
  intro w tape i _ hsh _ hok hpre hholds
  obtain ⟨_, _, _, fn', hfn', _, _, _, _, hval⟩ := hok
  have e : fn' = fn := Option.some.inj (hfn'.symm.trans hfn)
  subst e
  obtain ⟨⟨⟨ds, gs, before, hw, hc⟩, hx⟩, hz⟩ := hpre
  have hw' := DataW.Whole.of_heap (w' := w.forCall tape i) (by rfl) hw
  refine (contract (w.forCall tape i) w.heap.size i.args ds gs before hval hw' hc (hz.weights hw) (hX _ _ _ (by rfl) hx) hsh hholds).mono fun e W' ⟨v, he, hp⟩ => ?_
  subst he
  exact ChangeSpec.post_blind hp
end
end Go.Proofs.YtbjblkfibinenabDoor


/-
  Contracts of the tests of a part, and of the rest of a fraction.
-/
namespace Go.Proofs.YtbjblkfibinenabDoor
open Go.RowKit
def partB : List Int → List Int → Bool
  | [], _ => true
  | x :: xs, ys => hasB ys x && partB xs ys
theorem part_yes {xs ys : List Int} {x : Int} (h : hasB ys x = true) : partB (x :: xs) ys = partB xs ys := by simp [partB, h]
theorem part_no {xs ys : List Int} {x : Int} (h : hasB ys x = false) : partB (x :: xs) ys = false := by simp [partB, h]
theorem ret_bbP {a b c d : Bool} (h : a = c) (h2 : b = d) : Ending.returned (.tuple #[.bool a, .bool b]) = .returned (.tuple #[.bool c, .bool d]) := by rw [h, h2]
def bothB (xs ys : List Int) : Bool := expB xs && expB ys
end Go.Proofs.YtbjblkfibinenabDoor


/-
  Plain facts on sums of unit fractions as rational numbers.
-/
namespace Go.Proofs.YtbjblkfibinenabDoor
open Go.RowKit
theorem sumQ_ins (xs : List Int) (p : Nat) (v : Int) : sumQ (insAt xs p v) = 1 / (v : Rat) + sumQ xs := by
  have h : sumQ xs = sumQ (xs.take p) + sumQ (xs.drop p) := by rw [← sumQ_append, List.take_append_drop]
  rw [h, insAt, sumQ_append]
  simp only [sumQ]
  grind
theorem sumQ_put {xs : List Int} (h : Rising xs) (v : Int) (hv : hasB xs v = false) : sumQ (putL xs v) = 1 / (v : Rat) + sumQ xs := by
  rw [put_no h (by rw [hv]; simp), sumQ_ins]
/-- the numbers of ys that are not in xs -/
def oth (xs ys : List Int) : List Int := ys.filter (fun y => !hasB xs y)
theorem has_put {xs : List Int} (h : Rising xs) (a b : Int) : hasB (putL xs a) b = (decide (b = a) || hasB xs b) := by
  by_cases ha : hasB xs a = true
  · rw [put_yes h ha]
    by_cases hb : b = a
    · subst hb; simp [ha]
    · simp [hb]
  · rw [put_no h ha, has_ins]
theorem oth_put {xs : List Int} (h : Rising xs) (y : Int) (ys : List Int) (hy : ∀ z ∈ ys, z ≠ y) : oth (putL xs y) ys = oth xs ys := by
  unfold oth
  apply List.filter_congr
  intro z hz
  rw [has_put h]
  simp [hy z hz]
theorem putAll_oth : ∀ (ys : List Int) {xs : List Int}, Rising xs → Rising ys → (putAll xs ys).length = xs.length + (oth xs ys).length ∧ sumQ (putAll xs ys) = sumQ xs + sumQ (oth xs ys) ∧ (∀ z, z ∈ putAll xs ys ↔ z ∈ xs ∨ z ∈ ys)
  | [], xs, _, _ => ⟨by simp [putAll, oth], by show sumQ xs = sumQ xs + 0; grind, by simp [putAll]⟩
  | y :: ys, xs, hx, hy => by
    have hne : ∀ z ∈ ys, z ≠ y := fun z hz => by have := List.rel_of_pairwise_cons hy hz; omega
    obtain ⟨a, b, c⟩ := putAll_oth ys (hx.put y) (List.pairwise_cons.1 hy).2
    rw [oth_put hx y ys hne] at a b
    have hm : ∀ z, z ∈ putL xs y ↔ z = y ∨ z ∈ xs := fun z => by
      rw [← hasB_iff, has_put hx, Bool.or_eq_true, decide_eq_true_iff, hasB_iff]
    refine ⟨?_, ?_, fun z => ?_⟩
    · cases h : hasB xs y with
      | true =>
        rw [put_yes hx h] at a
        simpa [putAll, put_yes hx h, oth, h] using a
      | false =>
        rw [put_no hx (by rw [h]; simp), ins_len _ _ _ (pos_le xs y)] at a
        rw [putAll, put_no hx (by rw [h]; simp), a]
        simp [oth, h]
        omega
    · cases h : hasB xs y with
      | true =>
        rw [put_yes hx h] at b
        simpa [putAll, put_yes hx h, oth, h] using b
      | false =>
        rw [putAll, b, sumQ_put hx y h]
        simp only [oth, List.filter_cons, h, Bool.not_false, if_true, sumQ]
        grind
    · rw [putAll, c, hm, List.mem_cons]
      grind
end Go.Proofs.YtbjblkfibinenabDoor


/-
  Plain facts: a common multiple makes a sum whole; a scaled list has the sum divided. An expansion is read back from its text; the draw of a list and a number; a whole number as a fraction.
-/
namespace Go.Proofs.YtbjblkfibinenabDoor
theorem lcm_dvd : ∀ {xs : List Int} {m k : Int}, 1 ≤ m → m ≤ 1000000000 → (∀ x ∈ xs, 1 ≤ x) → lcmL m xs = some k → m ∣ k ∧ (∀ x ∈ xs, x ∣ k) ∧ 1 ≤ k ∧ k ≤ 1000000000
  | [], m, k, hm, hm2, _, h => by
    simp only [lcmL] at h
    injection h with h
    subst h
    exact ⟨Int.dvd_refl _, (fun x hx => by cases hx), hm, hm2⟩
  | t :: ts, m, k, hm, hm2, hx, h => by
    have ht := hx t (by simp)
    by_cases hc : m * (t / gcdI m t) ≤ 1000000000
    · rw [lcmL_yes hc] at h
      have hg := gcdI_pos m t (by omega)
      have h1 : 1 ≤ t / gcdI m t := div_pos1 ht (by omega) (gcdI_dvdR m t)
      have h2 : 1 ≤ m * (t / gcdI m t) := mul_pos1 hm h1
      obtain ⟨h3, h4, h5, h6⟩ := lcm_dvd h2 hc (fun x hx' => hx x (by simp [hx'])) h
      refine ⟨Int.dvd_trans (Int.dvd_mul_right _ _) h3, fun x hx' => ?_, h5, h6⟩
      rcases List.mem_cons.1 hx' with rfl | hx'
      · rw [← lcm_swap ht] at h3
        exact Int.dvd_trans (Int.dvd_mul_left _ _) h3
      · exact h4 x hx'
    · rw [lcmL_no hc] at h
      cases h
theorem c_told {xs : List Int} (h : cB xs = true) : expB xs = true ∧ (∀ x ∈ xs, x ∣ cM xs) ∧ 1 ≤ cM xs ∧ cM xs ≤ 1000000000 := by
  have he : expB xs = true := by
    cases he : expB xs with
    | true => rfl
    | false => rw [(c_no he).2] at h; cases h
  cases hl : lcmL 1 xs with
  | none => rw [(c_none hl).2] at h; cases h
  | some m =>
    rw [(c_some he hl).1]
    obtain ⟨_, h2, h3, h4⟩ := lcm_dvd (by omega) (by omega) (fun x hx => (expB_in he).2 x hx |>.1) hl
    exact ⟨he, h2, h3, h4⟩
/-- a multiple of all terms times the sum is whole -/
theorem whole_sum : ∀ {xs : List Int} {m : Int}, (∀ x ∈ xs, 1 ≤ x) → (∀ x ∈ xs, x ∣ m) → ∃ k : Int, (m : Rat) * sumQ xs = (k : Rat)
  | [], m, _, _ => ⟨0, by simp [sumQ]⟩
  | x :: xs, m, h1, h2 => by
    obtain ⟨k, hk⟩ := whole_sum (xs := xs) (m := m) (fun y hy => h1 y (by simp [hy])) (fun y hy => h2 y (by simp [hy]))
    obtain ⟨j, hj⟩ := h2 x (by simp)
    have hx := ne0 (h1 x (by simp))
    refine ⟨j + k, ?_⟩
    rw [sumQ, Rat.mul_add, hk, hj]
    push_cast
    grind
theorem den_one {n d : Int} (hd : 1 ≤ d) {k : Int} (h : n = k * d) : d / gcdI n d = 1 := by
  have : gcdI n d = d := by
    unfold gcdI
    rw [h, Int.gcd_mul_left_left]
    omega
  rw [this]
  exact Int.ediv_self (by omega)
/-- the product of the sum and a common multiple is whole -/
theorem mul_whole {xs : List Int} (h : cB xs = true) (hr : redB (sumN xs * cM xs) (sumD xs * 1) = true) : redD (sumN xs * cM xs) (sumD xs * 1) = 1 := by
  obtain ⟨he, h1, h2, h3⟩ := c_told h
  obtain ⟨k, hk⟩ := whole_sum (fun x hx => ((expB_in he).2 x hx).1) h1
  have hd : 1 ≤ sumD xs := (sumL_q (by omega) (fun x hx => ((expB_in he).2 x hx).1) (expB_parts he).2.2).2
  rw [redD, if_pos hr]
  refine den_one (by omega) (k := k) ?_
  have hq := sum_q he
  have : rq (sumN xs * cM xs) (sumD xs) = rq k 1 := by
    have h4 : rq (sumN xs * cM xs) (sumD xs) = (cM xs : Rat) * rq (sumN xs) (sumD xs) := by
      unfold rq
      push_cast
      grind
    rw [h4, hq, hk]
    unfold rq
    push_cast
    grind
  have h5 := eq_rq hd (by omega) this
  rw [Int.mul_one] at h5
  rw [Int.mul_one, h5]
/-- of two pairs with one value the one in lowest terms is what the other one is reduced to -/
theorem red_to {n d m e : Int} (_ : 0 ≤ n) (hd : 1 ≤ d) (h : goodB m e = true) (hq : rq n d = rq m e) : redB n d = true ∧ redN n d = m ∧ redD n d = e := by
  obtain ⟨m1, m2, e1, e2, hg⟩ := (goodB_iff m e).1 h
  have hr := red_q (n := n) hd
  have hc := gcdI_red (n := n) hd
  have hdp : 1 ≤ d / gcdI n d := div_pos1 hd (by have := gcdI_pos n d (by omega); omega) (gcdI_dvdR n d)
  rw [hq] at hr
  have hx := eq_rq hdp (by omega) hr
  have d1 : d / gcdI n d ∣ e := dvd_cop hc ⟨m, by rw [hx, Int.mul_comm]⟩
  have d2 : e ∣ d / gcdI n d := dvd_cop hg ⟨n / gcdI n d, by rw [← hx, Int.mul_comm]⟩
  have h1 := Int.le_of_dvd (by omega) d1
  have h2 := Int.le_of_dvd (by omega) d2
  have hde : d / gcdI n d = e := by omega
  have hnm : n / gcdI n d = m := by
    rw [hde] at hx
    exact Int.eq_of_mul_eq_mul_right (by omega) hx
  have hb : redB n d = true := redB_yes (by rw [hnm]; exact m2) (by rw [hde]; exact e2)
  exact ⟨hb, by rw [redN, if_pos hb, hnm], by rw [redD, if_pos hb, hde]⟩
theorem sumQ_scale (k : Int) (hk : 1 ≤ k) : ∀ (xs : List Int), (∀ x ∈ xs, 1 ≤ x) → sumQ (xs.map (k * ·)) * (k : Rat) = sumQ xs
  | [], _ => by simp [sumQ]
  | x :: xs, h => by
    have ih := sumQ_scale k hk xs (fun y hy => h y (by simp [hy]))
    have hx := ne0 (h x (by simp))
    have hk' := ne0 hk
    rw [List.map_cons, sumQ, sumQ, Rat.add_mul, ih]
    push_cast
    grind
theorem scale_sum {xs : List Int} {k : Int} (h : scaleB xs k = true) : expB xs = true ∧ 1 ≤ k ∧ k ≤ 1000000000 ∧ expB (scaleL xs k) = true ∧ redB (sumN xs * 1) (sumD xs * k) = true ∧ redN (sumN xs * 1) (sumD xs * k) = eN (scaleL xs k) ∧ redD (sumN xs * 1) (sumD xs * k) = eD (scaleL xs k) := by
  have hL : scaleL xs k = xs.map (k * ·) := by rw [scaleL, if_pos h]
  simp only [scaleB, Bool.and_eq_true, decide_eq_true_eq] at h
  obtain ⟨⟨⟨he, k1⟩, k2⟩, he2⟩ := h
  have hx : ∀ x ∈ xs, 1 ≤ x := fun x hx => ((expB_in he).2 x hx).1
  have hs := sumL_q (by omega) hx (expB_parts he).2.2
  have hg2 := good_sum he2
  have hn0 : 0 ≤ sumN xs := (good_bounds (good_sum he)).1
  have hq := sum_q he
  have hq2 := sum_q he2
  have hsc := sumQ_scale k k1 xs hx
  have hk' := ne0 k1
  have hd' := ne0 hs.2
  have hmul : rq (sumN xs * 1) (sumD xs * k) = rq (sumN (xs.map (k * ·))) (sumD (xs.map (k * ·))) := by
    rw [hq2]
    unfold rq at *
    push_cast
    grind
  obtain ⟨r1, r2, r3⟩ := red_to (by omega) (mul_pos1 hs.2 k1) hg2 hmul
  refine ⟨he, k1, k2, by rw [hL]; exact he2, r1, ?_, ?_⟩
  · rw [r2, hL, eN, if_pos he2]
  · rw [r3, hL, eD, if_pos he2]
end Go.Proofs.YtbjblkfibinenabDoor
namespace Go.Proofs.YtbjblkfibinenabDoor
open Go.RowKit
theorem split_show : ∀ (r : List Int) (y : Int), splitL 43 (dec y ++ Lib.joinTail [43] (r.map dec)) = (y :: r).map dec
  | [], y => by
    simp only [List.map_nil, Lib.joinTail, List.flatten_nil, List.append_nil, List.map_cons]
    exact split_no (dd_no43 _)
  | z :: s, y => by
    have e : Lib.joinTail [43] ((z :: s).map dec) = 43 :: (dec z ++ Lib.joinTail [43] (s.map dec)) := by
      simp [Lib.joinTail]
    rw [e]
    have h := split_mid (b := 43) (x := dec y) (dec z ++ Lib.joinTail [43] (s.map dec)) (dd_no43 _)
    rw [h, split_show s z]
    rfl
theorem modE_show {xs : List Int} (h : ∀ x ∈ xs, 1 ≤ x ∧ x ≤ 1000000000) : modE (showE xs) = xs := by
  match xs, h with
  | [], _ => rfl
  | y :: r, h =>
    have hs : showE (y :: r) = dec y ++ Lib.joinTail [43] (r.map dec) := by
      unfold showE
      rw [List.map_cons, Lib.join_cons]
    have hne : showE (y :: r) ≠ [] := by
      rw [hs]
      intro e
      have := (List.append_eq_nil_iff.1 e).1
      exact dd_ne _ this
    rw [modE, if_neg hne, hs, split_show, List.map_map]
    conv => rhs; rw [← List.map_id (y :: r)]
    apply List.map_congr_left
    intro x hx
    have := h x hx
    show rdI (Lib.decDigits x.toNat) = x
    rw [rdI_dd _ (by omega)]; omega
def DrawLk (w : World) (e : Ending) (w' : World) : Prop := ∃ (v : Value) (xs : List Int) (k : Int), e = .returned (.tuple #[v, .int .i64 k]) ∧ OwnI w' w.heap.size v xs ∧ xs.length ≤ 40 ∧ In64 xs ∧ (-1 ≤ k ∧ k ≤ 1000000001) ∧ Below w.heap.size w w'
set_option maxHeartbeats 4000000 in
theorem drawScale_any (w : World) (A : Option Addr) (n c : Nat) (hr : ReadsB w A n) (hn : n ≤ 1048576) : Calls Tryd.prog 27 #[.slice A n c] w (DrawLk w) := by
  have HC0 := Lib.hid (Cur.start w A n c 67 hr hn)
  clear hr
  go_enter Tryd.func27, Tryd.ntmps27
  go_wp2_with fail
  refine (pick_any w _ w.heap.size 0 (by omega) _ (by omega) HC0.out).mono ?_; rintro e w1 ⟨x, rfl, x0, x1, hc1, hg1⟩
  have HC1 := Lib.hid hc1
  have hz1 := hg1.size
  simp only [World.size_alloc] at hz1
  clear hg1 hc1
  go_wp2_with fail
  refine (one_any w _ w.heap.size 2 (by omega) _ (by omega) HC1.out).mono ?_; rintro e w2 ⟨o, rfl, hc2, hg2⟩
  have HC2 := Lib.hid hc2
  have hz2 := hg2.size
  clear hg2 hc2
  cases o with
  | true =>
    go_wp2_with fail
    refine (among_any w _ w.heap.size 4 (by omega) (-1) 1000000001 _ 6 [-1, 0, 1, 100000000, 1000000000, 1000000001] (Reads.lit w2 _ 6 rfl) (by simp) (by simp) (by simp) (fun a ha => by injection ha with ha; subst ha; show w2.heap.size ≠ w.heap.size; omega) (fun z hz => by simp only [List.mem_cons, List.not_mem_nil, or_false] at hz; omega) (HC2.out.below ((Below.refl _ _).alloc (Nat.le_refl _) _))).mono ?_; rintro e w3 ⟨y, rfl, y0, y1, hc3, hg3⟩
    have HC3 := Lib.hid hc3
    have hz3 := hg3.size
    simp only [World.size_alloc] at hz3
    clear hg3 hc3
    go_wp2_with fail
    refine (terms_any w _ w.heap.size 6 (by omega) HC3.out).mono ?_; rintro e w4 ⟨v4, xs, rfl, ho4, hl4, hi4, hc4, hg4⟩
    have Hi4 := Lib.hid hi4
    have Hb4 := Lib.hid hc4.base.2.2
    have Ho4 := Lib.hid ho4
    clear hg4 hc4 hi4 ho4
    go_wp2
    go_ret2
    exact ⟨_, xs, y, rfl, Ho4.out.mono (by omega), hl4, In64.of_mem Hi4.out, by omega, Hb4.out⟩
  | false =>
    go_wp2_with fail
    refine (terms_any w _ w.heap.size 4 (by omega) HC2.out).mono ?_; rintro e w4 ⟨v4, xs, rfl, ho4, hl4, hi4, hc4, hg4⟩
    have Hi4 := Lib.hid hi4
    have Hb4 := Lib.hid hc4.base.2.2
    have Ho4 := Lib.hid ho4
    clear hg4 hc4 hi4 ho4
    go_wp2
    go_ret2
    exact ⟨_, xs, _, rfl, Ho4.out.mono (by omega), hl4, In64.of_mem Hi4.out, by omega, Hb4.out⟩
theorem pWhole_any (m : Int) (w : World) : Calls Tryd.prog 35 #[.int .i64 m] w (Ret (.agg #[.int .i64 m, .int .i64 1]) w) := by
  go_enter Tryd.func35, Tryd.ntmps35
  go_wp2
  first | (go_ret; exact ⟨rfl, by (repeat' (first | (with_reducible exact Below.refl _ _) | (with_reducible assumption) | (with_reducible refine Below.drew ?_) | (with_reducible refine belowDrewN ?_ _) | (with_reducible refine Below.alloc ?_ ?_ _) | (with_reducible refine Below.setCell ?_ ?_ _) | (with_reducible refine belowStep (by assumption) ?_ ?_) | (with_reducible exact Below.size (by assumption)) | go_size))⟩) | (refine bodyPost_ret (by simp [results, Tryd.results35, go_sem, *]; try rfl) rfl ?_; exact ⟨rfl, by (repeat' (first | (with_reducible exact Below.refl _ _) | (with_reducible assumption) | (with_reducible refine Below.drew ?_) | (with_reducible refine belowDrewN ?_ _) | (with_reducible refine Below.alloc ?_ ?_ _) | (with_reducible refine Below.setCell ?_ ?_ _) | (with_reducible refine belowStep (by assumption) ?_ ?_) | (with_reducible exact Below.size (by assumption)) | go_size))⟩)
end Go.Proofs.YtbjblkfibinenabDoor


/-
  For all bytes: a list and a number are drawn; the sum of the scaled list is the sum divided by the number, a common multiple makes it whole, and the text is read back. Conditions: the library's tables and sentinels hold what its initialisers lay.
-/
namespace Go.Proofs.YtbjblkfibinenabDoor
open Go.ChangeShapes Go.WideShapes Go.ChangeAt Go.RowKit Go.Joins Go.Deep
theorem scaleL_len (xs : List Int) (k : Int) : (scaleL xs k).length ≤ 24 := by
  cases h : scaleB xs k with
  | false => rw [scale_no h]; simp
  | true => exact expB_len (scale_sum h).2.2.2.1
theorem good_one {m : Int} (h0 : 0 ≤ m) (h1 : m ≤ 1000000000) : goodB m 1 = true :=
  (goodB_iff m 1).2 ⟨h0, h1, by omega, by omega, by unfold gcdI; simp⟩
set_option maxRecDepth 100000 in
set_option maxHeartbeats 32000000 in
theorem FnScaledExpansions_walk (w : World) (A : Option Addr) (c n0 : Nat) (B : Option Addr) (c' m0 : Nat) (hA : ReadsB w A n0 ∧ n0 ≤ 9223372036854775807) (hB : ReadsB w B m0 ∧ m0 ≤ 9223372036854775807) (hE : EnvA w) :
    Calls Tryd.prog 7 #[.slice A n0 c, .slice B m0 c'] w (Ret (.bool true) w) := by
  obtain ⟨hA, hn⟩ := hA
  obtain ⟨hB, hm⟩ := hB
  have HA := Lib.hid hA
  have HE := Lib.hid hE
  clear hA hB hE
  cases hbig : bigB n0 m0 with
  | true =>
    go_enter Tryd.func7, Tryd.ntmps7
    go_wp2_with fail
    refine (big_any _ _ _ _ _ _ _ hn hm).mono ?_; rintro e w1 ⟨rfl, k1, rfl⟩
    go_wp2
    go_ret
    exact ⟨rfl, by (repeat' (first | (with_reducible exact Below.refl _ _) | (with_reducible assumption) | (with_reducible refine Below.drew ?_) | (with_reducible refine belowDrewN ?_ _) | (with_reducible refine Below.alloc ?_ ?_ _) | (with_reducible refine Below.setCell ?_ ?_ _) | (with_reducible refine belowStep (by assumption) ?_ ?_) | (with_reducible exact Below.size (by assumption)) | go_size))⟩
  | false =>
    have hn2 : n0 ≤ 1048576 := by
      simp only [bigB, Bool.or_eq_false_iff, decide_eq_false_iff_not] at hbig
      omega
    go_enter Tryd.func7, Tryd.ntmps7
    go_wp2_with fail
    refine (big_any _ _ _ _ _ _ _ hn hm).mono ?_; rintro e w1 ⟨rfl, k1, rfl⟩
    go_wp2_with fail
    refine (drawScale_any _ A n0 c (HA.out.below (by (repeat' (first | (with_reducible exact Below.refl _ _) | (with_reducible assumption) | (with_reducible refine Below.drew ?_) | (with_reducible refine belowDrewN ?_ _) | (with_reducible refine Below.alloc ?_ ?_ _) | (with_reducible refine Below.setCell ?_ ?_ _) | (with_reducible refine belowStep (by assumption) ?_ ?_) | (with_reducible exact Below.size (by assumption)) | go_size)))) hn2).mono ?_; rintro e w2 ⟨v2, xs, k, rfl, ho2, hl2, hi2, hk2, hb2⟩; have hz2 := hb2.size; (try simp only [World.heap_drewN] at hz2)
    clear hbig
    obtain ⟨A2, c2, rfl, hr2⟩ := ho2.form
    have Hxs := Lib.hid hr2
    have H64 := Lib.hid hi2
    have hol := scaleL_len xs k
    have lol : (scaleL xs k).length ≤ 1048576 := by omega
    have lxs : xs.length ≤ 1048576 := by omega
    clear ho2 hr2 hi2
    cases hs : scaleB xs k with
    | true =>
      obtain ⟨he, k1, k2, he2, q1, q2, q3⟩ := scale_sum hs
      have hsm := expB_small he2
      have H64o := Lib.hid (show In64 (scaleL xs k) from In64.of_mem fun z hz => by have := hsm z hz; omega)
      have Hsl := Lib.hid (show ∀ x ∈ scaleL xs k, 0 ≤ x ∧ x ≤ 9223372036854775807 from fun z hz => by have := hsm z hz; omega)
      have hszo : (⟨(showE (scaleL xs k)).toArray⟩ : ByteArray).size ≤ 1048576 := by rw [mk_size]; have := show_len _ Hsl.out; omega
      have HME : Hid (modE (⟨(showE (scaleL xs k)).toArray⟩ : ByteArray).data.toList = scaleL xs k) := by show modE _ = _; rw [mk_list]; exact modE_show hsm
      have Hs := Lib.hid hs
      have He := Lib.hid he
      have He2 := Lib.hid he2
      have Q1 := Lib.hid q1
      have Q2 := Lib.hid q2
      have Q3 := Lib.hid q3
      have hgk := good_one (m := k) (by omega) k2
      have Hgk := Lib.hid hgk
      clear hs he he2 q1 q2 q3 hsm hgk
      go_wp2_with fail
      refine (scale_any _ k (by omega) _ _ _ Hxs.out lxs H64.out).mono ?_; rintro e w3 ⟨v3, rfl, ho3, hb3⟩; have hz3 := hb3.size; (try simp only [World.size_alloc, World.size_setCell, World.size_drew, World.heap_drewN] at hz3)
      obtain ⟨A3, c3, rfl, hr3⟩ := ho3.form
      have H3 := Lib.hid hr3
      clear ho3 hr3
      go_wp2_with fail
      refine (spec_scale_any _ k (by omega) _ _ _ (Hxs.out.below (by (repeat' (first | (with_reducible exact Below.refl _ _) | (with_reducible assumption) | (with_reducible refine Below.drew ?_) | (with_reducible refine belowDrewN ?_ _) | (with_reducible refine Below.alloc ?_ ?_ _) | (with_reducible refine Below.setCell ?_ ?_ _) | (with_reducible refine belowStep (by assumption) ?_ ?_) | (with_reducible exact Below.size (by assumption)) | go_size)))) lxs).mono ?_; rintro e w4 ⟨A4, c4, rfl, hr4, hb4⟩; have hz4 := hb4.size; (try simp only [World.size_alloc, World.size_setCell, World.size_drew, World.heap_drewN] at hz4)
      have H4 := Lib.hid hr4
      clear hr4
      rw [Hs.out]
      go_wp2_with fail
      refine (pSame_same _ _ _ _ _ (scaleL xs k) (H3.out.below (by (repeat' (first | (with_reducible exact Below.refl _ _) | (with_reducible assumption) | (with_reducible refine Below.drew ?_) | (with_reducible refine belowDrewN ?_ _) | (with_reducible refine Below.alloc ?_ ?_ _) | (with_reducible refine Below.setCell ?_ ?_ _) | (with_reducible refine belowStep (by assumption) ?_ ?_) | (with_reducible exact Below.size (by assumption)) | go_size)))) H4.out lol).mono ?_; rintro e w5 ⟨rfl, k5, rfl⟩
      go_wp2_with fail
      refine (common_any _ _ _ _ (Hxs.out.below (by (repeat' (first | (with_reducible exact Below.refl _ _) | (with_reducible assumption) | (with_reducible refine Below.drew ?_) | (with_reducible refine belowDrewN ?_ _) | (with_reducible refine Below.alloc ?_ ?_ _) | (with_reducible refine Below.setCell ?_ ?_ _) | (with_reducible refine belowStep (by assumption) ?_ ?_) | (with_reducible exact Below.size (by assumption)) | go_size)))) lxs H64.out).mono ?_; rintro e w6 ⟨rfl, hb6⟩; have hz6 := hb6.size; (try simp only [World.heap_drewN] at hz6)
      go_wp2_with fail
      refine (spec_common_any _ _ _ _ (Hxs.out.below (by (repeat' (first | (with_reducible exact Below.refl _ _) | (with_reducible assumption) | (with_reducible refine Below.drew ?_) | (with_reducible refine belowDrewN ?_ _) | (with_reducible refine Below.alloc ?_ ?_ _) | (with_reducible refine Below.setCell ?_ ?_ _) | (with_reducible refine belowStep (by assumption) ?_ ?_) | (with_reducible exact Below.size (by assumption)) | go_size)))) lxs).mono ?_; rintro e w7 ⟨rfl, hb7⟩; have hz7 := hb7.size; (try simp only [World.size_alloc, World.size_setCell, World.size_drew, World.heap_drewN] at hz7)
      go_wp2_with fail
      refine (sumOf_any _ _ _ _ (Hxs.out.below (by (repeat' (first | (with_reducible exact Below.refl _ _) | (with_reducible assumption) | (with_reducible refine Below.drew ?_) | (with_reducible refine belowDrewN ?_ _) | (with_reducible refine Below.alloc ?_ ?_ _) | (with_reducible refine Below.setCell ?_ ?_ _) | (with_reducible refine belowStep (by assumption) ?_ ?_) | (with_reducible exact Below.size (by assumption)) | go_size)))) lxs H64.out).mono ?_; rintro e w8 ⟨rfl, hb8⟩; have hz8 := hb8.size; (try simp only [World.size_alloc, World.size_setCell, World.size_drew, World.heap_drewN] at hz8)
      rw [He.out, show eN xs = sumN xs from by rw [eN, if_pos He.out], show eD xs = sumD xs from by rw [eD, if_pos He.out]]
      have Hgs := Lib.hid (good_sum He.out)
      have TS := Lib.hid (TwoAt.new w8 (sumN xs) (sumD xs) 26)
      have HDV := Lib.hid (fun w => by
        have h := div_yes (sumN xs) (sumD xs) k 1 w Hgs.out Hgk.out (by omega)
        rw [Q1.out, Q2.out, Q3.out] at h
        exact h)
      have HPE := Lib.hid (fun w hE => by
        have h := parseE_any ⟨(showE (scaleL xs k)).toArray⟩ w hszo hE
        rw [outE, HME.out, if_pos He2.out, He2.out] at h
        exact h)
      cases hc : cB xs with
      | true =>
        have HMW := Lib.hid (show redB (sumN xs * cM xs) (sumD xs) = true → redD (sumN xs * cM xs) (sumD xs) = 1 from by have h := mul_whole hc; rwa [Int.mul_one] at h)
        obtain ⟨_, dv, m1, m2⟩ := c_told hc
        have HgM := Lib.hid (good_one (m := cM xs) (by omega) m2)
        have Hdv := Lib.hid dv
        have Hpos := Lib.hid (fun x hx => (expB_small He.out x hx).1)
        have Hc := Lib.hid hc
        clear hc dv
        obtain ⟨oS1, oS2, oS3, oS4, oS5⟩ := TS.out
        have sl1 : w8.heap.size < w8.heap.size + 1 + 1 := by omega
        have sl2 : w8.heap.size ≠ w8.heap.size + 1 := by omega
        have sl3 : w8.heap.size + 1 ≠ w8.heap.size := by omega
        go_upto_region 14 with fail
        go_cut [17, 18] (fun s17 s18 wx => ∃ (g1 : Nat) (t : Bool) (dd nn : Int), s17 = .pointer (some ⟨g1, 0, none⟩) ∧ s18 = .bool t ∧ (t = true → dd = 1) ∧ w8.heap.size + 1 ≤ g1 ∧ g1 < wx.heap.size ∧ wx.cell? ⟨g1, 0, none⟩ = some (.int .i64 nn) ∧ wx.cell? ⟨g1, 1, none⟩ = some (.int .i64 dd) ∧ Below (w8.heap.size + 1) (w8.alloc (.cells #[.int .i64 (sumN xs), .int .i64 (sumD xs)] 26)) wx)
        case first =>
          go_region_held3 (fun w' => w'.cell? ⟨w8.heap.size, 0, none⟩ = some (.int .i64 (sumN xs)) ∧ w'.cell? ⟨w8.heap.size, 1, none⟩ = some (.int .i64 (sumD xs))) (go_keep) (first | (go_at_call 35; refine (pWhole_any _ _).mono ?_; rintro e w9 ⟨rfl, hb9⟩; obtain ⟨hc9, hf9⟩ := bcellB hb9; have hz9 := hb9.size; (try simp only [World.size_alloc, World.size_drew] at hc9 hf9 hz9); (try have hy9_00 : w8.heap.size < w9.heap.size := by omega); (try have hn9_00 : w8.heap.size ≠ w9.heap.size := by omega); (try have hm9_00 : w9.heap.size ≠ w8.heap.size := by omega); (try have hp9_00 : w8.heap.size < w9.heap.size + 1 := by omega); (try have hy9_01 : w8.heap.size + 1 < w9.heap.size := by omega); (try have hn9_01 : w8.heap.size + 1 ≠ w9.heap.size := by omega); (try have hm9_01 : w9.heap.size ≠ w8.heap.size + 1 := by omega); (try have hp9_01 : w8.heap.size + 1 < w9.heap.size + 1 := by omega)) | (go_at_call 34; refine (mul_yes _ _ _ _ _ Hgs.out HgM.out).mono ?_; rintro e w10 ⟨rfl, hb10⟩; obtain ⟨hc10, hf10⟩ := bcellB hb10; have hz10 := hb10.size; (try simp only [World.size_alloc] at hc10 hf10 hz10); (try have hy10_00 : w8.heap.size < w10.heap.size := by omega); (try have hn10_00 : w8.heap.size ≠ w10.heap.size := by omega); (try have hm10_00 : w10.heap.size ≠ w8.heap.size := by omega); (try have hp10_00 : w8.heap.size < w10.heap.size + 1 := by omega); (try have hy10_01 : w8.heap.size + 1 < w10.heap.size := by omega); (try have hn10_01 : w8.heap.size + 1 ≠ w10.heap.size := by omega); (try have hm10_01 : w10.heap.size ≠ w8.heap.size + 1 := by omega); (try have hp10_01 : w8.heap.size + 1 < w10.heap.size + 1 := by omega); (try have hy10_10 : w9.heap.size < w10.heap.size := by omega); (try have hn10_10 : w9.heap.size ≠ w10.heap.size := by omega); (try have hm10_10 : w10.heap.size ≠ w9.heap.size := by omega); (try have hp10_10 : w9.heap.size < w10.heap.size + 1 := by omega); (try have hy10_11 : w9.heap.size + 1 < w10.heap.size := by omega); (try have hn10_11 : w9.heap.size + 1 ≠ w10.heap.size := by omega); (try have hm10_11 : w10.heap.size ≠ w9.heap.size + 1 := by omega); (try have hp10_11 : w9.heap.size + 1 < w10.heap.size + 1 := by omega)))
          all_goals go_wp2_with fail
          all_goals go_meet
          all_goals refine ⟨_, _, _, redN (sumN xs * cM xs) (sumD xs), rfl, rfl, HMW.out, ?_, ?_, ?_, ?_, by (repeat' (first | (with_reducible exact Below.refl _ _) | (with_reducible assumption) | (with_reducible refine Below.drew ?_) | (with_reducible refine belowDrewN ?_ _) | (with_reducible refine Below.alloc ?_ ?_ _) | (with_reducible refine Below.setCell ?_ ?_ _) | (with_reducible refine belowStep (by assumption) ?_ ?_) | (with_reducible exact Below.size (by assumption)) | go_size))⟩
          all_goals first | go_size | (first | (simp [*, World.cell?_alloc_some, World.cell?_setCell_far]; done) | (simp [go_sem, *]; done))
        case rest =>
          obtain ⟨w10, rfl⟩ : ∃ w10 : World, w10 = wc := ⟨_, rfl⟩
          obtain ⟨g1, t, dd, nn, rfl, rfl, htd, hg1, hg1b, hm1, hm2', hb10⟩ := hcut
          have hz10 := hb10.size
          (try simp only [World.size_alloc] at hz10)
          clear oS1 oS2 oS3 oS4 oS5
          have TS := Lib.hid (TS.out.below (w' := w10) (by simpa using hb10))
          cases t with
          | true =>
            have hdd := htd rfl
            subst hdd
            clear htd
            go_wp2
            go_loop [99] (fun v99 => ∃ j : Nat, j ≤ xs.length ∧ v99 = .int .i64 j) (fun v99 => xs.length - (intOf v99).toNat)
            case atStart => exact ⟨0, Nat.zero_le _, rfl⟩
            case round =>
              obtain ⟨j, hj, rfl⟩ := hrel
              by_cases hlt : j < xs.length
              · obtain ⟨b, o, x, rfl, hb, hx, hcell⟩ := (Hxs.out.below (by (repeat' (first | (with_reducible exact Below.refl _ _) | (with_reducible assumption) | (with_reducible refine Below.drew ?_) | (with_reducible refine belowDrewN ?_ _) | (with_reducible refine Below.alloc ?_ ?_ _) | (with_reducible refine Below.setCell ?_ ?_ _) | (with_reducible refine belowStep (by assumption) ?_ ?_) | (with_reducible exact Below.size (by assumption)) | go_size)) : Below w2.heap.size w2 w10)).at_ hlt
                have hxm := List.mem_of_getElem? hx
                have hx1 := Hpos.out x hxm
                have hmd : (cM xs % x != 0) = false := by rw [Int.emod_eq_zero_of_dvd (Hdv.out x hxm)]; rfl
                have hmd2 : ((cM xs).tmod x != 0) = false := by rw [Int.tmod_eq_emod_of_nonneg (by omega), Int.emod_eq_zero_of_dvd (Hdv.out x hxm)]; rfl
                clear hx hxm
                go_wp2
                go_round
                case rel => exact ⟨j + 1, by omega, by go_num⟩
                case measure => simp [intOf]; omega
              · obtain rfl : j = xs.length := by omega
                obtain ⟨oS1, oS2, oS3, oS4, oS5⟩ := TS.out
                (try have sl4 : w8.heap.size < w10.heap.size := by omega)
                (try have sl5 : w8.heap.size < w10.heap.size + 1 := by omega)
                (try have sl6 : w8.heap.size ≠ w10.heap.size := by omega)
                (try have sl7 : w10.heap.size ≠ w8.heap.size := by omega)
                have sl1 : w8.heap.size < w8.heap.size + 1 + 1 := by omega
                have sl2 : w8.heap.size ≠ w8.heap.size + 1 := by omega
                have sl3 : w8.heap.size + 1 ≠ w8.heap.size := by omega
                go_upto_region 25 with fail
                go_cut [21, 22] (fun s21 s22 wx => ∃ g2 : Nat, s21 = .pointer (some ⟨g2, 0, none⟩) ∧ s22 = .bool true ∧ w10.heap.size ≤ g2 ∧ g2 < wx.heap.size ∧ wx.cell? ⟨g2, 0, none⟩ = some (.int .i64 (eN (scaleL xs k))) ∧ wx.cell? ⟨g2, 1, none⟩ = some (.int .i64 (eD (scaleL xs k))) ∧ Below w10.heap.size w10 wx)
                case first =>
                  go_region_held3 (fun w' => w'.cell? ⟨w8.heap.size, 0, none⟩ = some (.int .i64 (sumN xs)) ∧ w'.cell? ⟨w8.heap.size, 1, none⟩ = some (.int .i64 (sumD xs))) (go_keep) (first | (go_at_call 35; refine (pWhole_any _ _).mono ?_; rintro e w21 ⟨rfl, hb21⟩; obtain ⟨hc21, hf21⟩ := bcellB hb21; have hz21 := hb21.size; (try simp only [World.size_alloc, World.size_drew] at hc21 hf21 hz21); (try have hy21_00 : w8.heap.size < w21.heap.size := by omega); (try have hn21_00 : w8.heap.size ≠ w21.heap.size := by omega); (try have hm21_00 : w21.heap.size ≠ w8.heap.size := by omega); (try have hp21_00 : w8.heap.size < w21.heap.size + 1 := by omega); (try have hy21_01 : w8.heap.size + 1 < w21.heap.size := by omega); (try have hn21_01 : w8.heap.size + 1 ≠ w21.heap.size := by omega); (try have hm21_01 : w21.heap.size ≠ w8.heap.size + 1 := by omega); (try have hp21_01 : w8.heap.size + 1 < w21.heap.size + 1 := by omega); (try have hy21_10 : w10.heap.size < w21.heap.size := by omega); (try have hn21_10 : w10.heap.size ≠ w21.heap.size := by omega); (try have hm21_10 : w21.heap.size ≠ w10.heap.size := by omega); (try have hp21_10 : w10.heap.size < w21.heap.size + 1 := by omega); (try have hy21_11 : w10.heap.size + 1 < w21.heap.size := by omega); (try have hn21_11 : w10.heap.size + 1 ≠ w21.heap.size := by omega); (try have hm21_11 : w21.heap.size ≠ w10.heap.size + 1 := by omega); (try have hp21_11 : w10.heap.size + 1 < w21.heap.size + 1 := by omega)) | (go_at_call 36; refine (HDV.out _).mono ?_; rintro e w22 ⟨rfl, hb22⟩; obtain ⟨hc22, hf22⟩ := bcellB hb22; have hz22 := hb22.size; (try simp only [World.size_alloc] at hc22 hf22 hz22); (try have hy22_00 : w8.heap.size < w22.heap.size := by omega); (try have hn22_00 : w8.heap.size ≠ w22.heap.size := by omega); (try have hm22_00 : w22.heap.size ≠ w8.heap.size := by omega); (try have hp22_00 : w8.heap.size < w22.heap.size + 1 := by omega); (try have hy22_01 : w8.heap.size + 1 < w22.heap.size := by omega); (try have hn22_01 : w8.heap.size + 1 ≠ w22.heap.size := by omega); (try have hm22_01 : w22.heap.size ≠ w8.heap.size + 1 := by omega); (try have hp22_01 : w8.heap.size + 1 < w22.heap.size + 1 := by omega); (try have hy22_10 : w10.heap.size < w22.heap.size := by omega); (try have hn22_10 : w10.heap.size ≠ w22.heap.size := by omega); (try have hm22_10 : w22.heap.size ≠ w10.heap.size := by omega); (try have hp22_10 : w10.heap.size < w22.heap.size + 1 := by omega); (try have hy22_11 : w10.heap.size + 1 < w22.heap.size := by omega); (try have hn22_11 : w10.heap.size + 1 ≠ w22.heap.size := by omega); (try have hm22_11 : w22.heap.size ≠ w10.heap.size + 1 := by omega); (try have hp22_11 : w10.heap.size + 1 < w22.heap.size + 1 := by omega); (try have hy22_20 : w21.heap.size < w22.heap.size := by omega); (try have hn22_20 : w21.heap.size ≠ w22.heap.size := by omega); (try have hm22_20 : w22.heap.size ≠ w21.heap.size := by omega); (try have hp22_20 : w21.heap.size < w22.heap.size + 1 := by omega); (try have hy22_21 : w21.heap.size + 1 < w22.heap.size := by omega); (try have hn22_21 : w21.heap.size + 1 ≠ w22.heap.size := by omega); (try have hm22_21 : w22.heap.size ≠ w21.heap.size + 1 := by omega); (try have hp22_21 : w21.heap.size + 1 < w22.heap.size + 1 := by omega)))
                  all_goals go_wp2_with fail
                  all_goals go_meet
                  all_goals refine ⟨_, rfl, rfl, ?_, ?_, ?_, ?_, by (repeat' (first | (with_reducible exact Below.refl _ _) | (with_reducible assumption) | (with_reducible refine Below.drew ?_) | (with_reducible refine belowDrewN ?_ _) | (with_reducible refine Below.alloc ?_ ?_ _) | (with_reducible refine Below.setCell ?_ ?_ _) | (with_reducible refine belowStep (by assumption) ?_ ?_) | (with_reducible exact Below.size (by assumption)) | go_size))⟩
                  all_goals first | go_size | (first | (simp [*, World.cell?_alloc_some, World.cell?_setCell_far]; done) | (simp [go_sem, *]; done))
                case rest =>
                  obtain ⟨w25, rfl⟩ : ∃ w25 : World, w25 = wc := ⟨_, rfl⟩
                  obtain ⟨g2, rfl, rfl, hga, hgb, hl1, hl2, hb25⟩ := hcut
                  have hz25 := hb25.size
                  (try simp only [World.size_alloc] at hz25 hga)
                  have HL1 := Lib.hid hl1
                  have HL2 := Lib.hid hl2
                  clear hl1 hl2
                  clear oS1 oS2 oS3 oS4 oS5
                  go_wp2_with fail
                  refine (textE_yes _ _ _ _ (H3.out.below (by (repeat' (first | (with_reducible exact Below.refl _ _) | (with_reducible assumption) | (with_reducible refine Below.drew ?_) | (with_reducible refine belowDrewN ?_ _) | (with_reducible refine Below.alloc ?_ ?_ _) | (with_reducible refine Below.setCell ?_ ?_ _) | (with_reducible refine belowStep (by assumption) ?_ ?_) | (with_reducible exact Below.size (by assumption)) | go_size)))) lol He2.out ((HE.out.below (by (repeat' (first | (with_reducible exact Below.refl _ _) | (with_reducible assumption) | (with_reducible refine Below.drew ?_) | (with_reducible refine belowDrewN ?_ _) | (with_reducible refine Below.alloc ?_ ?_ _) | (with_reducible refine Below.setCell ?_ ?_ _) | (with_reducible refine belowStep (by assumption) ?_ ?_) | (with_reducible exact Below.size (by assumption)) | go_size)))).1)).mono ?_; rintro e w26 ⟨rfl, hb26⟩; have hz26 := hb26.size; (try simp only [World.size_alloc, World.size_setCell, World.size_drew, World.heap_drewN] at hz26)
                  go_wp2_with fail
                  refine (HPE.out _ (HE.out.below (by (repeat' (first | (with_reducible exact Below.refl _ _) | (with_reducible assumption) | (with_reducible refine Below.drew ?_) | (with_reducible refine belowDrewN ?_ _) | (with_reducible refine Below.alloc ?_ ?_ _) | (with_reducible refine Below.setCell ?_ ?_ _) | (with_reducible refine belowStep (by assumption) ?_ ?_) | (with_reducible exact Below.size (by assumption)) | go_size))))).mono ?_; rintro e w27 ⟨v27, rfl, ho27, hb27⟩; have hz27 := hb27.size; (try simp only [World.size_alloc, World.size_setCell, World.size_drew, World.heap_drewN] at hz27)
                  obtain ⟨A27, c27, rfl, hr27⟩ := ho27.form
                  have H27 := Lib.hid hr27
                  clear ho27 hr27
                  have L1 := (hb27.cell (p := ⟨g2, 0, none⟩) (show g2 < w26.heap.size by omega)).trans ((hb26.cell (p := ⟨g2, 0, none⟩) hgb).trans HL1.out)
                  have L2 := (hb27.cell (p := ⟨g2, 1, none⟩) (show g2 < w26.heap.size by omega)).trans ((hb26.cell (p := ⟨g2, 1, none⟩) hgb).trans HL2.out)
                  go_wp2_with fail
                  refine (pSums_yes _ _ _ _ _ _ (H3.out.below (by (repeat' (first | (with_reducible exact Below.refl _ _) | (with_reducible assumption) | (with_reducible refine Below.drew ?_) | (with_reducible refine belowDrewN ?_ _) | (with_reducible refine Below.alloc ?_ ?_ _) | (with_reducible refine Below.setCell ?_ ?_ _) | (with_reducible refine belowStep (by assumption) ?_ ?_) | (with_reducible exact Below.size (by assumption)) | go_size)))) lol H64o.out He2.out rfl rfl).mono ?_; rintro e w28 ⟨rfl, hb28⟩; have hz28 := hb28.size; (try simp only [World.size_alloc, World.size_setCell, World.size_drew, World.heap_drewN] at hz28)
                  go_wp2_with fail
                  refine (pSame_same _ _ _ _ _ (scaleL xs k) (H27.out.below (by (repeat' (first | (with_reducible exact Below.refl _ _) | (with_reducible assumption) | (with_reducible refine Below.drew ?_) | (with_reducible refine belowDrewN ?_ _) | (with_reducible refine Below.alloc ?_ ?_ _) | (with_reducible refine Below.setCell ?_ ?_ _) | (with_reducible refine belowStep (by assumption) ?_ ?_) | (with_reducible exact Below.size (by assumption)) | go_size)))) (H3.out.below (by (repeat' (first | (with_reducible exact Below.refl _ _) | (with_reducible assumption) | (with_reducible refine Below.drew ?_) | (with_reducible refine belowDrewN ?_ _) | (with_reducible refine Below.alloc ?_ ?_ _) | (with_reducible refine Below.setCell ?_ ?_ _) | (with_reducible refine belowStep (by assumption) ?_ ?_) | (with_reducible exact Below.size (by assumption)) | go_size)))) lol).mono ?_; rintro e w29 ⟨rfl, k29, rfl⟩
                  go_wp2
                  go_ret
                  exact ⟨rfl, by (repeat' (first | (with_reducible exact Below.refl _ _) | (with_reducible assumption) | (with_reducible refine Below.drew ?_) | (with_reducible refine belowDrewN ?_ _) | (with_reducible refine Below.alloc ?_ ?_ _) | (with_reducible refine Below.setCell ?_ ?_ _) | (with_reducible refine belowStep (by assumption) ?_ ?_) | (with_reducible exact Below.size (by assumption)) | go_size))⟩
          | false =>
            clear htd
            go_wp2
            go_loop [99] (fun v99 => ∃ j : Nat, j ≤ xs.length ∧ v99 = .int .i64 j) (fun v99 => xs.length - (intOf v99).toNat)
            case atStart => exact ⟨0, Nat.zero_le _, rfl⟩
            case round =>
              obtain ⟨j, hj, rfl⟩ := hrel
              by_cases hlt : j < xs.length
              · obtain ⟨b, o, x, rfl, hb, hx, hcell⟩ := (Hxs.out.below (by (repeat' (first | (with_reducible exact Below.refl _ _) | (with_reducible assumption) | (with_reducible refine Below.drew ?_) | (with_reducible refine belowDrewN ?_ _) | (with_reducible refine Below.alloc ?_ ?_ _) | (with_reducible refine Below.setCell ?_ ?_ _) | (with_reducible refine belowStep (by assumption) ?_ ?_) | (with_reducible exact Below.size (by assumption)) | go_size)) : Below w2.heap.size w2 w10)).at_ hlt
                have hxm := List.mem_of_getElem? hx
                have hx1 := Hpos.out x hxm
                have hmd : (cM xs % x != 0) = false := by rw [Int.emod_eq_zero_of_dvd (Hdv.out x hxm)]; rfl
                have hmd2 : ((cM xs).tmod x != 0) = false := by rw [Int.tmod_eq_emod_of_nonneg (by omega), Int.emod_eq_zero_of_dvd (Hdv.out x hxm)]; rfl
                clear hx hxm
                go_wp2
                go_round
                case rel => exact ⟨j + 1, by omega, by go_num⟩
                case measure => simp [intOf]; omega
              · obtain rfl : j = xs.length := by omega
                obtain ⟨oS1, oS2, oS3, oS4, oS5⟩ := TS.out
                (try have sl4 : w8.heap.size < w10.heap.size := by omega)
                (try have sl5 : w8.heap.size < w10.heap.size + 1 := by omega)
                (try have sl6 : w8.heap.size ≠ w10.heap.size := by omega)
                (try have sl7 : w10.heap.size ≠ w8.heap.size := by omega)
                have sl1 : w8.heap.size < w8.heap.size + 1 + 1 := by omega
                have sl2 : w8.heap.size ≠ w8.heap.size + 1 := by omega
                have sl3 : w8.heap.size + 1 ≠ w8.heap.size := by omega
                go_upto_region 25 with fail
                go_cut [21, 22] (fun s21 s22 wx => ∃ g2 : Nat, s21 = .pointer (some ⟨g2, 0, none⟩) ∧ s22 = .bool true ∧ w10.heap.size ≤ g2 ∧ g2 < wx.heap.size ∧ wx.cell? ⟨g2, 0, none⟩ = some (.int .i64 (eN (scaleL xs k))) ∧ wx.cell? ⟨g2, 1, none⟩ = some (.int .i64 (eD (scaleL xs k))) ∧ Below w10.heap.size w10 wx)
                case first =>
                  go_region_held3 (fun w' => w'.cell? ⟨w8.heap.size, 0, none⟩ = some (.int .i64 (sumN xs)) ∧ w'.cell? ⟨w8.heap.size, 1, none⟩ = some (.int .i64 (sumD xs))) (go_keep) (first | (go_at_call 35; refine (pWhole_any _ _).mono ?_; rintro e w21 ⟨rfl, hb21⟩; obtain ⟨hc21, hf21⟩ := bcellB hb21; have hz21 := hb21.size; (try simp only [World.size_alloc, World.size_drew] at hc21 hf21 hz21); (try have hy21_00 : w8.heap.size < w21.heap.size := by omega); (try have hn21_00 : w8.heap.size ≠ w21.heap.size := by omega); (try have hm21_00 : w21.heap.size ≠ w8.heap.size := by omega); (try have hp21_00 : w8.heap.size < w21.heap.size + 1 := by omega); (try have hy21_01 : w8.heap.size + 1 < w21.heap.size := by omega); (try have hn21_01 : w8.heap.size + 1 ≠ w21.heap.size := by omega); (try have hm21_01 : w21.heap.size ≠ w8.heap.size + 1 := by omega); (try have hp21_01 : w8.heap.size + 1 < w21.heap.size + 1 := by omega); (try have hy21_10 : w10.heap.size < w21.heap.size := by omega); (try have hn21_10 : w10.heap.size ≠ w21.heap.size := by omega); (try have hm21_10 : w21.heap.size ≠ w10.heap.size := by omega); (try have hp21_10 : w10.heap.size < w21.heap.size + 1 := by omega); (try have hy21_11 : w10.heap.size + 1 < w21.heap.size := by omega); (try have hn21_11 : w10.heap.size + 1 ≠ w21.heap.size := by omega); (try have hm21_11 : w21.heap.size ≠ w10.heap.size + 1 := by omega); (try have hp21_11 : w10.heap.size + 1 < w21.heap.size + 1 := by omega)) | (go_at_call 36; refine (HDV.out _).mono ?_; rintro e w22 ⟨rfl, hb22⟩; obtain ⟨hc22, hf22⟩ := bcellB hb22; have hz22 := hb22.size; (try simp only [World.size_alloc] at hc22 hf22 hz22); (try have hy22_00 : w8.heap.size < w22.heap.size := by omega); (try have hn22_00 : w8.heap.size ≠ w22.heap.size := by omega); (try have hm22_00 : w22.heap.size ≠ w8.heap.size := by omega); (try have hp22_00 : w8.heap.size < w22.heap.size + 1 := by omega); (try have hy22_01 : w8.heap.size + 1 < w22.heap.size := by omega); (try have hn22_01 : w8.heap.size + 1 ≠ w22.heap.size := by omega); (try have hm22_01 : w22.heap.size ≠ w8.heap.size + 1 := by omega); (try have hp22_01 : w8.heap.size + 1 < w22.heap.size + 1 := by omega); (try have hy22_10 : w10.heap.size < w22.heap.size := by omega); (try have hn22_10 : w10.heap.size ≠ w22.heap.size := by omega); (try have hm22_10 : w22.heap.size ≠ w10.heap.size := by omega); (try have hp22_10 : w10.heap.size < w22.heap.size + 1 := by omega); (try have hy22_11 : w10.heap.size + 1 < w22.heap.size := by omega); (try have hn22_11 : w10.heap.size + 1 ≠ w22.heap.size := by omega); (try have hm22_11 : w22.heap.size ≠ w10.heap.size + 1 := by omega); (try have hp22_11 : w10.heap.size + 1 < w22.heap.size + 1 := by omega); (try have hy22_20 : w21.heap.size < w22.heap.size := by omega); (try have hn22_20 : w21.heap.size ≠ w22.heap.size := by omega); (try have hm22_20 : w22.heap.size ≠ w21.heap.size := by omega); (try have hp22_20 : w21.heap.size < w22.heap.size + 1 := by omega); (try have hy22_21 : w21.heap.size + 1 < w22.heap.size := by omega); (try have hn22_21 : w21.heap.size + 1 ≠ w22.heap.size := by omega); (try have hm22_21 : w22.heap.size ≠ w21.heap.size + 1 := by omega); (try have hp22_21 : w21.heap.size + 1 < w22.heap.size + 1 := by omega)))
                  all_goals go_wp2_with fail
                  all_goals go_meet
                  all_goals refine ⟨_, rfl, rfl, ?_, ?_, ?_, ?_, by (repeat' (first | (with_reducible exact Below.refl _ _) | (with_reducible assumption) | (with_reducible refine Below.drew ?_) | (with_reducible refine belowDrewN ?_ _) | (with_reducible refine Below.alloc ?_ ?_ _) | (with_reducible refine Below.setCell ?_ ?_ _) | (with_reducible refine belowStep (by assumption) ?_ ?_) | (with_reducible exact Below.size (by assumption)) | go_size))⟩
                  all_goals first | go_size | (first | (simp [*, World.cell?_alloc_some, World.cell?_setCell_far]; done) | (simp [go_sem, *]; done))
                case rest =>
                  obtain ⟨w25, rfl⟩ : ∃ w25 : World, w25 = wc := ⟨_, rfl⟩
                  obtain ⟨g2, rfl, rfl, hga, hgb, hl1, hl2, hb25⟩ := hcut
                  have hz25 := hb25.size
                  (try simp only [World.size_alloc] at hz25 hga)
                  have HL1 := Lib.hid hl1
                  have HL2 := Lib.hid hl2
                  clear hl1 hl2
                  clear oS1 oS2 oS3 oS4 oS5
                  go_wp2_with fail
                  refine (textE_yes _ _ _ _ (H3.out.below (by (repeat' (first | (with_reducible exact Below.refl _ _) | (with_reducible assumption) | (with_reducible refine Below.drew ?_) | (with_reducible refine belowDrewN ?_ _) | (with_reducible refine Below.alloc ?_ ?_ _) | (with_reducible refine Below.setCell ?_ ?_ _) | (with_reducible refine belowStep (by assumption) ?_ ?_) | (with_reducible exact Below.size (by assumption)) | go_size)))) lol He2.out ((HE.out.below (by (repeat' (first | (with_reducible exact Below.refl _ _) | (with_reducible assumption) | (with_reducible refine Below.drew ?_) | (with_reducible refine belowDrewN ?_ _) | (with_reducible refine Below.alloc ?_ ?_ _) | (with_reducible refine Below.setCell ?_ ?_ _) | (with_reducible refine belowStep (by assumption) ?_ ?_) | (with_reducible exact Below.size (by assumption)) | go_size)))).1)).mono ?_; rintro e w26 ⟨rfl, hb26⟩; have hz26 := hb26.size; (try simp only [World.size_alloc, World.size_setCell, World.size_drew, World.heap_drewN] at hz26)
                  go_wp2_with fail
                  refine (HPE.out _ (HE.out.below (by (repeat' (first | (with_reducible exact Below.refl _ _) | (with_reducible assumption) | (with_reducible refine Below.drew ?_) | (with_reducible refine belowDrewN ?_ _) | (with_reducible refine Below.alloc ?_ ?_ _) | (with_reducible refine Below.setCell ?_ ?_ _) | (with_reducible refine belowStep (by assumption) ?_ ?_) | (with_reducible exact Below.size (by assumption)) | go_size))))).mono ?_; rintro e w27 ⟨v27, rfl, ho27, hb27⟩; have hz27 := hb27.size; (try simp only [World.size_alloc, World.size_setCell, World.size_drew, World.heap_drewN] at hz27)
                  obtain ⟨A27, c27, rfl, hr27⟩ := ho27.form
                  have H27 := Lib.hid hr27
                  clear ho27 hr27
                  have L1 := (hb27.cell (p := ⟨g2, 0, none⟩) (show g2 < w26.heap.size by omega)).trans ((hb26.cell (p := ⟨g2, 0, none⟩) hgb).trans HL1.out)
                  have L2 := (hb27.cell (p := ⟨g2, 1, none⟩) (show g2 < w26.heap.size by omega)).trans ((hb26.cell (p := ⟨g2, 1, none⟩) hgb).trans HL2.out)
                  go_wp2_with fail
                  refine (pSums_yes _ _ _ _ _ _ (H3.out.below (by (repeat' (first | (with_reducible exact Below.refl _ _) | (with_reducible assumption) | (with_reducible refine Below.drew ?_) | (with_reducible refine belowDrewN ?_ _) | (with_reducible refine Below.alloc ?_ ?_ _) | (with_reducible refine Below.setCell ?_ ?_ _) | (with_reducible refine belowStep (by assumption) ?_ ?_) | (with_reducible exact Below.size (by assumption)) | go_size)))) lol H64o.out He2.out rfl rfl).mono ?_; rintro e w28 ⟨rfl, hb28⟩; have hz28 := hb28.size; (try simp only [World.size_alloc, World.size_setCell, World.size_drew, World.heap_drewN] at hz28)
                  go_wp2_with fail
                  refine (pSame_same _ _ _ _ _ (scaleL xs k) (H27.out.below (by (repeat' (first | (with_reducible exact Below.refl _ _) | (with_reducible assumption) | (with_reducible refine Below.drew ?_) | (with_reducible refine belowDrewN ?_ _) | (with_reducible refine Below.alloc ?_ ?_ _) | (with_reducible refine Below.setCell ?_ ?_ _) | (with_reducible refine belowStep (by assumption) ?_ ?_) | (with_reducible exact Below.size (by assumption)) | go_size)))) (H3.out.below (by (repeat' (first | (with_reducible exact Below.refl _ _) | (with_reducible assumption) | (with_reducible refine Below.drew ?_) | (with_reducible refine belowDrewN ?_ _) | (with_reducible refine Below.alloc ?_ ?_ _) | (with_reducible refine Below.setCell ?_ ?_ _) | (with_reducible refine belowStep (by assumption) ?_ ?_) | (with_reducible exact Below.size (by assumption)) | go_size)))) lol).mono ?_; rintro e w29 ⟨rfl, k29, rfl⟩
                  go_wp2
                  go_ret
                  exact ⟨rfl, by (repeat' (first | (with_reducible exact Below.refl _ _) | (with_reducible assumption) | (with_reducible refine Below.drew ?_) | (with_reducible refine belowDrewN ?_ _) | (with_reducible refine Below.alloc ?_ ?_ _) | (with_reducible refine Below.setCell ?_ ?_ _) | (with_reducible refine belowStep (by assumption) ?_ ?_) | (with_reducible exact Below.size (by assumption)) | go_size))⟩
      | false =>
        have Hc := Lib.hid hc
        clear hc
        obtain ⟨oS1, oS2, oS3, oS4, oS5⟩ := TS.out
        (try have sl4 : w8.heap.size < w10.heap.size := by omega)
        (try have sl5 : w8.heap.size < w10.heap.size + 1 := by omega)
        (try have sl6 : w8.heap.size ≠ w10.heap.size := by omega)
        (try have sl7 : w10.heap.size ≠ w8.heap.size := by omega)
        have sl1 : w8.heap.size < w8.heap.size + 1 + 1 := by omega
        have sl2 : w8.heap.size ≠ w8.heap.size + 1 := by omega
        have sl3 : w8.heap.size + 1 ≠ w8.heap.size := by omega
        go_upto_region 25 with fail
        go_cut [21, 22] (fun s21 s22 wx => ∃ g2 : Nat, s21 = .pointer (some ⟨g2, 0, none⟩) ∧ s22 = .bool true ∧ (w8.alloc (.cells #[.int .i64 (sumN xs), .int .i64 (sumD xs)] 26)).heap.size ≤ g2 ∧ g2 < wx.heap.size ∧ wx.cell? ⟨g2, 0, none⟩ = some (.int .i64 (eN (scaleL xs k))) ∧ wx.cell? ⟨g2, 1, none⟩ = some (.int .i64 (eD (scaleL xs k))) ∧ Below (w8.alloc (.cells #[.int .i64 (sumN xs), .int .i64 (sumD xs)] 26)).heap.size (w8.alloc (.cells #[.int .i64 (sumN xs), .int .i64 (sumD xs)] 26)) wx)
        case first =>
          go_region_held3 (fun w' => w'.cell? ⟨w8.heap.size, 0, none⟩ = some (.int .i64 (sumN xs)) ∧ w'.cell? ⟨w8.heap.size, 1, none⟩ = some (.int .i64 (sumD xs))) (go_keep) (first | (go_at_call 35; refine (pWhole_any _ _).mono ?_; rintro e w21 ⟨rfl, hb21⟩; obtain ⟨hc21, hf21⟩ := bcellB hb21; have hz21 := hb21.size; (try simp only [World.size_alloc, World.size_drew] at hc21 hf21 hz21); (try have hy21_00 : w8.heap.size < w21.heap.size := by omega); (try have hn21_00 : w8.heap.size ≠ w21.heap.size := by omega); (try have hm21_00 : w21.heap.size ≠ w8.heap.size := by omega); (try have hp21_00 : w8.heap.size < w21.heap.size + 1 := by omega); (try have hy21_01 : w8.heap.size + 1 < w21.heap.size := by omega); (try have hn21_01 : w8.heap.size + 1 ≠ w21.heap.size := by omega); (try have hm21_01 : w21.heap.size ≠ w8.heap.size + 1 := by omega); (try have hp21_01 : w8.heap.size + 1 < w21.heap.size + 1 := by omega); (try have hy21_10 : w10.heap.size < w21.heap.size := by omega); (try have hn21_10 : w10.heap.size ≠ w21.heap.size := by omega); (try have hm21_10 : w21.heap.size ≠ w10.heap.size := by omega); (try have hp21_10 : w10.heap.size < w21.heap.size + 1 := by omega); (try have hy21_11 : w10.heap.size + 1 < w21.heap.size := by omega); (try have hn21_11 : w10.heap.size + 1 ≠ w21.heap.size := by omega); (try have hm21_11 : w21.heap.size ≠ w10.heap.size + 1 := by omega); (try have hp21_11 : w10.heap.size + 1 < w21.heap.size + 1 := by omega)) | (go_at_call 36; refine (HDV.out _).mono ?_; rintro e w22 ⟨rfl, hb22⟩; obtain ⟨hc22, hf22⟩ := bcellB hb22; have hz22 := hb22.size; (try simp only [World.size_alloc] at hc22 hf22 hz22); (try have hy22_00 : w8.heap.size < w22.heap.size := by omega); (try have hn22_00 : w8.heap.size ≠ w22.heap.size := by omega); (try have hm22_00 : w22.heap.size ≠ w8.heap.size := by omega); (try have hp22_00 : w8.heap.size < w22.heap.size + 1 := by omega); (try have hy22_01 : w8.heap.size + 1 < w22.heap.size := by omega); (try have hn22_01 : w8.heap.size + 1 ≠ w22.heap.size := by omega); (try have hm22_01 : w22.heap.size ≠ w8.heap.size + 1 := by omega); (try have hp22_01 : w8.heap.size + 1 < w22.heap.size + 1 := by omega); (try have hy22_10 : w10.heap.size < w22.heap.size := by omega); (try have hn22_10 : w10.heap.size ≠ w22.heap.size := by omega); (try have hm22_10 : w22.heap.size ≠ w10.heap.size := by omega); (try have hp22_10 : w10.heap.size < w22.heap.size + 1 := by omega); (try have hy22_11 : w10.heap.size + 1 < w22.heap.size := by omega); (try have hn22_11 : w10.heap.size + 1 ≠ w22.heap.size := by omega); (try have hm22_11 : w22.heap.size ≠ w10.heap.size + 1 := by omega); (try have hp22_11 : w10.heap.size + 1 < w22.heap.size + 1 := by omega); (try have hy22_20 : w21.heap.size < w22.heap.size := by omega); (try have hn22_20 : w21.heap.size ≠ w22.heap.size := by omega); (try have hm22_20 : w22.heap.size ≠ w21.heap.size := by omega); (try have hp22_20 : w21.heap.size < w22.heap.size + 1 := by omega); (try have hy22_21 : w21.heap.size + 1 < w22.heap.size := by omega); (try have hn22_21 : w21.heap.size + 1 ≠ w22.heap.size := by omega); (try have hm22_21 : w22.heap.size ≠ w21.heap.size + 1 := by omega); (try have hp22_21 : w21.heap.size + 1 < w22.heap.size + 1 := by omega)))
          all_goals go_wp2_with fail
          all_goals go_meet
          all_goals refine ⟨_, rfl, rfl, ?_, ?_, ?_, ?_, by (repeat' (first | (with_reducible exact Below.refl _ _) | (with_reducible assumption) | (with_reducible refine Below.drew ?_) | (with_reducible refine belowDrewN ?_ _) | (with_reducible refine Below.alloc ?_ ?_ _) | (with_reducible refine Below.setCell ?_ ?_ _) | (with_reducible refine belowStep (by assumption) ?_ ?_) | (with_reducible exact Below.size (by assumption)) | go_size))⟩
          all_goals first | go_size | (first | (simp [*, World.cell?_alloc_some, World.cell?_setCell_far]; done) | (simp [go_sem, *]; done))
        case rest =>
          obtain ⟨w25, rfl⟩ : ∃ w25 : World, w25 = wc := ⟨_, rfl⟩
          obtain ⟨g2, rfl, rfl, hga, hgb, hl1, hl2, hb25⟩ := hcut
          have hz25 := hb25.size
          (try simp only [World.size_alloc] at hz25 hga)
          have HL1 := Lib.hid hl1
          have HL2 := Lib.hid hl2
          clear hl1 hl2
          clear oS1 oS2 oS3 oS4 oS5
          go_wp2_with fail
          refine (textE_yes _ _ _ _ (H3.out.below (by (repeat' (first | (with_reducible exact Below.refl _ _) | (with_reducible assumption) | (with_reducible refine Below.drew ?_) | (with_reducible refine belowDrewN ?_ _) | (with_reducible refine Below.alloc ?_ ?_ _) | (with_reducible refine Below.setCell ?_ ?_ _) | (with_reducible refine belowStep (by assumption) ?_ ?_) | (with_reducible exact Below.size (by assumption)) | go_size)))) lol He2.out ((HE.out.below (by (repeat' (first | (with_reducible exact Below.refl _ _) | (with_reducible assumption) | (with_reducible refine Below.drew ?_) | (with_reducible refine belowDrewN ?_ _) | (with_reducible refine Below.alloc ?_ ?_ _) | (with_reducible refine Below.setCell ?_ ?_ _) | (with_reducible refine belowStep (by assumption) ?_ ?_) | (with_reducible exact Below.size (by assumption)) | go_size)))).1)).mono ?_; rintro e w26 ⟨rfl, hb26⟩; have hz26 := hb26.size; (try simp only [World.size_alloc, World.size_setCell, World.size_drew, World.heap_drewN] at hz26)
          go_wp2_with fail
          refine (HPE.out _ (HE.out.below (by (repeat' (first | (with_reducible exact Below.refl _ _) | (with_reducible assumption) | (with_reducible refine Below.drew ?_) | (with_reducible refine belowDrewN ?_ _) | (with_reducible refine Below.alloc ?_ ?_ _) | (with_reducible refine Below.setCell ?_ ?_ _) | (with_reducible refine belowStep (by assumption) ?_ ?_) | (with_reducible exact Below.size (by assumption)) | go_size))))).mono ?_; rintro e w27 ⟨v27, rfl, ho27, hb27⟩; have hz27 := hb27.size; (try simp only [World.size_alloc, World.size_setCell, World.size_drew, World.heap_drewN] at hz27)
          obtain ⟨A27, c27, rfl, hr27⟩ := ho27.form
          have H27 := Lib.hid hr27
          clear ho27 hr27
          have L1 := (hb27.cell (p := ⟨g2, 0, none⟩) (show g2 < w26.heap.size by omega)).trans ((hb26.cell (p := ⟨g2, 0, none⟩) hgb).trans HL1.out)
          have L2 := (hb27.cell (p := ⟨g2, 1, none⟩) (show g2 < w26.heap.size by omega)).trans ((hb26.cell (p := ⟨g2, 1, none⟩) hgb).trans HL2.out)
          go_wp2_with fail
          refine (pSums_yes _ _ _ _ _ _ (H3.out.below (by (repeat' (first | (with_reducible exact Below.refl _ _) | (with_reducible assumption) | (with_reducible refine Below.drew ?_) | (with_reducible refine belowDrewN ?_ _) | (with_reducible refine Below.alloc ?_ ?_ _) | (with_reducible refine Below.setCell ?_ ?_ _) | (with_reducible refine belowStep (by assumption) ?_ ?_) | (with_reducible exact Below.size (by assumption)) | go_size)))) lol H64o.out He2.out rfl rfl).mono ?_; rintro e w28 ⟨rfl, hb28⟩; have hz28 := hb28.size; (try simp only [World.size_alloc, World.size_setCell, World.size_drew, World.heap_drewN] at hz28)
          go_wp2_with fail
          refine (pSame_same _ _ _ _ _ (scaleL xs k) (H27.out.below (by (repeat' (first | (with_reducible exact Below.refl _ _) | (with_reducible assumption) | (with_reducible refine Below.drew ?_) | (with_reducible refine belowDrewN ?_ _) | (with_reducible refine Below.alloc ?_ ?_ _) | (with_reducible refine Below.setCell ?_ ?_ _) | (with_reducible refine belowStep (by assumption) ?_ ?_) | (with_reducible exact Below.size (by assumption)) | go_size)))) (H3.out.below (by (repeat' (first | (with_reducible exact Below.refl _ _) | (with_reducible assumption) | (with_reducible refine Below.drew ?_) | (with_reducible refine belowDrewN ?_ _) | (with_reducible refine Below.alloc ?_ ?_ _) | (with_reducible refine Below.setCell ?_ ?_ _) | (with_reducible refine belowStep (by assumption) ?_ ?_) | (with_reducible exact Below.size (by assumption)) | go_size)))) lol).mono ?_; rintro e w29 ⟨rfl, k29, rfl⟩
          go_wp2
          go_ret
          exact ⟨rfl, by (repeat' (first | (with_reducible exact Below.refl _ _) | (with_reducible assumption) | (with_reducible refine Below.drew ?_) | (with_reducible refine belowDrewN ?_ _) | (with_reducible refine Below.alloc ?_ ?_ _) | (with_reducible refine Below.setCell ?_ ?_ _) | (with_reducible refine belowStep (by assumption) ?_ ?_) | (with_reducible exact Below.size (by assumption)) | go_size))⟩
    | false =>
      have Hs := Lib.hid hs
      clear hs
      go_wp2_with fail
      refine (scale_any _ k (by omega) _ _ _ Hxs.out lxs H64.out).mono ?_; rintro e w3 ⟨v3, rfl, ho3, hb3⟩; have hz3 := hb3.size; (try simp only [World.size_alloc, World.size_setCell, World.size_drew, World.heap_drewN] at hz3)
      obtain ⟨A3, c3, rfl, hr3⟩ := ho3.form
      have H3 := Lib.hid hr3
      clear ho3 hr3
      go_wp2_with fail
      refine (spec_scale_any _ k (by omega) _ _ _ (Hxs.out.below (by (repeat' (first | (with_reducible exact Below.refl _ _) | (with_reducible assumption) | (with_reducible refine Below.drew ?_) | (with_reducible refine belowDrewN ?_ _) | (with_reducible refine Below.alloc ?_ ?_ _) | (with_reducible refine Below.setCell ?_ ?_ _) | (with_reducible refine belowStep (by assumption) ?_ ?_) | (with_reducible exact Below.size (by assumption)) | go_size)))) lxs).mono ?_; rintro e w4 ⟨A4, c4, rfl, hr4, hb4⟩; have hz4 := hb4.size; (try simp only [World.size_alloc, World.size_setCell, World.size_drew, World.heap_drewN] at hz4)
      have H4 := Lib.hid hr4
      clear hr4
      rw [Hs.out]
      go_wp2_with fail
      refine (pSame_same _ _ _ _ _ (scaleL xs k) (H3.out.below (by (repeat' (first | (with_reducible exact Below.refl _ _) | (with_reducible assumption) | (with_reducible refine Below.drew ?_) | (with_reducible refine belowDrewN ?_ _) | (with_reducible refine Below.alloc ?_ ?_ _) | (with_reducible refine Below.setCell ?_ ?_ _) | (with_reducible refine belowStep (by assumption) ?_ ?_) | (with_reducible exact Below.size (by assumption)) | go_size)))) H4.out lol).mono ?_; rintro e w5 ⟨rfl, k5, rfl⟩
      go_wp2_with fail
      refine (common_any _ _ _ _ (Hxs.out.below (by (repeat' (first | (with_reducible exact Below.refl _ _) | (with_reducible assumption) | (with_reducible refine Below.drew ?_) | (with_reducible refine belowDrewN ?_ _) | (with_reducible refine Below.alloc ?_ ?_ _) | (with_reducible refine Below.setCell ?_ ?_ _) | (with_reducible refine belowStep (by assumption) ?_ ?_) | (with_reducible exact Below.size (by assumption)) | go_size)))) lxs H64.out).mono ?_; rintro e w6 ⟨rfl, hb6⟩; have hz6 := hb6.size; (try simp only [World.heap_drewN] at hz6)
      go_wp2_with fail
      refine (spec_common_any _ _ _ _ (Hxs.out.below (by (repeat' (first | (with_reducible exact Below.refl _ _) | (with_reducible assumption) | (with_reducible refine Below.drew ?_) | (with_reducible refine belowDrewN ?_ _) | (with_reducible refine Below.alloc ?_ ?_ _) | (with_reducible refine Below.setCell ?_ ?_ _) | (with_reducible refine belowStep (by assumption) ?_ ?_) | (with_reducible exact Below.size (by assumption)) | go_size)))) lxs).mono ?_; rintro e w7 ⟨rfl, hb7⟩; have hz7 := hb7.size; (try simp only [World.size_alloc, World.size_setCell, World.size_drew, World.heap_drewN] at hz7)
      go_wp2_with fail
      refine (sumOf_any _ _ _ _ (Hxs.out.below (by (repeat' (first | (with_reducible exact Below.refl _ _) | (with_reducible assumption) | (with_reducible refine Below.drew ?_) | (with_reducible refine belowDrewN ?_ _) | (with_reducible refine Below.alloc ?_ ?_ _) | (with_reducible refine Below.setCell ?_ ?_ _) | (with_reducible refine belowStep (by assumption) ?_ ?_) | (with_reducible exact Below.size (by assumption)) | go_size)))) lxs H64.out).mono ?_; rintro e w8 ⟨rfl, hb8⟩; have hz8 := hb8.size; (try simp only [World.size_alloc, World.size_setCell, World.size_drew, World.heap_drewN] at hz8)
      cases he : expB xs with
      | true =>
        have He := Lib.hid he
        clear he
        rw [show eN xs = sumN xs from by rw [eN, if_pos He.out], show eD xs = sumD xs from by rw [eD, if_pos He.out]]
        have Hgs := Lib.hid (good_sum He.out)
        have TS := Lib.hid (TwoAt.new w8 (sumN xs) (sumD xs) 26)
        cases hc : cB xs with
        | true =>
          have HMW := Lib.hid (show redB (sumN xs * cM xs) (sumD xs) = true → redD (sumN xs * cM xs) (sumD xs) = 1 from by have h := mul_whole hc; rwa [Int.mul_one] at h)
          obtain ⟨_, dv, m1, m2⟩ := c_told hc
          have HgM := Lib.hid (good_one (m := cM xs) (by omega) m2)
          have Hdv := Lib.hid dv
          have Hpos := Lib.hid (fun x hx => (expB_small He.out x hx).1)
          have Hc := Lib.hid hc
          clear hc dv
          obtain ⟨oS1, oS2, oS3, oS4, oS5⟩ := TS.out
          have sl1 : w8.heap.size < w8.heap.size + 1 + 1 := by omega
          have sl2 : w8.heap.size ≠ w8.heap.size + 1 := by omega
          have sl3 : w8.heap.size + 1 ≠ w8.heap.size := by omega
          go_upto_region 14 with fail
          go_cut [17, 18] (fun s17 s18 wx => ∃ (g1 : Nat) (t : Bool) (dd nn : Int), s17 = .pointer (some ⟨g1, 0, none⟩) ∧ s18 = .bool t ∧ (t = true → dd = 1) ∧ w8.heap.size + 1 ≤ g1 ∧ g1 < wx.heap.size ∧ wx.cell? ⟨g1, 0, none⟩ = some (.int .i64 nn) ∧ wx.cell? ⟨g1, 1, none⟩ = some (.int .i64 dd) ∧ Below (w8.heap.size + 1) (w8.alloc (.cells #[.int .i64 (sumN xs), .int .i64 (sumD xs)] 26)) wx)
          case first =>
            go_region_held3 (fun w' => w'.cell? ⟨w8.heap.size, 0, none⟩ = some (.int .i64 (sumN xs)) ∧ w'.cell? ⟨w8.heap.size, 1, none⟩ = some (.int .i64 (sumD xs))) (go_keep) (first | (go_at_call 35; refine (pWhole_any _ _).mono ?_; rintro e w9 ⟨rfl, hb9⟩; obtain ⟨hc9, hf9⟩ := bcellB hb9; have hz9 := hb9.size; (try simp only [World.size_alloc, World.size_drew] at hc9 hf9 hz9); (try have hy9_00 : w8.heap.size < w9.heap.size := by omega); (try have hn9_00 : w8.heap.size ≠ w9.heap.size := by omega); (try have hm9_00 : w9.heap.size ≠ w8.heap.size := by omega); (try have hp9_00 : w8.heap.size < w9.heap.size + 1 := by omega); (try have hy9_01 : w8.heap.size + 1 < w9.heap.size := by omega); (try have hn9_01 : w8.heap.size + 1 ≠ w9.heap.size := by omega); (try have hm9_01 : w9.heap.size ≠ w8.heap.size + 1 := by omega); (try have hp9_01 : w8.heap.size + 1 < w9.heap.size + 1 := by omega)) | (go_at_call 34; refine (mul_yes _ _ _ _ _ Hgs.out HgM.out).mono ?_; rintro e w10 ⟨rfl, hb10⟩; obtain ⟨hc10, hf10⟩ := bcellB hb10; have hz10 := hb10.size; (try simp only [World.size_alloc] at hc10 hf10 hz10); (try have hy10_00 : w8.heap.size < w10.heap.size := by omega); (try have hn10_00 : w8.heap.size ≠ w10.heap.size := by omega); (try have hm10_00 : w10.heap.size ≠ w8.heap.size := by omega); (try have hp10_00 : w8.heap.size < w10.heap.size + 1 := by omega); (try have hy10_01 : w8.heap.size + 1 < w10.heap.size := by omega); (try have hn10_01 : w8.heap.size + 1 ≠ w10.heap.size := by omega); (try have hm10_01 : w10.heap.size ≠ w8.heap.size + 1 := by omega); (try have hp10_01 : w8.heap.size + 1 < w10.heap.size + 1 := by omega); (try have hy10_10 : w9.heap.size < w10.heap.size := by omega); (try have hn10_10 : w9.heap.size ≠ w10.heap.size := by omega); (try have hm10_10 : w10.heap.size ≠ w9.heap.size := by omega); (try have hp10_10 : w9.heap.size < w10.heap.size + 1 := by omega); (try have hy10_11 : w9.heap.size + 1 < w10.heap.size := by omega); (try have hn10_11 : w9.heap.size + 1 ≠ w10.heap.size := by omega); (try have hm10_11 : w10.heap.size ≠ w9.heap.size + 1 := by omega); (try have hp10_11 : w9.heap.size + 1 < w10.heap.size + 1 := by omega)))
            all_goals go_wp2_with fail
            all_goals go_meet
            all_goals refine ⟨_, _, _, redN (sumN xs * cM xs) (sumD xs), rfl, rfl, HMW.out, ?_, ?_, ?_, ?_, by (repeat' (first | (with_reducible exact Below.refl _ _) | (with_reducible assumption) | (with_reducible refine Below.drew ?_) | (with_reducible refine belowDrewN ?_ _) | (with_reducible refine Below.alloc ?_ ?_ _) | (with_reducible refine Below.setCell ?_ ?_ _) | (with_reducible refine belowStep (by assumption) ?_ ?_) | (with_reducible exact Below.size (by assumption)) | go_size))⟩
            all_goals first | go_size | (first | (simp [*, World.cell?_alloc_some, World.cell?_setCell_far]; done) | (simp [go_sem, *]; done))
          case rest =>
            obtain ⟨w10, rfl⟩ : ∃ w10 : World, w10 = wc := ⟨_, rfl⟩
            obtain ⟨g1, t, dd, nn, rfl, rfl, htd, hg1, hg1b, hm1, hm2', hb10⟩ := hcut
            have hz10 := hb10.size
            (try simp only [World.size_alloc] at hz10)
            clear oS1 oS2 oS3 oS4 oS5
            have TS := Lib.hid (TS.out.below (w' := w10) (by simpa using hb10))
            cases t with
            | true =>
              have hdd := htd rfl
              subst hdd
              clear htd
              go_wp2
              go_loop [99] (fun v99 => ∃ j : Nat, j ≤ xs.length ∧ v99 = .int .i64 j) (fun v99 => xs.length - (intOf v99).toNat)
              case atStart => exact ⟨0, Nat.zero_le _, rfl⟩
              case round =>
                obtain ⟨j, hj, rfl⟩ := hrel
                by_cases hlt : j < xs.length
                · obtain ⟨b, o, x, rfl, hb, hx, hcell⟩ := (Hxs.out.below (by (repeat' (first | (with_reducible exact Below.refl _ _) | (with_reducible assumption) | (with_reducible refine Below.drew ?_) | (with_reducible refine belowDrewN ?_ _) | (with_reducible refine Below.alloc ?_ ?_ _) | (with_reducible refine Below.setCell ?_ ?_ _) | (with_reducible refine belowStep (by assumption) ?_ ?_) | (with_reducible exact Below.size (by assumption)) | go_size)) : Below w2.heap.size w2 w10)).at_ hlt
                  have hxm := List.mem_of_getElem? hx
                  have hx1 := Hpos.out x hxm
                  have hmd : (cM xs % x != 0) = false := by rw [Int.emod_eq_zero_of_dvd (Hdv.out x hxm)]; rfl
                  have hmd2 : ((cM xs).tmod x != 0) = false := by rw [Int.tmod_eq_emod_of_nonneg (by omega), Int.emod_eq_zero_of_dvd (Hdv.out x hxm)]; rfl
                  clear hx hxm
                  go_wp2
                  go_round
                  case rel => exact ⟨j + 1, by omega, by go_num⟩
                  case measure => simp [intOf]; omega
                · obtain rfl : j = xs.length := by omega
                  go_wp2
                  go_ret
                  exact ⟨rfl, by (repeat' (first | (with_reducible exact Below.refl _ _) | (with_reducible assumption) | (with_reducible refine Below.drew ?_) | (with_reducible refine belowDrewN ?_ _) | (with_reducible refine Below.alloc ?_ ?_ _) | (with_reducible refine Below.setCell ?_ ?_ _) | (with_reducible refine belowStep (by assumption) ?_ ?_) | (with_reducible exact Below.size (by assumption)) | go_size))⟩
            | false =>
              clear htd
              go_wp2
              go_loop [99] (fun v99 => ∃ j : Nat, j ≤ xs.length ∧ v99 = .int .i64 j) (fun v99 => xs.length - (intOf v99).toNat)
              case atStart => exact ⟨0, Nat.zero_le _, rfl⟩
              case round =>
                obtain ⟨j, hj, rfl⟩ := hrel
                by_cases hlt : j < xs.length
                · obtain ⟨b, o, x, rfl, hb, hx, hcell⟩ := (Hxs.out.below (by (repeat' (first | (with_reducible exact Below.refl _ _) | (with_reducible assumption) | (with_reducible refine Below.drew ?_) | (with_reducible refine belowDrewN ?_ _) | (with_reducible refine Below.alloc ?_ ?_ _) | (with_reducible refine Below.setCell ?_ ?_ _) | (with_reducible refine belowStep (by assumption) ?_ ?_) | (with_reducible exact Below.size (by assumption)) | go_size)) : Below w2.heap.size w2 w10)).at_ hlt
                  have hxm := List.mem_of_getElem? hx
                  have hx1 := Hpos.out x hxm
                  have hmd : (cM xs % x != 0) = false := by rw [Int.emod_eq_zero_of_dvd (Hdv.out x hxm)]; rfl
                  have hmd2 : ((cM xs).tmod x != 0) = false := by rw [Int.tmod_eq_emod_of_nonneg (by omega), Int.emod_eq_zero_of_dvd (Hdv.out x hxm)]; rfl
                  clear hx hxm
                  go_wp2
                  go_round
                  case rel => exact ⟨j + 1, by omega, by go_num⟩
                  case measure => simp [intOf]; omega
                · obtain rfl : j = xs.length := by omega
                  go_wp2
                  go_ret
                  exact ⟨rfl, by (repeat' (first | (with_reducible exact Below.refl _ _) | (with_reducible assumption) | (with_reducible refine Below.drew ?_) | (with_reducible refine belowDrewN ?_ _) | (with_reducible refine Below.alloc ?_ ?_ _) | (with_reducible refine Below.setCell ?_ ?_ _) | (with_reducible refine belowStep (by assumption) ?_ ?_) | (with_reducible exact Below.size (by assumption)) | go_size))⟩
        | false =>
          have Hc := Lib.hid hc
          clear hc
          go_wp2
          go_ret
          exact ⟨rfl, by (repeat' (first | (with_reducible exact Below.refl _ _) | (with_reducible assumption) | (with_reducible refine Below.drew ?_) | (with_reducible refine belowDrewN ?_ _) | (with_reducible refine Below.alloc ?_ ?_ _) | (with_reducible refine Below.setCell ?_ ?_ _) | (with_reducible refine belowStep (by assumption) ?_ ?_) | (with_reducible exact Below.size (by assumption)) | go_size))⟩
      | false =>
        have Hc := Lib.hid (c_no he).2
        clear he
        rw [Hc.out]
        go_wp2
        go_ret
        exact ⟨rfl, by (repeat' (first | (with_reducible exact Below.refl _ _) | (with_reducible assumption) | (with_reducible refine Below.drew ?_) | (with_reducible refine belowDrewN ?_ _) | (with_reducible refine Below.alloc ?_ ?_ _) | (with_reducible refine Below.setCell ?_ ?_ _) | (with_reducible refine belowStep (by assumption) ?_ ?_) | (with_reducible exact Below.size (by assumption)) | go_size))⟩

theorem FnScaledExpansions_door (os : Os) (args : Array Value) : laidMetH Tryd.prog Rows.fnScaledExpansionsRow.laid ((World.laidAll Tryd.prog os Rows.fnScaledExpansionsRow.laid).forCall (fun _ _ => 0) ⟨#[], args, []⟩).memory :=
  by rw [MakeChecks.laidMetH_plain _ _ _ (by kernel_rfl)]; exact laidMet_laidAll _ (by kernel_rfl) (by kernel_rfl)
set_option maxRecDepth 100000 in
theorem FnScaledExpansions_lifted (os : Os) (started : os.Started) (H : Type) (enc : TypeId × Value → H) :
    ReturnsInHanded {} Tryd.checked os 7 .any (fun w args => (Rows.fnScaledExpansionsSpec.pre enc Tryd.prog Tryd.f7 Rows.fnScaledExpansionsRow.domain false w args ∧ laidMetH Tryd.prog Rows.fnScaledExpansionsRow.laid w) ∧ sizedMet enc Tryd.prog Tryd.f7 (OpenSpec.ofChange Rows.fnScaledExpansionsSpec) false w args)
      (Rows.fnScaledExpansionsSpec.post enc Tryd.prog Tryd.f7 false true false false) := by
  refine handed_and_shaped (C := Tryd.checked) (X := fun w _ => laidMetH Tryd.prog Rows.fnScaledExpansionsRow.laid w) (fun _ _ _ hh h => h.of_heap hh) own started (by kernel_rfl) Tryd.func7
    (ChangeSpec.witness_shaped (enc := enc) (C := Tryd.checked) (os := os) (X := fun w _ => laidMetH Tryd.prog Rows.fnScaledExpansionsRow.laid w) false (World.laidAll Tryd.prog os Rows.fnScaledExpansionsRow.laid) #[.slice none 0 0, .slice none 0 0] 8 (World.laidAll_os _ _ _) (World.shaped_of_ZipB (by kernel_rfl) (by kernel_rfl)) (by kernel_rfl) (by kernel_rfl) (by kernel_rfl) (FnScaledExpansions_door os _)) ?_
  intro W base args ds gs before hval0 hW hcnd _ hL hsh _
  have hval : ∀ (j : Nat) t v, Tryd.f7.params[j]? = some t → args[j]? = some v → Value.okWide Tryd.prog W .any base t v := hval0
  have hW' := hW
  have hlt : ∀ p ∈ before, p.block < W.heap.size := fun p hp => hW'.lt p hp
  obtain ⟨p, q, hA0, hV, rfl, hfz, hnd⟩ := hW
  have hA : DataW.TrodAll enc Tryd.prog W 0 (fun _ => true) true Tryd.f7.params.toList args.toList ds p := hA0
  rw [Tryd.params7] at hA hval
  obtain ⟨v0, vs0, d0, ds0, p0, q0, hargs, rfl, rfl, h0, r0⟩ := trodAll_cons hA
  obtain ⟨v1, vs1, d1, ds1, p1, q1, rfl, rfl, rfl, h1, r1⟩ := trodAll_cons r0
  obtain ⟨rfl, rfl, rfl⟩ := trodAll_nil r1
  obtain rfl : args = #[v0, v1] := by cases args; simp_all
  obtain ⟨rfl, rfl⟩ := trodVars_none hV
  obtain ⟨Ax, cx, nx, rfl, hx⟩ := open_bytes_reads Tryd.underlying38 Tryd.underlying5 (by kernel_rfl) (hval 0 38 v0 rfl rfl) h0 (fun y hy => hlt y (by simp [hy]))
  obtain ⟨Ay, cy, ny, rfl, hy⟩ := open_bytes_reads Tryd.underlying38 Tryd.underlying5 (by kernel_rfl) (hval 1 38 v1 rfl rfl) h1 (fun y hy => hlt y (by simp [hy]))
  rw [MakeChecks.laidMetH_plain _ _ _ (by kernel_rfl)] at hL
  have hM : laidMet Tryd.prog Rows.fnScaledExpansionsRow.laid W := hL
  have hE := EnvA.of_laid hsh (hM.tail.tail) (hM.tail.tail.tail.tail) (hM.tail.tail.tail.tail.tail)
  refine (FnScaledExpansions_walk W Ax cx nx Ay cy ny hx hy hE).mono fun e W' ⟨he, hg⟩ => ?_
  subst he
  exact ⟨_, rfl, law_post laidOut (by rw [Tryd.params7]; intro t ht; simp only [List.mem_cons, List.not_mem_nil, or_false] at ht; rcases ht with rfl | rfl <;> exact ⟨by kernel_rfl, of_decide_eq_true (by kernel_rfl)⟩) (by kernel_rfl) Tryd.underlying4 rfl hW' rfl hg⟩

theorem FnScaledExpansions_closed : joinedFacts Tryd.prog 7 Tryd.f7 Rows.fnScaledExpansionsSpec Rows.fnScaledExpansionsRow = true := by
  unfold joinedFacts
  rw [mayEnter_eq, lifts_eq, make_eq]
  kernel_rfl

theorem FnScaledExpansions_holds : Rows.FnScaledExpansionsSaid :=
  OpenClaim.holds_of_wide 7 Tryd.f7 rfl rfl rfl rfl rfl rfl rfl ⟨rfl, rfl, rfl, rfl, rfl⟩ rfl rfl rfl rfl rfl (by kernel_rfl) Tryd.func7 FnScaledExpansions_closed
    (of_decide_eq_true (by kernel_rfl)) (by unfold Func.isWrapper; first | (rw [if_pos (by decide +kernel)]; kernel_rfl) | (rw [if_neg (by decide +kernel)]; exact ⟨rfl, rfl⟩))
    (fun os started H enc _ => FnScaledExpansions_lifted os started H enc)

/-- the tied card -/
theorem FnScaledExpansions_card : Rows.FnScaledExpansionsCardSaid :=
  Claim7.holds_tied_plain_at .later [] [.data, .data, .data, .data, .sentinel, .sentinel, .pinned] true (true, "856a60893ec3144dd3a5641c29f08e47174cb0a673e70b31795700d2c8f28881") true
    FnScaledExpansions_holds (fun _ h => by cases h) (by kernel_rfl) (fun _ h => by cases h) fnScaledExpansions_row_tie rfl ⟨rfl, rfl⟩ (by kernel_rfl) rfl
    (fun f fn hf hfn => by
      obtain rfl : f = 7 := Option.some.inj ((show Tryd.prog.funcNamed "loop.example/g01107/laws.FnScaledExpansions" = some 7 by kernel_rfl).symm.trans hf) |>.symm
      obtain rfl : fn = Tryd.f7 := (Option.some.inj (Tryd.func7.symm.trans hfn)).symm
      exact ⟨by kernel_rfl, fun j t ht => by
        rw [Tryd.params7] at ht
        have hm : t ∈ [38, 38] := by simpa using Array.mem_of_getElem? ht
        have hall : ([38, 38].all fun u => !Tryd.prog.wantsStandIn u) = true := by kernel_rfl
        exact (show Tryd.prog.wantsStandIn t = false by simpa using List.all_eq_true.1 hall t hm)⟩)
    (by kernel_rfl)

end Go.Proofs.YtbjblkfibinenabDoor
