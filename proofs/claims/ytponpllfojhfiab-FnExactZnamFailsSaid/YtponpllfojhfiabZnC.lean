
/-
  Contracts of the least index of a number that does not divide the product of the others plus 1.
-/
import Derived.Test.YtponpllfojhfiabRep
import Derived.Test.YtponpllfojhfiabProd
namespace Go.Proofs.Ytponpllfojhfiab
open Go.RowKit
/-- the number does not divide the product of the others plus 1 -/
def znB (p x : Int) : Bool := ((p / x + 1) % x != 0)
/-- the product of all, if none on the way is too great -/
def proL : Int → List Int → Option Int
  | p, [] => some p
  | p, x :: xs => if p * x ≤ 1000000000 then proL (p * x) xs else none
theorem proL_yes {p x : Int} {xs : List Int} (h : p * x ≤ 1000000000) : proL p (x :: xs) = proL (p * x) xs := by simp [proL, h]
theorem proL_no {p x : Int} {xs : List Int} (h : ¬ p * x ≤ 1000000000) : proL p (x :: xs) = none := by simp [proL, h]
theorem pro_prod : ∀ {xs : List Int} {p : Int}, (proL p xs).isSome = (prodL p xs).isSome ∧ ∀ ps, prodL p xs = some ps → proL p xs = some (ps.getLastD p)
  | [], p => ⟨rfl, fun ps h => by simp [prodL] at h; subst h; rfl⟩
  | x :: xs, p => by
    by_cases h : p * x ≤ 1000000000
    · obtain ⟨h1, h2⟩ := pro_prod (xs := xs) (p := p * x)
      rw [proL_yes h, prodL_yes h]
      refine ⟨by rw [h1]; cases prodL (p * x) xs <;> rfl, fun ps hp => ?_⟩
      cases hq : prodL (p * x) xs with
      | none => rw [hq] at hp; cases hp
      | some qs =>
        rw [hq] at hp
        injection hp with hp
        subst hp
        rw [h2 qs hq]
        rw [List.getLastD_cons]
    · rw [proL_no h, prodL_no h]
      exact ⟨rfl, fun ps hp => by cases hp⟩
theorem pro_low : ∀ {xs : List Int} {p q : Int}, 1 ≤ p → p ≤ 1000000000 → (∀ x ∈ xs, 1 ≤ x) → proL p xs = some q → 1 ≤ q ∧ q ≤ 1000000000
  | [], p, q, h1, h2, _, h => by simp [proL] at h; subst h; exact ⟨h1, h2⟩
  | x :: xs, p, q, h1, h2, hin, h => by
    by_cases hx : p * x ≤ 1000000000
    · rw [proL_yes hx] at h
      exact pro_low (mul_pos1 h1 (hin x (by simp))) hx (fun y hy => hin y (by simp [hy])) h
    · rw [proL_no hx] at h; cases h
/-- a list that is asked: repeated, two numbers at least, none less than 2 -/
def zaB (xs : List Int) : Bool := repB xs && decide (2 ≤ xs.length) && decide (2 ≤ xs.headD 0)
def znO (xs : List Int) : Option Nat := if zaB xs = true then (proL 1 xs).bind fun p => xs.findIdx? (znB p) else none
def znV (xs : List Int) : Value := .tuple #[.int .i64 (((znO xs).getD 0 : Nat) : Int), .bool (znO xs).isSome]
theorem zn_bad {xs : List Int} (h : zaB xs = false) : znV xs = .tuple #[.int .i64 0, .bool false] := by rw [znV, znO, h]; rfl
theorem zn_none {xs : List Int} (h : proL 1 xs = none) : znV xs = .tuple #[.int .i64 0, .bool false] := by
  rw [znV, znO, h]
  cases zaB xs <;> rfl
theorem zn_found {xs : List Int} {p x : Int} {i : Nat} (ha : zaB xs = true) (hp : proL 1 xs = some p) (hx : xs[i]? = some x) (h : znB p x = true) (hl : ∀ j y, j < i → xs[j]? = some y → znB p y = false) : znV xs = .tuple #[.int .i64 (i : Int), .bool true] := by
  have hi : i < xs.length := (List.getElem?_eq_some_iff.1 hx).1
  have hxe : xs[i] = x := (List.getElem?_eq_some_iff.1 hx).2
  have : xs.findIdx? (znB p) = some i := by
    rw [List.findIdx?_eq_some_iff_getElem]
    refine ⟨hi, by rw [hxe]; exact h, fun j hj => ?_⟩
    rw [hl j xs[j] hj (List.getElem?_eq_getElem (by omega))]; simp
  rw [znV, znO, if_pos ha, hp, Option.bind_some, this]; rfl
theorem zn_all {xs : List Int} {p : Int} (ha : zaB xs = true) (hp : proL 1 xs = some p) (hl : ∀ j y, j < xs.length → xs[j]? = some y → znB p y = false) : znV xs = .tuple #[.int .i64 0, .bool false] := by
  have : xs.findIdx? (znB p) = none := by
    rw [List.findIdx?_eq_none_iff]
    intro x hx
    obtain ⟨j, hj⟩ := List.getElem?_of_mem hx
    exact hl j x (List.getElem?_eq_some_iff.1 hj).1 hj
  rw [znV, znO, if_pos ha, hp, Option.bind_some, this]; rfl
theorem za_rep {xs : List Int} (h : repB xs = false) : zaB xs = false := by simp [zaB, h]
theorem za_short {xs : List Int} (h : ¬ 2 ≤ xs.length) : zaB xs = false := by simp [zaB]; omega
theorem za_low {xs : List Int} {x : Int} (hx : xs[0]? = some x) (h : ¬ 2 ≤ x) : zaB xs = false := by
  cases xs with
  | nil => simp at hx
  | cons y ys => simp at hx; subst hx; simp [zaB]; omega
theorem za_yes {xs : List Int} {x : Int} (h1 : repB xs = true) (h2 : 2 ≤ xs.length) (hx : xs[0]? = some x) (h : 2 ≤ x) : zaB xs = true := by
  cases xs with
  | nil => simp at hx
  | cons y ys => simp at hx; subst hx; simp [zaB, h1, h]; simpa using h2
/-- what the walks write -/
theorem zn_ops {p x : Int} (p1 : 1 ≤ p) (p2 : p ≤ 1000000000) (x1 : 1 ≤ x) : IntKind.i64.wrap (p.tdiv x) = p / x ∧ IntKind.i64.wrap (p / x + 1) = p / x + 1 ∧ (p / x + 1).tmod x = (p / x + 1) % x := by
  have q1 := Int.ediv_nonneg (show 0 ≤ p by omega) (show 0 ≤ x by omega)
  have q2 := Int.ediv_le_self x (show 0 ≤ p by omega)
  refine ⟨?_, IntWalk.i64_in _ (by omega), Int.tmod_eq_emod_of_nonneg (by omega)⟩
  rw [Int.tdiv_eq_ediv_of_nonneg (by omega)]
  exact IntWalk.i64_in _ (by omega)
set_option maxRecDepth 100000 in
set_option maxHeartbeats 4000000 in
theorem znamFails_any (w : World) (Axs : Option Addr) (cxs : Nat) (xs : List Int) (hxs : Reads w Axs xs) (lxs : xs.length ≤ 1048576) (r64 : ∀ (i : Nat) (x : Int), xs[i]? = some x → -9223372036854775808 ≤ x ∧ x ≤ 9223372036854775807) :
    Calls Try.prog 33 #[.slice Axs xs.length cxs] w (Ret (znV xs) w) := by
  have HS := Lib.hid fun (w : World) (h : Reads w Axs xs) => isRepeated_any w Axs cxs xs h lxs r64
  have Hxs := Lib.hid hxs
  clear hxs r64
  cases he : repB xs with
  | false =>
    have E := Lib.hid (zn_bad (za_rep he))
    rw [he] at HS
    clear he
    go_enter Try.func33, Try.ntmps33
    go_wp2_with fail
    refine (HS.out _ (Hxs.out.below (by (repeat' (first | (with_reducible exact Below.refl _ _) | (with_reducible assumption) | (with_reducible refine Below.drew ?_) | (with_reducible refine belowDrewN ?_ _) | (with_reducible refine Below.alloc ?_ ?_ _) | (with_reducible refine Below.setCell ?_ ?_ _) | (with_reducible refine belowStep (by assumption) ?_ ?_) | (with_reducible exact Below.size (by assumption)) | go_size))))).mono ?_; rintro e w1 ⟨rfl, hb1⟩; obtain ⟨hc1, hf1⟩ := bcellB hb1; have hz1 := hb1.size; (try simp only [World.size_alloc, World.size_setCell, World.size_drew, World.heap_drewN] at hc1 hf1 hz1); (try have hy1_r_0 : wr.heap.size < w1.heap.size := by omega); (try have hn1_r_0 : wr.heap.size ≠ w1.heap.size := by omega); (try have hm1_r_0 : w1.heap.size ≠ wr.heap.size := by omega); (try have hy1_r_1 : wr.heap.size + 1 < w1.heap.size := by omega); (try have hn1_r_1 : wr.heap.size + 1 ≠ w1.heap.size := by omega); (try have hm1_r_1 : w1.heap.size ≠ wr.heap.size + 1 := by omega); (try have hy1_r_2 : wr.heap.size + 1 + 1 < w1.heap.size := by omega); (try have hp1_r_1 : wr.heap.size < w1.heap.size + 1 := by omega); (try have hp1_r_2 : wr.heap.size < w1.heap.size + 1 + 1 := by omega); (try have hy1_0_0 : w.heap.size < w1.heap.size := by omega); (try have hn1_0_0 : w.heap.size ≠ w1.heap.size := by omega); (try have hm1_0_0 : w1.heap.size ≠ w.heap.size := by omega); (try have hy1_0_1 : w.heap.size + 1 < w1.heap.size := by omega); (try have hn1_0_1 : w.heap.size + 1 ≠ w1.heap.size := by omega); (try have hm1_0_1 : w1.heap.size ≠ w.heap.size + 1 := by omega); (try have hy1_0_2 : w.heap.size + 1 + 1 < w1.heap.size := by omega); (try have hp1_0_1 : w.heap.size < w1.heap.size + 1 := by omega); (try have hp1_0_2 : w.heap.size < w1.heap.size + 1 + 1 := by omega); (try have hg1_g1 : g1 < w1.heap.size := by omega); (try have hi1_g1 : g1 ≠ w1.heap.size := by omega); (try have hj1_g1 : w1.heap.size ≠ g1 := by omega); (try have hk1_g1 : g1 < w1.heap.size + 1 := by omega); (try have hg1_g2 : g2 < w1.heap.size := by omega); (try have hi1_g2 : g2 ≠ w1.heap.size := by omega); (try have hj1_g2 : w1.heap.size ≠ g2 := by omega); (try have hk1_g2 : g2 < w1.heap.size + 1 := by omega)
    go_wp2
    go_ret2
    rw [E.out]
    exact ⟨rfl, by (repeat' (first | (with_reducible exact Below.refl _ _) | (with_reducible assumption) | (with_reducible refine Below.drew ?_) | (with_reducible refine belowDrewN ?_ _) | (with_reducible refine Below.alloc ?_ ?_ _) | (with_reducible refine Below.setCell ?_ ?_ _) | (with_reducible refine belowStep (by assumption) ?_ ?_) | (with_reducible exact Below.size (by assumption)) | go_size))⟩
  | true =>
    have hpp := repB_parts he
    have HE := Lib.hid he
    rw [he] at HS
    by_cases h2 : 2 ≤ xs.length
    · have h2i : ¬ (xs.length : Int) < 2 := by omega
      obtain ⟨b, o, x0, rfl, hb, hx0, hc0⟩ := Hxs.out.at_ (show 0 < xs.length by omega)
      rw [Nat.add_zero] at hc0
      have Hx0 := Lib.hid hx0
      have Hin := Lib.hid (up_idx (by omega) hpp.2.1)
      have h24 := hpp.1
      clear hpp hx0
      by_cases hlow : 2 ≤ x0
      · have HA := Lib.hid (za_yes he h2 Hx0.out hlow)
        have hnl : ¬ x0 < 2 := by omega
        have HP := Lib.hid fun (w : World) (h : Reads w (some ⟨b, o, none⟩) xs) => products_any w (some ⟨b, o, none⟩) cxs xs h lxs (fun y hy => by
          obtain ⟨j, hj⟩ := List.getElem?_of_mem hy
          exact Hin.out j y hj) h24
        clear he
        cases hp : prodL 1 xs with
        | none =>
          rw [(prod_none hp).1, (prod_none hp).2] at HP
          have E : Hid (znV xs = .tuple #[.int .i64 0, .bool false]) := Lib.hid (zn_none (by
            have := (pro_prod (xs := xs) (p := 1)).1
            rw [hp] at this
            cases hq : proL 1 xs with
            | none => rfl
            | some q => rw [hq] at this; cases this))
          clear hp
          go_enter Try.func33, Try.ntmps33
          go_wp2_with fail
          refine (HS.out _ (Hxs.out.below (by (repeat' (first | (with_reducible exact Below.refl _ _) | (with_reducible assumption) | (with_reducible refine Below.drew ?_) | (with_reducible refine belowDrewN ?_ _) | (with_reducible refine Below.alloc ?_ ?_ _) | (with_reducible refine Below.setCell ?_ ?_ _) | (with_reducible refine belowStep (by assumption) ?_ ?_) | (with_reducible exact Below.size (by assumption)) | go_size))))).mono ?_; rintro e w1 ⟨rfl, hb1⟩; obtain ⟨hc1, hf1⟩ := bcellB hb1; have hz1 := hb1.size; (try simp only [World.size_alloc, World.size_setCell, World.size_drew, World.heap_drewN] at hc1 hf1 hz1); (try have hy1_r_0 : wr.heap.size < w1.heap.size := by omega); (try have hn1_r_0 : wr.heap.size ≠ w1.heap.size := by omega); (try have hm1_r_0 : w1.heap.size ≠ wr.heap.size := by omega); (try have hy1_r_1 : wr.heap.size + 1 < w1.heap.size := by omega); (try have hn1_r_1 : wr.heap.size + 1 ≠ w1.heap.size := by omega); (try have hm1_r_1 : w1.heap.size ≠ wr.heap.size + 1 := by omega); (try have hy1_r_2 : wr.heap.size + 1 + 1 < w1.heap.size := by omega); (try have hp1_r_1 : wr.heap.size < w1.heap.size + 1 := by omega); (try have hp1_r_2 : wr.heap.size < w1.heap.size + 1 + 1 := by omega); (try have hy1_0_0 : w.heap.size < w1.heap.size := by omega); (try have hn1_0_0 : w.heap.size ≠ w1.heap.size := by omega); (try have hm1_0_0 : w1.heap.size ≠ w.heap.size := by omega); (try have hy1_0_1 : w.heap.size + 1 < w1.heap.size := by omega); (try have hn1_0_1 : w.heap.size + 1 ≠ w1.heap.size := by omega); (try have hm1_0_1 : w1.heap.size ≠ w.heap.size + 1 := by omega); (try have hy1_0_2 : w.heap.size + 1 + 1 < w1.heap.size := by omega); (try have hp1_0_1 : w.heap.size < w1.heap.size + 1 := by omega); (try have hp1_0_2 : w.heap.size < w1.heap.size + 1 + 1 := by omega); (try have hg1_g1 : g1 < w1.heap.size := by omega); (try have hi1_g1 : g1 ≠ w1.heap.size := by omega); (try have hj1_g1 : w1.heap.size ≠ g1 := by omega); (try have hk1_g1 : g1 < w1.heap.size + 1 := by omega); (try have hg1_g2 : g2 < w1.heap.size := by omega); (try have hi1_g2 : g2 ≠ w1.heap.size := by omega); (try have hj1_g2 : w1.heap.size ≠ g2 := by omega); (try have hk1_g2 : g2 < w1.heap.size + 1 := by omega)
          go_wp2_with fail
          refine (HP.out _ (Hxs.out.below (by (repeat' (first | (with_reducible exact Below.refl _ _) | (with_reducible assumption) | (with_reducible refine Below.drew ?_) | (with_reducible refine belowDrewN ?_ _) | (with_reducible refine Below.alloc ?_ ?_ _) | (with_reducible refine Below.setCell ?_ ?_ _) | (with_reducible refine belowStep (by assumption) ?_ ?_) | (with_reducible exact Below.size (by assumption)) | go_size))))).mono ?_; rintro e w2 ⟨v2, rfl, ho2, hb2⟩; have hz2 := hb2.size; (try simp only [World.size_alloc, World.size_setCell, World.size_drew, World.heap_drewN] at hz2)
          go_wp2
          go_ret2
          rw [E.out]
          exact ⟨rfl, by (repeat' (first | (with_reducible exact Below.refl _ _) | (with_reducible assumption) | (with_reducible refine Below.drew ?_) | (with_reducible refine belowDrewN ?_ _) | (with_reducible refine Below.alloc ?_ ?_ _) | (with_reducible refine Below.setCell ?_ ?_ _) | (with_reducible refine belowStep (by assumption) ?_ ?_) | (with_reducible exact Below.size (by assumption)) | go_size))⟩
        | some ps =>
          have hpl := prodL_len hp
          obtain ⟨q, hq⟩ : ∃ q, ps[xs.length - 1]? = some q := ⟨_, List.getElem?_eq_getElem (by omega)⟩
          have hlast : proL 1 xs = some q := by
            rw [(pro_prod (xs := xs) (p := 1)).2 ps hp]
            congr 1
            rw [List.getLastD_eq_getLast?, List.getLast?_eq_getElem?, hpl, hq]; rfl
          have hin1 : ∀ y ∈ xs, 1 ≤ y := fun y hy => by
            obtain ⟨j, hj⟩ := List.getElem?_of_mem hy
            exact (Hin.out j y hj).1
          obtain ⟨q1, q2⟩ := pro_low (p := 1) (by omega) (by omega) hin1 hlast
          have HL := Lib.hid hlast
          have Hq := Lib.hid hq
          have Hpl := Lib.hid hpl
          have hpl2 : xs.length ≤ ps.length := by omega
          rw [(prod_some hp).1, (prod_some hp).2] at HP
          have ow : IntKind.i64.wrap ((xs.length : Int) - 1) = (xs.length : Int) - 1 := IntWalk.i64_in _ (by omega)
          clear hp hq hpl hlast hin1
          go_enter Try.func33, Try.ntmps33
          go_wp2_with fail
          refine (HS.out _ (Hxs.out.below (by (repeat' (first | (with_reducible exact Below.refl _ _) | (with_reducible assumption) | (with_reducible refine Below.drew ?_) | (with_reducible refine belowDrewN ?_ _) | (with_reducible refine Below.alloc ?_ ?_ _) | (with_reducible refine Below.setCell ?_ ?_ _) | (with_reducible refine belowStep (by assumption) ?_ ?_) | (with_reducible exact Below.size (by assumption)) | go_size))))).mono ?_; rintro e w1 ⟨rfl, hb1⟩; obtain ⟨hc1, hf1⟩ := bcellB hb1; have hz1 := hb1.size; (try simp only [World.size_alloc, World.size_setCell, World.size_drew, World.heap_drewN] at hc1 hf1 hz1); (try have hy1_r_0 : wr.heap.size < w1.heap.size := by omega); (try have hn1_r_0 : wr.heap.size ≠ w1.heap.size := by omega); (try have hm1_r_0 : w1.heap.size ≠ wr.heap.size := by omega); (try have hy1_r_1 : wr.heap.size + 1 < w1.heap.size := by omega); (try have hn1_r_1 : wr.heap.size + 1 ≠ w1.heap.size := by omega); (try have hm1_r_1 : w1.heap.size ≠ wr.heap.size + 1 := by omega); (try have hy1_r_2 : wr.heap.size + 1 + 1 < w1.heap.size := by omega); (try have hp1_r_1 : wr.heap.size < w1.heap.size + 1 := by omega); (try have hp1_r_2 : wr.heap.size < w1.heap.size + 1 + 1 := by omega); (try have hy1_0_0 : w.heap.size < w1.heap.size := by omega); (try have hn1_0_0 : w.heap.size ≠ w1.heap.size := by omega); (try have hm1_0_0 : w1.heap.size ≠ w.heap.size := by omega); (try have hy1_0_1 : w.heap.size + 1 < w1.heap.size := by omega); (try have hn1_0_1 : w.heap.size + 1 ≠ w1.heap.size := by omega); (try have hm1_0_1 : w1.heap.size ≠ w.heap.size + 1 := by omega); (try have hy1_0_2 : w.heap.size + 1 + 1 < w1.heap.size := by omega); (try have hp1_0_1 : w.heap.size < w1.heap.size + 1 := by omega); (try have hp1_0_2 : w.heap.size < w1.heap.size + 1 + 1 := by omega); (try have hg1_g1 : g1 < w1.heap.size := by omega); (try have hi1_g1 : g1 ≠ w1.heap.size := by omega); (try have hj1_g1 : w1.heap.size ≠ g1 := by omega); (try have hk1_g1 : g1 < w1.heap.size + 1 := by omega); (try have hg1_g2 : g2 < w1.heap.size := by omega); (try have hi1_g2 : g2 ≠ w1.heap.size := by omega); (try have hj1_g2 : w1.heap.size ≠ g2 := by omega); (try have hk1_g2 : g2 < w1.heap.size + 1 := by omega)
          go_wp2_with fail
          refine (HP.out _ (Hxs.out.below (by (repeat' (first | (with_reducible exact Below.refl _ _) | (with_reducible assumption) | (with_reducible refine Below.drew ?_) | (with_reducible refine belowDrewN ?_ _) | (with_reducible refine Below.alloc ?_ ?_ _) | (with_reducible refine Below.setCell ?_ ?_ _) | (with_reducible refine belowStep (by assumption) ?_ ?_) | (with_reducible exact Below.size (by assumption)) | go_size))))).mono ?_; rintro e w2 ⟨v2, rfl, ho2, hb2⟩; have hz2 := hb2.size; (try simp only [World.size_alloc, World.size_setCell, World.size_drew, World.heap_drewN] at hz2)
          obtain ⟨A2, c2, rfl, hr2⟩ := ho2.form
          obtain ⟨b2, o2, q', rfl, hbb2, hq', hcq⟩ := hr2.at_ (show xs.length - 1 < ps.length by omega)
          have hqq : q' = q := by
            have := Hq.out
            rw [hq'] at this
            injection this
          subst hqq
          have hnat : ((xs.length : Int) - 1).toNat = xs.length - 1 := by omega
          have hi0 : ¬ (xs.length : Int) - 1 < 0 := by omega
          have hi1 : (xs.length : Int) - 1 < (ps.length : Int) := by omega
          go_wp2
          go_loopw [38] (fun v38 wr => ∃ k : Nat, k ≤ xs.length ∧ v38 = .int .i64 (k : Int) ∧ (∀ j y, j < k → xs[j]? = some y → znB q' y = false) ∧ Below w.heap.size w wr) (fun v38 _ => xs.length - (intOf v38).toNat)
          case atStart => exact ⟨0, Nat.zero_le _, rfl, fun j y hj => absurd hj (by omega), by (repeat' (first | (with_reducible exact Below.refl _ _) | (with_reducible assumption) | (with_reducible refine Below.drew ?_) | (with_reducible refine belowDrewN ?_ _) | (with_reducible refine Below.alloc ?_ ?_ _) | (with_reducible refine Below.setCell ?_ ?_ _) | (with_reducible refine belowStep (by assumption) ?_ ?_) | (with_reducible exact Below.size (by assumption)) | go_size))⟩
          case round =>
            obtain ⟨k, hk, rfl, hl, hbr⟩ := hrel
            have Hl := Lib.hid hl
            clear hl
            have hzr := hbr.size
            by_cases hlt : k < xs.length
            · obtain ⟨b3, o3, x, e3, hb3, hx, hcell⟩ := (Hxs.out.below hbr).at_ hlt
              injection e3 with e3
              injection e3 with e31 e32
              subst e31 e32
              obtain ⟨x1, x2⟩ := Hin.out k x hx
              have Hx := Lib.hid hx
              clear hx
              obtain ⟨o4, o5, o6⟩ := zn_ops q1 q2 x1
              have hxn : x ≠ 0 := by omega
              by_cases hz : (q' / x + 1) % x = 0
              · have hz' : ((q' / x + 1) % x != 0) = false := by simp [hz]
                have Hz : Hid (znB q' x = false) := Lib.hid hz'
                clear hz
                go_wp2
                go_roundw
                case rel =>
                  refine ⟨k + 1, by omega, by go_num, fun j y hj hy => ?_, by (repeat' (first | (with_reducible exact Below.refl _ _) | (with_reducible assumption) | (with_reducible refine Below.drew ?_) | (with_reducible refine belowDrewN ?_ _) | (with_reducible refine Below.alloc ?_ ?_ _) | (with_reducible refine Below.setCell ?_ ?_ _) | (with_reducible refine belowStep (by assumption) ?_ ?_) | (with_reducible exact Below.size (by assumption)) | go_size))⟩
                  rcases Nat.lt_or_ge j k with h3 | h3
                  · exact Hl.out j y h3 hy
                  · obtain rfl : j = k := by omega
                    have hxy := Hx.out
                    rw [hy] at hxy
                    injection hxy with hxy
                    subst hxy
                    exact Hz.out
                case measure => (simp [intOf]) <;> omega
              · have hz' : ((q' / x + 1) % x != 0) = true := by simp [hz]
                have E := Lib.hid (zn_found HA.out HL.out Hx.out hz' Hl.out)
                clear hz
                go_wp2
                go_ret2
                rw [E.out]
                exact ⟨rfl, by (repeat' (first | (with_reducible exact Below.refl _ _) | (with_reducible assumption) | (with_reducible refine Below.drew ?_) | (with_reducible refine belowDrewN ?_ _) | (with_reducible refine Below.alloc ?_ ?_ _) | (with_reducible refine Below.setCell ?_ ?_ _) | (with_reducible refine belowStep (by assumption) ?_ ?_) | (with_reducible exact Below.size (by assumption)) | go_size))⟩
            · obtain rfl : k = xs.length := by omega
              have E := Lib.hid (zn_all HA.out HL.out Hl.out)
              go_wp2
              go_ret2
              rw [E.out]
              exact ⟨rfl, by (repeat' (first | (with_reducible exact Below.refl _ _) | (with_reducible assumption) | (with_reducible refine Below.drew ?_) | (with_reducible refine belowDrewN ?_ _) | (with_reducible refine Below.alloc ?_ ?_ _) | (with_reducible refine Below.setCell ?_ ?_ _) | (with_reducible refine belowStep (by assumption) ?_ ?_) | (with_reducible exact Below.size (by assumption)) | go_size))⟩
      · have E := Lib.hid (zn_bad (za_low Hx0.out hlow))
        have hnl : x0 < 2 := by omega
        clear he
        go_enter Try.func33, Try.ntmps33
        go_wp2_with fail
        refine (HS.out _ (Hxs.out.below (by (repeat' (first | (with_reducible exact Below.refl _ _) | (with_reducible assumption) | (with_reducible refine Below.drew ?_) | (with_reducible refine belowDrewN ?_ _) | (with_reducible refine Below.alloc ?_ ?_ _) | (with_reducible refine Below.setCell ?_ ?_ _) | (with_reducible refine belowStep (by assumption) ?_ ?_) | (with_reducible exact Below.size (by assumption)) | go_size))))).mono ?_; rintro e w1 ⟨rfl, hb1⟩; obtain ⟨hc1, hf1⟩ := bcellB hb1; have hz1 := hb1.size; (try simp only [World.size_alloc, World.size_setCell, World.size_drew, World.heap_drewN] at hc1 hf1 hz1); (try have hy1_r_0 : wr.heap.size < w1.heap.size := by omega); (try have hn1_r_0 : wr.heap.size ≠ w1.heap.size := by omega); (try have hm1_r_0 : w1.heap.size ≠ wr.heap.size := by omega); (try have hy1_r_1 : wr.heap.size + 1 < w1.heap.size := by omega); (try have hn1_r_1 : wr.heap.size + 1 ≠ w1.heap.size := by omega); (try have hm1_r_1 : w1.heap.size ≠ wr.heap.size + 1 := by omega); (try have hy1_r_2 : wr.heap.size + 1 + 1 < w1.heap.size := by omega); (try have hp1_r_1 : wr.heap.size < w1.heap.size + 1 := by omega); (try have hp1_r_2 : wr.heap.size < w1.heap.size + 1 + 1 := by omega); (try have hy1_0_0 : w.heap.size < w1.heap.size := by omega); (try have hn1_0_0 : w.heap.size ≠ w1.heap.size := by omega); (try have hm1_0_0 : w1.heap.size ≠ w.heap.size := by omega); (try have hy1_0_1 : w.heap.size + 1 < w1.heap.size := by omega); (try have hn1_0_1 : w.heap.size + 1 ≠ w1.heap.size := by omega); (try have hm1_0_1 : w1.heap.size ≠ w.heap.size + 1 := by omega); (try have hy1_0_2 : w.heap.size + 1 + 1 < w1.heap.size := by omega); (try have hp1_0_1 : w.heap.size < w1.heap.size + 1 := by omega); (try have hp1_0_2 : w.heap.size < w1.heap.size + 1 + 1 := by omega); (try have hg1_g1 : g1 < w1.heap.size := by omega); (try have hi1_g1 : g1 ≠ w1.heap.size := by omega); (try have hj1_g1 : w1.heap.size ≠ g1 := by omega); (try have hk1_g1 : g1 < w1.heap.size + 1 := by omega); (try have hg1_g2 : g2 < w1.heap.size := by omega); (try have hi1_g2 : g2 ≠ w1.heap.size := by omega); (try have hj1_g2 : w1.heap.size ≠ g2 := by omega); (try have hk1_g2 : g2 < w1.heap.size + 1 := by omega)
        go_wp2
        go_ret2
        rw [E.out]
        exact ⟨rfl, by (repeat' (first | (with_reducible exact Below.refl _ _) | (with_reducible assumption) | (with_reducible refine Below.drew ?_) | (with_reducible refine belowDrewN ?_ _) | (with_reducible refine Below.alloc ?_ ?_ _) | (with_reducible refine Below.setCell ?_ ?_ _) | (with_reducible refine belowStep (by assumption) ?_ ?_) | (with_reducible exact Below.size (by assumption)) | go_size))⟩
    · have E := Lib.hid (zn_bad (za_short h2))
      have h2i : (xs.length : Int) < 2 := by omega
      clear he h2
      go_enter Try.func33, Try.ntmps33
      go_wp2_with fail
      refine (HS.out _ (Hxs.out.below (by (repeat' (first | (with_reducible exact Below.refl _ _) | (with_reducible assumption) | (with_reducible refine Below.drew ?_) | (with_reducible refine belowDrewN ?_ _) | (with_reducible refine Below.alloc ?_ ?_ _) | (with_reducible refine Below.setCell ?_ ?_ _) | (with_reducible refine belowStep (by assumption) ?_ ?_) | (with_reducible exact Below.size (by assumption)) | go_size))))).mono ?_; rintro e w1 ⟨rfl, hb1⟩; obtain ⟨hc1, hf1⟩ := bcellB hb1; have hz1 := hb1.size; (try simp only [World.size_alloc, World.size_setCell, World.size_drew, World.heap_drewN] at hc1 hf1 hz1); (try have hy1_r_0 : wr.heap.size < w1.heap.size := by omega); (try have hn1_r_0 : wr.heap.size ≠ w1.heap.size := by omega); (try have hm1_r_0 : w1.heap.size ≠ wr.heap.size := by omega); (try have hy1_r_1 : wr.heap.size + 1 < w1.heap.size := by omega); (try have hn1_r_1 : wr.heap.size + 1 ≠ w1.heap.size := by omega); (try have hm1_r_1 : w1.heap.size ≠ wr.heap.size + 1 := by omega); (try have hy1_r_2 : wr.heap.size + 1 + 1 < w1.heap.size := by omega); (try have hp1_r_1 : wr.heap.size < w1.heap.size + 1 := by omega); (try have hp1_r_2 : wr.heap.size < w1.heap.size + 1 + 1 := by omega); (try have hy1_0_0 : w.heap.size < w1.heap.size := by omega); (try have hn1_0_0 : w.heap.size ≠ w1.heap.size := by omega); (try have hm1_0_0 : w1.heap.size ≠ w.heap.size := by omega); (try have hy1_0_1 : w.heap.size + 1 < w1.heap.size := by omega); (try have hn1_0_1 : w.heap.size + 1 ≠ w1.heap.size := by omega); (try have hm1_0_1 : w1.heap.size ≠ w.heap.size + 1 := by omega); (try have hy1_0_2 : w.heap.size + 1 + 1 < w1.heap.size := by omega); (try have hp1_0_1 : w.heap.size < w1.heap.size + 1 := by omega); (try have hp1_0_2 : w.heap.size < w1.heap.size + 1 + 1 := by omega); (try have hg1_g1 : g1 < w1.heap.size := by omega); (try have hi1_g1 : g1 ≠ w1.heap.size := by omega); (try have hj1_g1 : w1.heap.size ≠ g1 := by omega); (try have hk1_g1 : g1 < w1.heap.size + 1 := by omega); (try have hg1_g2 : g2 < w1.heap.size := by omega); (try have hi1_g2 : g2 ≠ w1.heap.size := by omega); (try have hj1_g2 : w1.heap.size ≠ g2 := by omega); (try have hk1_g2 : g2 < w1.heap.size + 1 := by omega)
      go_wp2
      go_ret2
      rw [E.out]
      exact ⟨rfl, by (repeat' (first | (with_reducible exact Below.refl _ _) | (with_reducible assumption) | (with_reducible refine Below.drew ?_) | (with_reducible refine belowDrewN ?_ _) | (with_reducible refine Below.alloc ?_ ?_ _) | (with_reducible refine Below.setCell ?_ ?_ _) | (with_reducible refine belowStep (by assumption) ?_ ?_) | (with_reducible exact Below.size (by assumption)) | go_size))⟩
end Go.Proofs.Ytponpllfojhfiab
