import Derived.Test.YtleookfdngnphaaPk14
import Derived.Test.YtleookfdngnphaaPk7
import Derived.Test.YtleookfdngnphaaPk11
import Derived.Test.YtleookfdngnphaaPk12
import Derived.Test.YtleookfdngnphaaPk2
import Derived.Deep.RegionHeld3
import Derived.Deep.LoopGhost
import Derived.StillTailTactics
import Derived.Test.YtleookfdngnphaaPk8
import Derived.Test.YtleookfdngnphaaPk1
import Derived.Orders

/-
  The contract of the function that makes a list by steps and looks whether the list is taken.
-/
namespace Go.Proofs.Ytleookfdngnphaa
open Go.RowKit
theorem grownDrew {a w : World} {row : Option Nat} (h : a.grownBy w row) : a.grownBy w.drew row := ⟨h.os, h.tape, h.output, h.size, h.block⟩
/-- the list that the steps take, if it is taken -/
def lstO (st : Stp) (ok : List Int → Bool) (m : Nat) (l n d : Int) : Option (List Int) := (walkR st m l n d).bind fun es => if ok (takenOf es) = true then some (takenOf es) else none
theorem lstO_none {st : Stp} {ok : List Int → Bool} {m : Nat} {l n d : Int} (h : walkR st m l n d = none) : lstO st ok m l n d = none := by simp [lstO, h]
theorem lstO_yes {st : Stp} {ok : List Int → Bool} {m : Nat} {l n d : Int} {es : List (Int × Int × Int)} (h : walkR st m l n d = some es) (hk : ok (takenOf es) = true) : lstO st ok m l n d = some (takenOf es) := by simp [lstO, h, hk]
theorem lstO_no {st : Stp} {ok : List Int → Bool} {m : Nat} {l n d : Int} {es : List (Int × Int × Int)} (h : walkR st m l n d = some es) (hk : ok (takenOf es) = false) : lstO st ok m l n d = none := by simp [lstO, h, hk]
/-- of the program: a new list of the call's own, if there is one -/
def RetLO (o : Option (List Int)) (row : Option Nat) (w : World) (e : Ending) (w' : World) : Prop := ∃ v, e = .returned (.tuple #[v, .bool o.isSome]) ∧ OwnI w' w.heap.size v (o.getD []) ∧ w.grownBy w' row
/-- what the steps take is small -/
def Small (st : Stp) : Prop := ∀ l n d t n' d', goodB n d = true → 1 ≤ n → 0 ≤ l → st l n d = some (t, n', d') → 0 ≤ t ∧ t ≤ 1000000000 ∧ goodB n' d' = true
theorem walkR_small {st : Stp} (hst : Small st) : ∀ {k : Nat} {l n d : Int} {es : List (Int × Int × Int)}, goodB n d = true → 0 ≤ l → walkR st k l n d = some es → ∀ x ∈ takenOf es, 0 ≤ x ∧ x ≤ 1000000000
  | 0, l, n, d, es, hg, _, h => by
    by_cases h0 : n ≤ 0
    · rw [walkR_end h0] at h
      injection h with h
      subst h
      intro x hx
      cases hx
    · rw [walkR_out (by omega)] at h; cases h
  | k + 1, l, n, d, es, hg, hl, h => by
    by_cases h0 : n ≤ 0
    · rw [walkR_end h0] at h
      injection h with h
      subst h
      intro x hx
      cases hx
    · have hn : 0 < n := by omega
      cases hs : st l n d with
      | none => rw [walkR_none hn hs] at h; cases h
      | some p =>
        obtain ⟨t, n', d'⟩ := p
        rw [walkR_some hn hs] at h
        obtain ⟨a, b, c⟩ := hst l n d t n' d' hg (by omega) hl hs
        cases hr : walkR st k (t + 1) n' d' with
        | none => rw [hr] at h; cases h
        | some es' =>
          rw [hr] at h
          injection h with h
          subst h
          intro x hx
          rcases List.mem_cons.1 (show x ∈ t :: takenOf es' from hx) with rfl | hx
          · exact ⟨a, b⟩
          · exact walkR_small hst c (by omega) hr x hx
set_option maxRecDepth 100000 in
set_option maxHeartbeats 4000000 in
theorem listBy_any (k r : Nat) (cs : Array Value) (st : Stp) (ok : List Int → Bool) (I : Int → World → Prop) (row : Option Nat) (l0 n0 d0 : Int) (w : World)
    (hrow : ∀ g, row = some g → g < w.heap.size) (hI : ∀ l w1 w2, I l w1 → Below w.heap.size w1 w2 → I l w2)
    (hent : ∀ args w1, Sem.run Try.prog (callFunc k args) w1 = .ok (.enter k args) w1)
    (hent2 : ∀ args w1, Sem.run Try.prog (callFunc r args) w1 = .ok (.enter r args) w1)
    (hcall : ∀ l n d w1, goodB n d = true → 1 ≤ n → 0 ≤ l → l ≤ 1000000001 → I l w1 → Calls Try.prog k (#[.agg #[.int .i64 n, .int .i64 d]] ++ cs) w1 (StepR st I row l n d w1))
    (hsm : Small st)
    (hread : ∀ (w : World) (A : Option Addr) (c : Nat) (xs : List Int), Reads w A xs → xs.length ≤ 24 → In64 xs → Calls Try.prog r #[.slice A xs.length c] w (fun e w' => ∃ p q : Int, e = .returned (.tuple #[.agg #[.int .i64 p, .int .i64 q], .bool (ok xs)]) ∧ Below w.heap.size w w'))
    (hg : goodB n0 d0 = true) (hl0 : 0 ≤ l0) (hl1 : l0 ≤ 1000000001) (h0 : I l0 w) :
    Calls Try.prog 192 #[.agg #[.int .i64 n0, .int .i64 d0], .func (.func k) #[] cs, .func (.func r) #[] #[]] w (RetLO (lstO st ok 24 l0 n0 d0) row w) := by
  have HE := Lib.hid hent2
  have HSM := Lib.hid (fun (es : List (Int × Int × Int)) (h : walkR st 24 l0 n0 d0 = some es) => walkR_small hsm hg hl0 h)
  have HRD := Lib.hid hread
  have HR := Lib.hid hrow
  have hb0 : Below w.heap.size w (w.alloc (.cells #[.int .i64 n0, .int .i64 d0] 38)) := by (repeat' (first | (with_reducible exact Below.refl _ _) | (with_reducible assumption) | (with_reducible refine Below.drew ?_) | (with_reducible refine belowDrewN ?_ _) | (with_reducible refine Below.alloc ?_ ?_ _) | (with_reducible refine Below.setCell ?_ ?_ _) | (with_reducible refine belowStep (by assumption) ?_ ?_) | (with_reducible exact Below.size (by assumption)) | go_size))
  have HW := Lib.hid (walk_any k cs st I row l0 n0 d0 (w.alloc (.cells #[.int .i64 n0, .int .i64 d0] 38)) (fun g h => by have := hrow g h; simp; omega) (fun l w1 w2 h hb => hI l w1 w2 h (hb.mono (by simp))) hent hcall hg hl0 hl1 (hI l0 _ _ h0 hb0))
  have Hb0 := Lib.hid hb0
  clear hI hcall hrow hent hent2 hg h0 hsm hread hb0
  go_enter Try.func192, Try.ntmps192
  go_wp2_with fail
  refine HW.out.mono ?_
  rintro e w1 ⟨hg1, h1⟩
  have hz1 := hg1.size
  rw [World.size_alloc] at hz1
  have Hg1 := Lib.hid (show w.grownBy w1 row from (grownAlloc (World.grownBy.refl w row) (Nat.le_refl _) _).trans hg1)
  clear hg1
  rcases h1 with ⟨es, v1, v2, hw, hl, rfl, ho1, ho2⟩ | ⟨hw, rfl⟩
  · have Hw := Lib.hid hw
    have Ho1 := Lib.hid (ho1.mono (show w.heap.size ≤ (w.alloc (.cells #[.int .i64 n0, .int .i64 d0] 38)).heap.size by simp))
    obtain ⟨A1, c1, e1, hr1⟩ := ho1.form
    have Hr1 := Lib.hid hr1
    have hlen : (takenOf es).length ≤ 24 := by rw [takenOf_len]; exact hl
    have H64 := Lib.hid (In64.of_mem fun x hx => by have := HSM.out es hw x hx; omega)
    have HC := Lib.hid (fun (w : World) (h : Reads w A1 (takenOf es)) => HRD.out w A1 c1 _ h hlen H64.out)
    have E1 := Lib.hid e1
    clear hw ho1 ho2 hr1 e1
    cases hk : ok (takenOf es) with
    | true =>
      have E := Lib.hid (lstO_yes Hw.out hk)
      go_wp2_with fail
      rw [HE.out, Oper.upon_enter, E1.out]
      refine (HC.out _ Hr1.out).mono ?_
      rintro e w2 ⟨p, q, rfl, hb2⟩
      have hz2 := hb2.size
      rw [hk]
      go_wp2
      go_ret2
      rw [E.out]
      rw [E1.out] at Ho1
      exact ⟨_, rfl, Ho1.out.below (by (repeat' (first | (with_reducible exact Below.refl _ _) | (with_reducible assumption) | (with_reducible refine Below.drew ?_) | (with_reducible refine belowDrewN ?_ _) | (with_reducible refine Below.alloc ?_ ?_ _) | (with_reducible refine Below.setCell ?_ ?_ _) | (with_reducible refine belowStep (by assumption) ?_ ?_) | (with_reducible exact Below.size (by assumption)) | go_size))), grownBelow Hg1.out (by omega) (by (repeat' (first | (with_reducible exact Below.refl _ _) | (with_reducible assumption) | (with_reducible refine Below.drew ?_) | (with_reducible refine belowDrewN ?_ _) | (with_reducible refine Below.alloc ?_ ?_ _) | (with_reducible refine Below.setCell ?_ ?_ _) | (with_reducible refine belowStep (by assumption) ?_ ?_) | (with_reducible exact Below.size (by assumption)) | go_size)))⟩
    | false =>
      have E := Lib.hid (lstO_no Hw.out hk)
      go_wp2_with fail
      rw [HE.out, Oper.upon_enter, E1.out]
      refine (HC.out _ Hr1.out).mono ?_
      rintro e w2 ⟨p, q, rfl, hb2⟩
      have hz2 := hb2.size
      rw [hk]
      go_wp2
      go_ret2
      rw [E.out]
      exact ⟨_, rfl, OwnI.empty _ _, grownBelow Hg1.out (by omega) (by (repeat' (first | (with_reducible exact Below.refl _ _) | (with_reducible assumption) | (with_reducible refine Below.drew ?_) | (with_reducible refine belowDrewN ?_ _) | (with_reducible refine Below.alloc ?_ ?_ _) | (with_reducible refine Below.setCell ?_ ?_ _) | (with_reducible refine belowStep (by assumption) ?_ ?_) | (with_reducible exact Below.size (by assumption)) | go_size)))⟩
  · have E := Lib.hid (lstO_none (ok := ok) hw)
    go_wp2
    go_ret2
    rw [E.out]
    exact ⟨_, rfl, OwnI.empty _ _, Hg1.out⟩
end Go.Proofs.Ytleookfdngnphaa


/-
  Contracts of the model's search for nearest sums: a list that is full.
-/
namespace Go.Proofs.Ytleookfdngnphaa
open Go.RowKit
/-- a best list, as the model hands it on -/
def bestV (A : Option Addr) (c : Nat) (r : Best) : Value := .agg #[.slice A r.1.length c, .int .i64 r.2.1, .int .i64 r.2.2]
/-- it is handed back, and its list reads so -/
def RetBest (r : Best) (w : World) (e : Ending) (w' : World) : Prop := ∃ A c, e = .returned (.agg #[.slice A r.1.length c, .int .i64 r.2.1, .int .i64 r.2.2]) ∧ Reads w' A r.1 ∧ Below w.heap.size w w'
/-- the list lies in none of these blocks -/
def ClearB (bad : Nat → Prop) (xs : List Int) (A : Option Addr) : Prop := xs = [] ∨ ∀ a, A = some a → ¬ bad a.block
def RetBestB (bad : Nat → Prop) (r : Best) (w : World) (e : Ending) (w' : World) : Prop := ∃ A c, e = .returned (.agg #[.slice A r.1.length c, .int .i64 r.2.1, .int .i64 r.2.2]) ∧ Reads w' A r.1 ∧ Below w.heap.size w w' ∧ ClearB bad r.1 A
theorem OwnI.clearB {w : World} {base : Nat} {A : Option Addr} {m c : Nat} {xs : List Int} {bad : Nat → Prop} (h : OwnI w base (.slice A m c) xs) (hb : ∀ b, bad b → b < base) : ClearB bad xs A := .inr fun a ha hbd => by
  subst ha
  have h1 := (h.block a.block rfl).1
  have h2 := hb _ hbd
  omega
theorem btr_empty {best : Best} {l : List Int} {g : Int × Int} (h : best.1 = []) : btr best l g = (l, g.1, g.2) := by rw [btr, if_pos (.inl h)]
theorem btr_less {best : Best} {l : List Int} {g : Int × Int} (h : g.1 * best.2.2 < best.2.1 * g.2) : btr best l g = (l, g.1, g.2) := by rw [btr, if_pos (.inr h)]
theorem btr_old {best : Best} {l : List Int} {g : Int × Int} (h1 : best.1 ≠ []) (h2 : ¬ g.1 * best.2.2 < best.2.1 * g.2) : btr best l g = best := by rw [btr, if_neg (by rintro (h | h); exact h1 h; exact h2 h)]
set_option maxRecDepth 100000 in
set_option maxHeartbeats 4000000 in
theorem neBelow_new (bad : Nat → Prop) (w : World) (hbad : ∀ b, bad b → b < w.heap.size) (A Al : Option Addr) (c cl m : Nat) (l : List Int) (x y g1 g2 least : Int) (b : Bool) (hl : Reads w Al l) (hll : l.length ≤ 1000)
    (hq : m = 0 ∨ ∀ w, Calls Try.prog 152 #[.agg #[.int .i64 g1, .int .i64 g2], .agg #[.int .i64 x, .int .i64 y]] w (Ret (.bool true) w)) :
    Calls Try.prog 185 #[.agg #[.slice A m c, .int .i64 x, .int .i64 y], .slice Al l.length cl, .agg #[.int .i64 g1, .int .i64 g2], .int .i64 0, .int .i64 least, .bool b] w (RetBestB bad (l, g1, g2) w) := by
  have HO := Lib.hid fun (w : World) (h : Reads w Al l) => l1Own_any w Al cl l h (by omega)
  have Hl := Lib.hid hl
  clear hl
  have x1 : w.heap.size < w.heap.size + 1 + 1 := by omega
  have x2 : w.heap.size + 1 < w.heap.size + 1 + 1 := by omega
  have x3 : w.heap.size ≠ w.heap.size + 1 + 1 := by omega
  have x4 : w.heap.size + 1 ≠ w.heap.size + 1 + 1 := by omega
  have x5 : w.heap.size < w.heap.size + 1 + 1 + 1 := by omega
  have x6 : w.heap.size + 1 < w.heap.size + 1 + 1 + 1 := by omega
  have x7 : w.heap.size + 1 + 1 < w.heap.size + 1 + 1 + 1 := by omega
  by_cases hm : m = 0
  · subst hm
    clear hq
    go_enter Try.func185, Try.ntmps185
    go_wp2
    go_region_with (go_at_call 191; refine (HO.out _ (Hl.out.below (by (repeat' (first | (with_reducible exact Below.refl _ _) | (with_reducible assumption) | (with_reducible refine Below.drew ?_) | (with_reducible refine belowDrewN ?_ _) | (with_reducible refine Below.alloc ?_ ?_ _) | (with_reducible refine Below.setCell ?_ ?_ _) | (with_reducible refine belowStep (by assumption) ?_ ?_) | (with_reducible exact Below.size (by assumption)) | go_size))))).mono ?_; rintro e w1 ⟨v1, rfl, ho1, hb1⟩; obtain ⟨A1, c1, rfl, hr1⟩ := ho1.form; obtain ⟨hc1, hf1⟩ := bcellB hb1; have hz1 := hb1.size; (try simp only [World.size_alloc, World.size_drew] at hc1 hf1 hz1); (try have hy1_r_0 : wr.heap.size < w1.heap.size := by omega); (try have hn1_r_0 : wr.heap.size ≠ w1.heap.size := by omega); (try have hm1_r_0 : w1.heap.size ≠ wr.heap.size := by omega); (try have hy1_r_1 : wr.heap.size + 1 < w1.heap.size := by omega); (try have hn1_r_1 : wr.heap.size + 1 ≠ w1.heap.size := by omega); (try have hm1_r_1 : w1.heap.size ≠ wr.heap.size + 1 := by omega); (try have hy1_r_2 : wr.heap.size + 1 + 1 < w1.heap.size := by omega); (try have hp1_r_1 : wr.heap.size < w1.heap.size + 1 := by omega); (try have hp1_r_2 : wr.heap.size < w1.heap.size + 1 + 1 := by omega); (try have hy1_0_0 : w.heap.size < w1.heap.size := by omega); (try have hn1_0_0 : w.heap.size ≠ w1.heap.size := by omega); (try have hm1_0_0 : w1.heap.size ≠ w.heap.size := by omega); (try have hy1_0_1 : w.heap.size + 1 < w1.heap.size := by omega); (try have hn1_0_1 : w.heap.size + 1 ≠ w1.heap.size := by omega); (try have hm1_0_1 : w1.heap.size ≠ w.heap.size + 1 := by omega); (try have hy1_0_2 : w.heap.size + 1 + 1 < w1.heap.size := by omega); (try have hp1_0_1 : w.heap.size < w1.heap.size + 1 := by omega); (try have hp1_0_2 : w.heap.size < w1.heap.size + 1 + 1 := by omega); (try have hg1_g1 : g1 < w1.heap.size := by omega); (try have hi1_g1 : g1 ≠ w1.heap.size := by omega); (try have hj1_g1 : w1.heap.size ≠ g1 := by omega); (try have hk1_g1 : g1 < w1.heap.size + 1 := by omega); (try have hg1_g2 : g2 < w1.heap.size := by omega); (try have hi1_g2 : g2 ≠ w1.heap.size := by omega); (try have hj1_g2 : w1.heap.size ≠ g2 := by omega); (try have hk1_g2 : g2 < w1.heap.size + 1 := by omega))
    all_goals go_wp2
    all_goals refine bodyPost_ret (by simp [results, Try.results185, go_sem, *]; try rfl) rfl ?_
    all_goals exact ⟨A1, c1, rfl, (ho1.grown (show World.grownBy w1 _ (some (w.heap.size + 1 + 1)) by (repeat' (first | (with_reducible exact World.grownBy.refl _ _) | (with_reducible refine grownDrewN ?_ _) | (with_reducible refine grownDrew ?_) | (with_reducible refine grownSet ?_ rfl _ _) | (with_reducible refine grownSetNew ?_ ?_ _ _) | (with_reducible refine grownAlloc ?_ ?_ _) | (with_reducible refine grownBelow ?_ ?_ (by assumption)) | go_size))) (by (first | (go_size; done) | ((try simp only [World.size_alloc, World.size_setCell, World.size_drew, World.heap_drewN]); omega)))).reads.1, by (repeat' (first | (with_reducible exact Below.refl _ _) | (with_reducible assumption) | (with_reducible refine Below.drew ?_) | (with_reducible refine belowDrewN ?_ _) | (with_reducible refine Below.alloc ?_ ?_ _) | (with_reducible refine Below.setCell ?_ ?_ _) | (with_reducible refine belowStep (by assumption) ?_ ?_) | (with_reducible exact Below.size (by assumption)) | go_size)), ho1.clearB (fun b hb => by have := hbad b hb; (first | (go_size; done) | ((try simp only [World.size_alloc, World.size_setCell, World.size_drew, World.heap_drewN]); omega)))⟩
  · have HQ := Lib.hid (hq.resolve_left hm)
    have hm1 : ¬ (m : Int) = 0 := by omega
    have hm2 : ((m : Int) == 0) = false := by simp; omega
    clear hq
    go_enter Try.func185, Try.ntmps185
    go_wp2_with (go_at_call 152; refine (HQ.out _).mono ?_; rintro e w2 ⟨rfl, hb2⟩; obtain ⟨hc2, hf2⟩ := bcellB hb2; have hz2 := hb2.size; (try simp only [World.size_alloc] at hc2 hf2 hz2); (try have hy2_r_0 : wr.heap.size < w2.heap.size := by omega); (try have hn2_r_0 : wr.heap.size ≠ w2.heap.size := by omega); (try have hm2_r_0 : w2.heap.size ≠ wr.heap.size := by omega); (try have hy2_r_1 : wr.heap.size + 1 < w2.heap.size := by omega); (try have hn2_r_1 : wr.heap.size + 1 ≠ w2.heap.size := by omega); (try have hm2_r_1 : w2.heap.size ≠ wr.heap.size + 1 := by omega); (try have hy2_r_2 : wr.heap.size + 1 + 1 < w2.heap.size := by omega); (try have hp2_r_1 : wr.heap.size < w2.heap.size + 1 := by omega); (try have hp2_r_2 : wr.heap.size < w2.heap.size + 1 + 1 := by omega); (try have hy2_0_0 : w.heap.size < w2.heap.size := by omega); (try have hn2_0_0 : w.heap.size ≠ w2.heap.size := by omega); (try have hm2_0_0 : w2.heap.size ≠ w.heap.size := by omega); (try have hy2_0_1 : w.heap.size + 1 < w2.heap.size := by omega); (try have hn2_0_1 : w.heap.size + 1 ≠ w2.heap.size := by omega); (try have hm2_0_1 : w2.heap.size ≠ w.heap.size + 1 := by omega); (try have hy2_0_2 : w.heap.size + 1 + 1 < w2.heap.size := by omega); (try have hp2_0_1 : w.heap.size < w2.heap.size + 1 := by omega); (try have hp2_0_2 : w.heap.size < w2.heap.size + 1 + 1 := by omega); (try have hy2_1_0 : w1.heap.size < w2.heap.size := by omega); (try have hn2_1_0 : w1.heap.size ≠ w2.heap.size := by omega); (try have hm2_1_0 : w2.heap.size ≠ w1.heap.size := by omega); (try have hy2_1_1 : w1.heap.size + 1 < w2.heap.size := by omega); (try have hn2_1_1 : w1.heap.size + 1 ≠ w2.heap.size := by omega); (try have hm2_1_1 : w2.heap.size ≠ w1.heap.size + 1 := by omega); (try have hy2_1_2 : w1.heap.size + 1 + 1 < w2.heap.size := by omega); (try have hp2_1_1 : w1.heap.size < w2.heap.size + 1 := by omega); (try have hp2_1_2 : w1.heap.size < w2.heap.size + 1 + 1 := by omega); (try have hg2_g1 : g1 < w2.heap.size := by omega); (try have hi2_g1 : g1 ≠ w2.heap.size := by omega); (try have hj2_g1 : w2.heap.size ≠ g1 := by omega); (try have hk2_g1 : g1 < w2.heap.size + 1 := by omega); (try have hg2_g2 : g2 < w2.heap.size := by omega); (try have hi2_g2 : g2 ≠ w2.heap.size := by omega); (try have hj2_g2 : w2.heap.size ≠ g2 := by omega); (try have hk2_g2 : g2 < w2.heap.size + 1 := by omega))
    go_region_with (go_at_call 191; refine (HO.out _ (Hl.out.below (by (repeat' (first | (with_reducible exact Below.refl _ _) | (with_reducible assumption) | (with_reducible refine Below.drew ?_) | (with_reducible refine belowDrewN ?_ _) | (with_reducible refine Below.alloc ?_ ?_ _) | (with_reducible refine Below.setCell ?_ ?_ _) | (with_reducible refine belowStep (by assumption) ?_ ?_) | (with_reducible exact Below.size (by assumption)) | go_size))))).mono ?_; rintro e w1 ⟨v1, rfl, ho1, hb1⟩; obtain ⟨A1, c1, rfl, hr1⟩ := ho1.form; obtain ⟨hc1, hf1⟩ := bcellB hb1; have hz1 := hb1.size; (try simp only [World.size_drew] at hc1 hf1 hz1); (try have hy1_r_0 : wr.heap.size < w1.heap.size := by omega); (try have hn1_r_0 : wr.heap.size ≠ w1.heap.size := by omega); (try have hm1_r_0 : w1.heap.size ≠ wr.heap.size := by omega); (try have hy1_r_1 : wr.heap.size + 1 < w1.heap.size := by omega); (try have hn1_r_1 : wr.heap.size + 1 ≠ w1.heap.size := by omega); (try have hm1_r_1 : w1.heap.size ≠ wr.heap.size + 1 := by omega); (try have hy1_r_2 : wr.heap.size + 1 + 1 < w1.heap.size := by omega); (try have hp1_r_1 : wr.heap.size < w1.heap.size + 1 := by omega); (try have hp1_r_2 : wr.heap.size < w1.heap.size + 1 + 1 := by omega); (try have hy1_0_0 : w.heap.size < w1.heap.size := by omega); (try have hn1_0_0 : w.heap.size ≠ w1.heap.size := by omega); (try have hm1_0_0 : w1.heap.size ≠ w.heap.size := by omega); (try have hy1_0_1 : w.heap.size + 1 < w1.heap.size := by omega); (try have hn1_0_1 : w.heap.size + 1 ≠ w1.heap.size := by omega); (try have hm1_0_1 : w1.heap.size ≠ w.heap.size + 1 := by omega); (try have hy1_0_2 : w.heap.size + 1 + 1 < w1.heap.size := by omega); (try have hp1_0_1 : w.heap.size < w1.heap.size + 1 := by omega); (try have hp1_0_2 : w.heap.size < w1.heap.size + 1 + 1 := by omega); (try have hg1_g1 : g1 < w1.heap.size := by omega); (try have hi1_g1 : g1 ≠ w1.heap.size := by omega); (try have hj1_g1 : w1.heap.size ≠ g1 := by omega); (try have hk1_g1 : g1 < w1.heap.size + 1 := by omega); (try have hg1_g2 : g2 < w1.heap.size := by omega); (try have hi1_g2 : g2 ≠ w1.heap.size := by omega); (try have hj1_g2 : w1.heap.size ≠ g2 := by omega); (try have hk1_g2 : g2 < w1.heap.size + 1 := by omega))
    all_goals go_wp2
    all_goals refine bodyPost_ret (by simp [results, Try.results185, go_sem, *]; try rfl) rfl ?_
    all_goals exact ⟨A1, c1, rfl, (ho1.grown (show World.grownBy w1 _ (some (w.heap.size + 1 + 1)) by (repeat' (first | (with_reducible exact World.grownBy.refl _ _) | (with_reducible refine grownDrewN ?_ _) | (with_reducible refine grownDrew ?_) | (with_reducible refine grownSet ?_ rfl _ _) | (with_reducible refine grownSetNew ?_ ?_ _ _) | (with_reducible refine grownAlloc ?_ ?_ _) | (with_reducible refine grownBelow ?_ ?_ (by assumption)) | go_size))) (by (first | (go_size; done) | ((try simp only [World.size_alloc, World.size_setCell, World.size_drew, World.heap_drewN]); omega)))).reads.1, by (repeat' (first | (with_reducible exact Below.refl _ _) | (with_reducible assumption) | (with_reducible refine Below.drew ?_) | (with_reducible refine belowDrewN ?_ _) | (with_reducible refine Below.alloc ?_ ?_ _) | (with_reducible refine Below.setCell ?_ ?_ _) | (with_reducible refine belowStep (by assumption) ?_ ?_) | (with_reducible exact Below.size (by assumption)) | go_size)), ho1.clearB (fun b hb => by have := hbad b hb; (first | (go_size; done) | ((try simp only [World.size_alloc, World.size_setCell, World.size_drew, World.heap_drewN]); omega)))⟩
set_option maxRecDepth 100000 in
set_option maxHeartbeats 4000000 in
theorem neBelow_old (bad : Nat → Prop) (w : World) (A Al : Option Addr) (c cl m : Nat) (xs l : List Int) (x y g1 g2 least : Int) (b : Bool) (hx : Reads w A xs) (hm : m = xs.length) (hm0 : 1 ≤ m) (hcl : ClearB bad xs A)
    (hq : ∀ w, Calls Try.prog 152 #[.agg #[.int .i64 g1, .int .i64 g2], .agg #[.int .i64 x, .int .i64 y]] w (Ret (.bool false) w)) :
    Calls Try.prog 185 #[.agg #[.slice A m c, .int .i64 x, .int .i64 y], .slice Al l.length cl, .agg #[.int .i64 g1, .int .i64 g2], .int .i64 0, .int .i64 least, .bool b] w (RetBestB bad (xs, x, y) w) := by
  have Hx := Lib.hid hx
  have HQ := Lib.hid hq
  have Hm := Lib.hid hm
  have hm1 : ¬ (m : Int) = 0 := by omega
  have hm2 : ((m : Int) == 0) = false := by simp; omega
  have x1 : w.heap.size < w.heap.size + 1 + 1 := by omega
  have x2 : w.heap.size + 1 < w.heap.size + 1 + 1 := by omega
  have x3 : w.heap.size ≠ w.heap.size + 1 + 1 := by omega
  have x4 : w.heap.size + 1 ≠ w.heap.size + 1 + 1 := by omega
  have x5 : w.heap.size < w.heap.size + 1 + 1 + 1 := by omega
  have x6 : w.heap.size + 1 < w.heap.size + 1 + 1 + 1 := by omega
  have x7 : w.heap.size + 1 + 1 < w.heap.size + 1 + 1 + 1 := by omega
  clear hx hq hm
  go_enter Try.func185, Try.ntmps185
  go_wp2_with (go_at_call 152; refine (HQ.out _).mono ?_; rintro e w2 ⟨rfl, hb2⟩; obtain ⟨hc2, hf2⟩ := bcellB hb2; have hz2 := hb2.size; (try simp only [World.size_alloc] at hc2 hf2 hz2); (try have hy2_r_0 : wr.heap.size < w2.heap.size := by omega); (try have hn2_r_0 : wr.heap.size ≠ w2.heap.size := by omega); (try have hm2_r_0 : w2.heap.size ≠ wr.heap.size := by omega); (try have hy2_r_1 : wr.heap.size + 1 < w2.heap.size := by omega); (try have hn2_r_1 : wr.heap.size + 1 ≠ w2.heap.size := by omega); (try have hm2_r_1 : w2.heap.size ≠ wr.heap.size + 1 := by omega); (try have hy2_r_2 : wr.heap.size + 1 + 1 < w2.heap.size := by omega); (try have hp2_r_1 : wr.heap.size < w2.heap.size + 1 := by omega); (try have hp2_r_2 : wr.heap.size < w2.heap.size + 1 + 1 := by omega); (try have hy2_0_0 : w.heap.size < w2.heap.size := by omega); (try have hn2_0_0 : w.heap.size ≠ w2.heap.size := by omega); (try have hm2_0_0 : w2.heap.size ≠ w.heap.size := by omega); (try have hy2_0_1 : w.heap.size + 1 < w2.heap.size := by omega); (try have hn2_0_1 : w.heap.size + 1 ≠ w2.heap.size := by omega); (try have hm2_0_1 : w2.heap.size ≠ w.heap.size + 1 := by omega); (try have hy2_0_2 : w.heap.size + 1 + 1 < w2.heap.size := by omega); (try have hp2_0_1 : w.heap.size < w2.heap.size + 1 := by omega); (try have hp2_0_2 : w.heap.size < w2.heap.size + 1 + 1 := by omega); (try have hy2_1_0 : w1.heap.size < w2.heap.size := by omega); (try have hn2_1_0 : w1.heap.size ≠ w2.heap.size := by omega); (try have hm2_1_0 : w2.heap.size ≠ w1.heap.size := by omega); (try have hy2_1_1 : w1.heap.size + 1 < w2.heap.size := by omega); (try have hn2_1_1 : w1.heap.size + 1 ≠ w2.heap.size := by omega); (try have hm2_1_1 : w2.heap.size ≠ w1.heap.size + 1 := by omega); (try have hy2_1_2 : w1.heap.size + 1 + 1 < w2.heap.size := by omega); (try have hp2_1_1 : w1.heap.size < w2.heap.size + 1 := by omega); (try have hp2_1_2 : w1.heap.size < w2.heap.size + 1 + 1 := by omega); (try have hg2_g1 : g1 < w2.heap.size := by omega); (try have hi2_g1 : g1 ≠ w2.heap.size := by omega); (try have hj2_g1 : w2.heap.size ≠ g1 := by omega); (try have hk2_g1 : g1 < w2.heap.size + 1 := by omega); (try have hg2_g2 : g2 < w2.heap.size := by omega); (try have hi2_g2 : g2 ≠ w2.heap.size := by omega); (try have hj2_g2 : w2.heap.size ≠ g2 := by omega); (try have hk2_g2 : g2 < w2.heap.size + 1 := by omega))
  refine bodyPost_ret (by simp [results, Try.results185, go_sem, *]; try rfl) rfl ?_
  exact ⟨A, c, by rw [Hm.out], Hx.out.below (by (repeat' (first | (with_reducible exact Below.refl _ _) | (with_reducible assumption) | (with_reducible refine Below.drew ?_) | (with_reducible refine belowDrewN ?_ _) | (with_reducible refine Below.alloc ?_ ?_ _) | (with_reducible refine Below.setCell ?_ ?_ _) | (with_reducible refine belowStep (by assumption) ?_ ?_) | (with_reducible exact Below.size (by assumption)) | go_size))), by (repeat' (first | (with_reducible exact Below.refl _ _) | (with_reducible assumption) | (with_reducible refine Below.drew ?_) | (with_reducible refine belowDrewN ?_ _) | (with_reducible refine Below.alloc ?_ ?_ _) | (with_reducible refine Below.setCell ?_ ?_ _) | (with_reducible refine belowStep (by assumption) ?_ ?_) | (with_reducible exact Below.size (by assumption)) | go_size)), hcl⟩
end Go.Proofs.Ytleookfdngnphaa


/-
  Contracts of the model's order and difference of fractions that need not be in lowest terms.
-/
namespace Go.Proofs.Ytleookfdngnphaa
open Go.RowKit
theorem unLess_raw (n d m e : Int) (w : World) (n1 : 0 ≤ n) (n2 : n ≤ 1000000000) (d1 : 1 ≤ d) (d2 : d ≤ 1000000000) (m1 : 0 ≤ m) (m2 : m ≤ 1000000000) (e1 : 1 ≤ e) (e2 : e ≤ 1000000000) :
    Calls Try.prog 152 #[.agg #[.int .i64 n, .int .i64 d], .agg #[.int .i64 m, .int .i64 e]] w (Ret (.bool (decide (n * e < m * d))) w) := by
  have p1 := mul_bounds n1 n2 (by omega : 0 ≤ e) e2
  have p2 := mul_bounds m1 m2 (by omega : 0 ≤ d) d2
  go_enter Try.func152, Try.ntmps152
  go_wp2
  go_ret
  exact ⟨ret_bool (by first | rfl | simp), by (repeat' (first | (with_reducible exact Below.refl _ _) | (with_reducible assumption) | (with_reducible refine Below.drew ?_) | (with_reducible refine belowDrewN ?_ _) | (with_reducible refine Below.alloc ?_ ?_ _) | (with_reducible refine Below.setCell ?_ ?_ _) | (with_reducible refine belowStep (by assumption) ?_ ?_) | (with_reducible exact Below.size (by assumption)) | go_size))⟩
theorem unMinus_raw (n d m e : Int) (w : World) (n1 : 0 ≤ n) (n2 : n ≤ 1000000000) (d1 : 1 ≤ d) (d2 : d ≤ 1000000000) (m1 : 0 ≤ m) (m2 : m ≤ 1000000000) (e1 : 1 ≤ e) (e2 : e ≤ 1000000000) (h : m * d ≤ n * e) :
    Calls Try.prog 143 #[.agg #[.int .i64 n, .int .i64 d], .agg #[.int .i64 m, .int .i64 e]] w (Ret (.agg #[.int .i64 ((n * e - m * d) / gcdI (n * e - m * d) (d * e)), .int .i64 ((d * e) / gcdI (n * e - m * d) (d * e))]) w) := by
  have p1 := mul_bounds n1 n2 (by omega : 0 ≤ e) e2
  have p2 := mul_bounds m1 m2 (by omega : 0 ≤ d) d2
  have p3 := mul_bounds (by omega : 0 ≤ d) d2 (by omega : 0 ≤ e) e2
  have p4 := mul_pos1 d1 e1
  go_enter Try.func143, Try.ntmps143
  go_wp2_with (go_at_call 106; refine (unMake_any _ _ _ (by omega) (by omega) (by omega) (by omega)).mono ?_; rintro e w1 ⟨rfl, hb1⟩; obtain ⟨hc1, hf1⟩ := bcellB hb1; have hz1 := hb1.size; (try simp only [World.size_alloc] at hc1 hf1 hz1); (try have hy1_r_0 : wr.heap.size < w1.heap.size := by omega); (try have hn1_r_0 : wr.heap.size ≠ w1.heap.size := by omega); (try have hm1_r_0 : w1.heap.size ≠ wr.heap.size := by omega); (try have hy1_r_1 : wr.heap.size + 1 < w1.heap.size := by omega); (try have hn1_r_1 : wr.heap.size + 1 ≠ w1.heap.size := by omega); (try have hm1_r_1 : w1.heap.size ≠ wr.heap.size + 1 := by omega); (try have hy1_r_2 : wr.heap.size + 1 + 1 < w1.heap.size := by omega); (try have hp1_r_1 : wr.heap.size < w1.heap.size + 1 := by omega); (try have hp1_r_2 : wr.heap.size < w1.heap.size + 1 + 1 := by omega); (try have hy1_0_0 : w.heap.size < w1.heap.size := by omega); (try have hn1_0_0 : w.heap.size ≠ w1.heap.size := by omega); (try have hm1_0_0 : w1.heap.size ≠ w.heap.size := by omega); (try have hy1_0_1 : w.heap.size + 1 < w1.heap.size := by omega); (try have hn1_0_1 : w.heap.size + 1 ≠ w1.heap.size := by omega); (try have hm1_0_1 : w1.heap.size ≠ w.heap.size + 1 := by omega); (try have hy1_0_2 : w.heap.size + 1 + 1 < w1.heap.size := by omega); (try have hp1_0_1 : w.heap.size < w1.heap.size + 1 := by omega); (try have hp1_0_2 : w.heap.size < w1.heap.size + 1 + 1 := by omega); (try have hg1_g1 : g1 < w1.heap.size := by omega); (try have hi1_g1 : g1 ≠ w1.heap.size := by omega); (try have hj1_g1 : w1.heap.size ≠ g1 := by omega); (try have hk1_g1 : g1 < w1.heap.size + 1 := by omega); (try have hg1_g2 : g2 < w1.heap.size := by omega); (try have hi1_g2 : g2 ≠ w1.heap.size := by omega); (try have hj1_g2 : w1.heap.size ≠ g2 := by omega); (try have hk1_g2 : g2 < w1.heap.size + 1 := by omega))
  refine bodyPost_ret (by simp [results, Try.results143, go_sem, *]; try rfl) rfl ?_
  exact ⟨rfl, by (repeat' (first | (with_reducible exact Below.refl _ _) | (with_reducible assumption) | (with_reducible refine Below.drew ?_) | (with_reducible refine belowDrewN ?_ _) | (with_reducible refine Below.alloc ?_ ?_ _) | (with_reducible refine Below.setCell ?_ ?_ _) | (with_reducible refine belowStep (by assumption) ?_ ?_) | (with_reducible exact Below.size (by assumption)) | go_size))⟩
end Go.Proofs.Ytleookfdngnphaa


/-
  A law on a region that draws its order: an invariant that says, for each operation that has come up, what it has left; one step for each operation, whatever the order.
-/
namespace Go.Proofs.Ytleookfdngnphaa
open Go.RowKit
theorem count_set : ∀ {l : List Bool} {i : Nat}, l[i]? = some false → (l.set i true).countP (fun b => !b) + 1 = l.countP (fun b => !b)
  | [], i, h => by simp at h
  | x :: l, 0, h => by
    simp at h
    subst h
    simp
  | x :: l, i + 1, h => by
    have ih := count_set (l := l) (i := i) (by simpa using h)
    rw [List.set_cons_succ, List.countP_cons, List.countP_cons]
    omega
theorem count_zero {l : List Bool} (h : l.countP (fun b => !b) = 0) (i : Nat) (b : Bool) (hi : l[i]? = some b) : b = true := by
  have := List.countP_eq_zero.1 h b (List.mem_of_getElem? hi)
  simpa using this
section
variable {P : Program} {ops : Array Oper} {Q : Exit → Act → World → Prop} {md : Region.Mode}
theorem wpAny_inv (Inv : Array Bool → Act → World → Prop)
    (hstep : ∀ listed a w i, listed.size = ops.size → Inv listed a w → i ∈ Region.ready md ops listed → wpOp P ops Q i (fun a' w' => Inv (listed.setIfInBounds i true) a' w') a w)
    (hend : ∀ listed a w, listed.size = ops.size → Inv listed a w → Region.ready md ops listed = [] → Q .normal a w) :
    ∀ (fuel : Nat) (listed : Array Bool) (a : Act) (w : World), listed.size = ops.size → listed.toList.countP (fun b => !b) ≤ fuel → Inv listed a w → wpAny P md ops Q fuel listed a w
  | 0, listed, a, w, hs, hc, hi => by
    have hr : Region.ready md ops listed = [] := by
      cases hl : Region.ready md ops listed with
      | nil => rfl
      | cons i is =>
        exfalso
        have hm : i ∈ Region.ready md ops listed := by rw [hl]; simp
        obtain ⟨hun, _⟩ := mem_ready.1 hm
        rcases Nat.lt_or_ge i listed.size with h | h
        · have h2 := count_zero (Nat.le_zero.1 hc) i listed[i] (by simp [h])
          simp [h, h2] at hun
        · simp [Array.getElem?_eq_none h] at hun
    exact ⟨hr, hend _ _ _ hs hi hr⟩
  | fuel + 1, listed, a, w, hs, hc, hi => by
    refine ⟨fun hr => hend _ _ _ hs hi hr, fun i hm => ?_⟩
    obtain ⟨hun, _⟩ := mem_ready.1 hm
    have hlt : i < listed.size := by
      rcases Nat.lt_or_ge i listed.size with h | h
      · exact h
      · simp [Array.getElem?_eq_none h] at hun
    refine wpOp_mono (fun a' w' h => wpAny_inv Inv hstep hend fuel _ a' w' (by simpa using hs) ?_ h) (hstep listed a w i hs hi hm)
    have hf : listed.toList[i]? = some false := by
      simp [hlt] at hun
      simp [hlt, hun]
    have := count_set hf
    rw [Array.toList_setIfInBounds]
    omega
/-- the law for the region: the invariant holds at its start; each operation that may come up keeps it; where none is left it gives what is asked -/
theorem region_inv {id : Nat} {a : Act} {w : World} (hm : P.follows .mixedOrders = true) (Inv : Array Bool → Act → World → Prop)
    (h0 : Inv (Array.replicate ops.size false) a w.drew)
    (hstep : ∀ listed a w i, listed.size = ops.size → Inv listed a w → i ∈ Region.ready .any ops listed → wpOp P ops Q i (fun a' w' => Inv (listed.setIfInBounds i true) a' w') a w)
    (hend : ∀ listed a w, listed.size = ops.size → Inv listed a w → Region.ready .any ops listed = [] → Q .normal a w) :
    (Code.region id ops true).wp P Q a w :=
  wp_region_any hm (wpAny_inv Inv hstep hend ops.size _ a _ (by simp) (by
    refine Nat.le_trans (List.countP_le_length) ?_
    simp) h0)
/-- nothing is ready: all have come up, where each waits only for what stands ahead of it -/
theorem ready_all {listed : Array Bool} (hs : listed.size = ops.size) (hb : (List.range ops.size).all (fun i => ((ops[i]?).map (·.after.all fun e => !Region.binds md e || decide (e.on < i))).getD false) = true)
    (hr : Region.ready md ops listed = []) : ∀ i, i < ops.size → listed.getD i true = true := by
  intro i
  induction i using Nat.strongRecOn with
  | _ i ih =>
    intro hi
    cases hl : listed.getD i true with
    | true => rfl
    | false =>
      exfalso
      have h1 := List.all_eq_true.1 hb i (List.mem_range.2 hi)
      have hm : i ∈ Region.ready md ops listed := by
        rw [mem_ready]
        refine ⟨hl, ops[i], by simp [hi], fun e he hbd => ?_⟩
        have h2 : (ops[i]?).isSome = true := by simp [hi]
        simp only [Array.getElem?_eq_getElem hi, Option.map_some, Option.getD_some] at h1
        have h3 := Array.all_eq_true'.1 h1 e he
        simp only [hbd, Bool.not_true, Bool.false_or, decide_eq_true_eq] at h3
        have h4 := ih e.on h3 (by omega)
        have h5 : e.on < listed.size := by omega
        simp [h5] at h4 ⊢
        exact h4
      rw [hr] at hm
      cases hm
end
end Go.Proofs.Ytleookfdngnphaa
