import Derived.Test.YtbjblkfibinenadGreatDoorPk11
import Derived.Test.YtbjblkfibinenadGreatDoorPk3
import Derived.Test.YtbjblkfibinenadGreatDoorPk8
import Derived.Test.YtbjblkfibinenadGreatDoorPk2
import Derived.IntWalk
import Derived.Deep.RegionLaw

/-
  The contract of the function that makes a list by steps and looks whether the list is taken.
-/
namespace Go.Proofs.YtbjblkfibinenadGreatDoor
open Go.RowKit
theorem grownDrew {a w : World} {row : Option Nat} (h : a.grownBy w row) : a.grownBy w.drew row := ⟨h.os, h.tape, h.output, h.size, h.block⟩
/-- the list that the steps take, if it is taken -/
def lstO (st : Stp) (ok : List Int → Bool) (m : Nat) (l n d : Int) : Option (List Int) := (walkR st m l n d).bind fun es => if ok (takenOf es) = true then some (takenOf es) else none
theorem lstO_none {st : Stp} {ok : List Int → Bool} {m : Nat} {l n d : Int} (h : walkR st m l n d = none) : lstO st ok m l n d = none := by simp [lstO, h]
theorem lstO_yes {st : Stp} {ok : List Int → Bool} {m : Nat} {l n d : Int} {es : List (Int × Int × Int)} (h : walkR st m l n d = some es) (hk : ok (takenOf es) = true) : lstO st ok m l n d = some (takenOf es) := by simp [lstO, h, hk]
theorem lstO_no {st : Stp} {ok : List Int → Bool} {m : Nat} {l n d : Int} {es : List (Int × Int × Int)} (h : walkR st m l n d = some es) (hk : ok (takenOf es) = false) : lstO st ok m l n d = none := by simp [lstO, h, hk]
/-- of the program: a new list of the call's own, if there is one -/
def RetLO (o : Option (List Int)) (row : Option Nat) (w : World) (e : Ending) (w' : World) : Prop := ∃ v, e = .returned (.tuple #[v, .bool o.isSome]) ∧ OwnI w' w.heap.size v (o.getD []) ∧ w.grownBy w' row
/-- what the steps take is small -/
def Small (st : Stp) : Prop := ∀ l n d t n' d', goodB n d = true → 1 ≤ n → 0 ≤ l → st l n d = some (t, n', d') → 0 ≤ t ∧ t ≤ 1000000000 ∧ goodB n' d' = true
theorem walkR_small {st : Stp} (hst : Small st) : ∀ {k : Nat} {l n d : Int} {es : List (Int × Int × Int)}, goodB n d = true → 0 ≤ l → walkR st k l n d = some es → ∀ x ∈ takenOf es, 0 ≤ x ∧ x ≤ 1000000000
  | 0, l, n, d, es, hg, _, h => by
    by_cases h0 : n ≤ 0
    · rw [walkR_end h0] at h
      injection h with h
      subst h
      intro x hx
      cases hx
    · rw [walkR_out (by omega)] at h; cases h
  | k + 1, l, n, d, es, hg, hl, h => by
    by_cases h0 : n ≤ 0
    · rw [walkR_end h0] at h
      injection h with h
      subst h
      intro x hx
      cases hx
    · have hn : 0 < n := by omega
      cases hs : st l n d with
      | none => rw [walkR_none hn hs] at h; cases h
      | some p =>
        obtain ⟨t, n', d'⟩ := p
        rw [walkR_some hn hs] at h
        obtain ⟨a, b, c⟩ := hst l n d t n' d' hg (by omega) hl hs
        cases hr : walkR st k (t + 1) n' d' with
        | none => rw [hr] at h; cases h
        | some es' =>
          rw [hr] at h
          injection h with h
          subst h
          intro x hx
          rcases List.mem_cons.1 (show x ∈ t :: takenOf es' from hx) with rfl | hx
          · exact ⟨a, b⟩
          · exact walkR_small hst c (by omega) hr x hx
set_option maxRecDepth 100000 in
set_option maxHeartbeats 4000000 in
theorem listBy_any (k r : Nat) (cs : Array Value) (st : Stp) (ok : List Int → Bool) (I : Int → World → Prop) (row : Option Nat) (l0 n0 d0 : Int) (w : World)
    (hrow : ∀ g, row = some g → g < w.heap.size) (hI : ∀ l w1 w2, I l w1 → Below w.heap.size w1 w2 → I l w2)
    (hent : ∀ args w1, Sem.run Tryz.prog (callFunc k args) w1 = .ok (.enter k args) w1)
    (hent2 : ∀ args w1, Sem.run Tryz.prog (callFunc r args) w1 = .ok (.enter r args) w1)
    (hcall : ∀ l n d w1, goodB n d = true → 1 ≤ n → 0 ≤ l → l ≤ 1000000001 → I l w1 → Calls Tryz.prog k (#[.agg #[.int .i64 n, .int .i64 d]] ++ cs) w1 (StepR st I row l n d w1))
    (hsm : Small st)
    (hread : ∀ (w : World) (A : Option Addr) (c : Nat) (xs : List Int), Reads w A xs → xs.length ≤ 24 → In64 xs → Calls Tryz.prog r #[.slice A xs.length c] w (fun e w' => ∃ p q : Int, e = .returned (.tuple #[.agg #[.int .i64 p, .int .i64 q], .bool (ok xs)]) ∧ Below w.heap.size w w'))
    (hg : goodB n0 d0 = true) (hl0 : 0 ≤ l0) (hl1 : l0 ≤ 1000000001) (h0 : I l0 w) :
    Calls Tryz.prog 28 #[.agg #[.int .i64 n0, .int .i64 d0], .func (.func k) #[] cs, .func (.func r) #[] #[]] w (RetLO (lstO st ok 24 l0 n0 d0) row w) := by
  have HE := Lib.hid hent2
  have HSM := Lib.hid (fun (es : List (Int × Int × Int)) (h : walkR st 24 l0 n0 d0 = some es) => walkR_small hsm hg hl0 h)
  have HRD := Lib.hid hread
  have HR := Lib.hid hrow
  have hb0 : Below w.heap.size w (w.alloc (.cells #[.int .i64 n0, .int .i64 d0] 27)) := by (repeat' (first | (with_reducible exact Below.refl _ _) | (with_reducible assumption) | (with_reducible refine Below.drew ?_) | (with_reducible refine belowDrewN ?_ _) | (with_reducible refine Below.alloc ?_ ?_ _) | (with_reducible refine Below.setCell ?_ ?_ _) | (with_reducible refine belowStep (by assumption) ?_ ?_) | (with_reducible exact Below.size (by assumption)) | go_size))
  have HW := Lib.hid (walk_any k cs st I row l0 n0 d0 (w.alloc (.cells #[.int .i64 n0, .int .i64 d0] 27)) (fun g h => by have := hrow g h; simp; omega) (fun l w1 w2 h hb => hI l w1 w2 h (hb.mono (by simp))) hent hcall hg hl0 hl1 (hI l0 _ _ h0 hb0))
  have Hb0 := Lib.hid hb0
  clear hI hcall hrow hent hent2 hg h0 hsm hread hb0
  go_enter Tryz.func28, Tryz.ntmps28
  go_wp2_with fail
  refine HW.out.mono ?_
  rintro e w1 ⟨hg1, h1⟩
  have hz1 := hg1.size
  rw [World.size_alloc] at hz1
  have Hg1 := Lib.hid (show w.grownBy w1 row from (grownAlloc (World.grownBy.refl w row) (Nat.le_refl _) _).trans hg1)
  clear hg1
  rcases h1 with ⟨es, v1, v2, hw, hl, rfl, ho1, ho2⟩ | ⟨hw, rfl⟩
  · have Hw := Lib.hid hw
    have Ho1 := Lib.hid (ho1.mono (show w.heap.size ≤ (w.alloc (.cells #[.int .i64 n0, .int .i64 d0] 27)).heap.size by simp))
    obtain ⟨A1, c1, e1, hr1⟩ := ho1.form
    have Hr1 := Lib.hid hr1
    have hlen : (takenOf es).length ≤ 24 := by rw [takenOf_len]; exact hl
    have H64 := Lib.hid (In64.of_mem fun x hx => by have := HSM.out es hw x hx; omega)
    have HC := Lib.hid (fun (w : World) (h : Reads w A1 (takenOf es)) => HRD.out w A1 c1 _ h hlen H64.out)
    have E1 := Lib.hid e1
    clear hw ho1 ho2 hr1 e1
    cases hk : ok (takenOf es) with
    | true =>
      have E := Lib.hid (lstO_yes Hw.out hk)
      go_wp2_with fail
      rw [HE.out, Oper.upon_enter, E1.out]
      refine (HC.out _ Hr1.out).mono ?_
      rintro e w2 ⟨p, q, rfl, hb2⟩
      have hz2 := hb2.size
      rw [hk]
      go_wp2
      go_ret2
      rw [E.out]
      rw [E1.out] at Ho1
      exact ⟨_, rfl, Ho1.out.below (by (repeat' (first | (with_reducible exact Below.refl _ _) | (with_reducible assumption) | (with_reducible refine Below.drew ?_) | (with_reducible refine belowDrewN ?_ _) | (with_reducible refine Below.alloc ?_ ?_ _) | (with_reducible refine Below.setCell ?_ ?_ _) | (with_reducible refine belowStep (by assumption) ?_ ?_) | (with_reducible exact Below.size (by assumption)) | go_size))), grownBelow Hg1.out (by omega) (by (repeat' (first | (with_reducible exact Below.refl _ _) | (with_reducible assumption) | (with_reducible refine Below.drew ?_) | (with_reducible refine belowDrewN ?_ _) | (with_reducible refine Below.alloc ?_ ?_ _) | (with_reducible refine Below.setCell ?_ ?_ _) | (with_reducible refine belowStep (by assumption) ?_ ?_) | (with_reducible exact Below.size (by assumption)) | go_size)))⟩
    | false =>
      have E := Lib.hid (lstO_no Hw.out hk)
      go_wp2_with fail
      rw [HE.out, Oper.upon_enter, E1.out]
      refine (HC.out _ Hr1.out).mono ?_
      rintro e w2 ⟨p, q, rfl, hb2⟩
      have hz2 := hb2.size
      rw [hk]
      go_wp2
      go_ret2
      rw [E.out]
      exact ⟨_, rfl, OwnI.empty _ _, grownBelow Hg1.out (by omega) (by (repeat' (first | (with_reducible exact Below.refl _ _) | (with_reducible assumption) | (with_reducible refine Below.drew ?_) | (with_reducible refine belowDrewN ?_ _) | (with_reducible refine Below.alloc ?_ ?_ _) | (with_reducible refine Below.setCell ?_ ?_ _) | (with_reducible refine belowStep (by assumption) ?_ ?_) | (with_reducible exact Below.size (by assumption)) | go_size)))⟩
  · have E := Lib.hid (lstO_none (ok := ok) hw)
    go_wp2
    go_ret2
    rw [E.out]
    exact ⟨_, rfl, OwnI.empty _ _, Hg1.out⟩
end Go.Proofs.YtbjblkfibinenadGreatDoor


/-
  The contract of the model's exchange of one term for two numbers.
-/
namespace Go.Proofs.YtbjblkfibinenadGreatDoor
open Go.RowKit
/-- what stands in the list without the number at place i -/
def restL (xs : List Int) (i : Nat) : List Int := xs.take i ++ xs.drop (i + 1)
def replB (xs : List Int) (i : Nat) (a b : Int) : Bool := !hasB (restL xs i) a && !hasB (restL xs i) b && expB (putL (putL (restL xs i) a) b)
def replL (xs : List Int) (i : Nat) (a b : Int) : List Int := if replB xs i a b = true then putL (putL (restL xs i) a) b else []
theorem repl_no {xs : List Int} {i : Nat} {a b : Int} (h : replB xs i a b = false) : replL xs i a b = [] := by rw [replL, h]; rfl
theorem repl_a {xs : List Int} {i : Nat} {a b : Int} (h : hasB (restL xs i) a = true) : replB xs i a b = false := by simp [replB, h]
theorem repl_b {xs : List Int} {i : Nat} {a b : Int} (h : hasB (restL xs i) b = true) : replB xs i a b = false := by simp [replB, h]
theorem repl_c {xs : List Int} {i : Nat} {a b : Int} (h : hasB (restL xs i) a = false) (h2 : hasB (restL xs i) b = false) : replB xs i a b = expB (putL (putL (restL xs i) a) b) := by simp [replB, h, h2]
theorem put_len (xs : List Int) (v : Int) : (putL xs v).length ≤ xs.length + 1 := by
  unfold putL
  split
  · omega
  · rw [ins_len _ _ _ (pos_le xs v)]; omega
theorem rest_len (xs : List Int) (i : Nat) : (restL xs i).length ≤ xs.length := by simp [restL]; omega
theorem ret_rnil' {w w' : World} (h : Below w.heap.size w w') : RetRB [] false w (.returned (.tuple #[.slice none 0 0, .bool false])) w' := ⟨none, 0, rfl, Reads.nil, h⟩
end Go.Proofs.YtbjblkfibinenadGreatDoor
