
/-
  The contract of the model's exchange of one term for two numbers.
-/
import Derived.Test.YtbjblkfibinenaaOwn
import Derived.Test.YtbjblkfibinenaaIfExp
import Derived.Test.YtbjblkfibinenaaHas
import Derived.IntWalk
import Derived.Deep.RegionLaw
namespace Go.Proofs.Ytbjblkfibinenaa
open Go.RowKit
/-- what stands in the list without the number at place i -/
def restL (xs : List Int) (i : Nat) : List Int := xs.take i ++ xs.drop (i + 1)
def replB (xs : List Int) (i : Nat) (a b : Int) : Bool := !hasB (restL xs i) a && !hasB (restL xs i) b && expB (putL (putL (restL xs i) a) b)
def replL (xs : List Int) (i : Nat) (a b : Int) : List Int := if replB xs i a b = true then putL (putL (restL xs i) a) b else []
theorem repl_no {xs : List Int} {i : Nat} {a b : Int} (h : replB xs i a b = false) : replL xs i a b = [] := by rw [replL, h]; rfl
theorem repl_a {xs : List Int} {i : Nat} {a b : Int} (h : hasB (restL xs i) a = true) : replB xs i a b = false := by simp [replB, h]
theorem repl_b {xs : List Int} {i : Nat} {a b : Int} (h : hasB (restL xs i) b = true) : replB xs i a b = false := by simp [replB, h]
theorem repl_c {xs : List Int} {i : Nat} {a b : Int} (h : hasB (restL xs i) a = false) (h2 : hasB (restL xs i) b = false) : replB xs i a b = expB (putL (putL (restL xs i) a) b) := by simp [replB, h, h2]
theorem put_len (xs : List Int) (v : Int) : (putL xs v).length ≤ xs.length + 1 := by
  unfold putL
  split
  · omega
  · rw [ins_len _ _ _ (pos_le xs v)]; omega
theorem rest_len (xs : List Int) (i : Nat) : (restL xs i).length ≤ xs.length := by simp [restL]; omega
theorem ret_rnil' {w w' : World} (h : Below w.heap.size w w') : RetRB [] false w (.returned (.tuple #[.slice none 0 0, .bool false])) w' := ⟨none, 0, rfl, Reads.nil, h⟩
set_option maxHeartbeats 4000000 in
theorem unReplace_any (w : World) (i : Nat) (a b : Int) (Axs : Option Addr) (cxs : Nat) (xs : List Int) (hxs : Reads w Axs xs) (lxs : xs.length ≤ 1048576) (hcap : xs.length ≤ cxs) (hi : i < xs.length) (h24 : xs.length ≤ 24) :
    Calls Try.prog 61 #[.slice Axs xs.length cxs, .int .i64 i, .int .i64 a, .int .i64 b] w (RetRB (replL xs i a b) (replB xs i a b) w) := by
  obtain ⟨rs, hrs⟩ : ∃ rs, rs = restL xs i := ⟨_, rfl⟩
  have Hrs := Lib.hid hrs
  have hr24 : rs.length ≤ 24 := by have := rest_len xs i; rw [hrs]; omega
  have hrl : rs.length ≤ 1048576 := by omega
  clear hrs
  have Hxs := Lib.hid hxs
  clear hxs
  obtain ⟨b0, o0, x0, rfl, hb0, hx0, hcell0⟩ := Hxs.out.at_ hi
  clear hcell0 hx0
  have s1 : IntKind.i64.wrap ((i : Int) + 1) = (i : Int) + 1 := IntWalk.i64_in _ (by omega)
  have s2 : (0 : Int) ≤ (i : Int) + 1 := by omega
  have s3 : ((i : Int) + 1).toNat = i + 1 := by omega
  have q1 : (i : Int) ≤ (cxs : Int) := by omega
  have q2 : (i : Int) + 1 ≤ (xs.length : Int) := by omega
  have q3 : (xs.length : Int) ≤ (cxs : Int) := by omega
  have q4 : (i : Int) ≤ (i : Int) + 1 := by omega
  by_cases hcp : cxs = i + 1
  · have hxl : xs.drop (i + 1) = [] := List.drop_of_length_le (by omega)
    have Hxl := Lib.hid hxl
    clear hxl
    subst hcp
    go_enter Try.func61, Try.ntmps61
    go_wp2
    go_region_law (first
      | (go_simp; go_at_call 69; refine (l1Own_n _ _ _ _ (xs.take i) (by rw [List.length_take]; omega) ((Hxs.out.below (by (repeat' (first | (with_reducible exact Below.refl _ _) | (with_reducible assumption) | (with_reducible refine Below.drew ?_) | (with_reducible refine belowDrewN ?_ _) | (with_reducible refine Below.alloc ?_ ?_ _) | (with_reducible refine Below.setCell ?_ ?_ _) | (with_reducible refine belowStep (by assumption) ?_ ?_) | (with_reducible exact Below.size (by assumption)) | go_size)))).cutTo i) (by omega)).mono ?_; rintro e w1 ⟨v1, rfl, ho1, hb1⟩; have hz1 := hb1.size; (try simp only [World.size_drew] at hz1); go_wp2_with fail)
      | (refine step_app _ (o := ⟨some 19, _, _, _, _, _⟩) (ys := []) rfl _ _ rfl rfl (ho1) (0) (0) (by first | (simp; done) | (simp; omega)) rfl (Reads.nil) (by (try simp only [List.length_take, List.length_nil]); omega) (by first | exact Nat.le_refl _ | ((try simp only [World.size_drew]); omega)) ?_; intro v3 w3 ho3 hb3 hg3 ht3; clear hg3 ht3; have hz3 := hb3.size; (try simp only [World.size_alloc, World.size_setCell, World.size_drew, World.heap_drewN] at hz3)))
    all_goals
      have hr0 : OwnI w3 w.heap.size v3 rs := by rw [Hrs.out, restL, Hxl.out]; exact ho3
      obtain ⟨A3, c3, rfl, hr3⟩ := hr0.form
      have hc3 := hr0.cap_
      have Hr3 := Lib.hid hr3
      have hb3' : Below w.heap.size w w3 := by (repeat' (first | (with_reducible exact Below.refl _ _) | (with_reducible assumption) | (with_reducible refine Below.drew ?_) | (with_reducible refine belowDrewN ?_ _) | (with_reducible refine Below.alloc ?_ ?_ _) | (with_reducible refine Below.setCell ?_ ?_ _) | (with_reducible refine belowStep (by assumption) ?_ ?_) | (with_reducible exact Below.size (by assumption)) | go_size))
      clear hr0 hr3 ho1 ho3 hb1 hb3
      cases ha : hasB rs a with
      | true =>
        have E : Hid (replB xs i a b = false) := repl_a (by rw [← Hrs.out]; exact ha)
        go_wp2_with fail
        refine (l1Has_any _ _ _ _ _ Hr3.out hrl).mono ?_; rintro e w4 ⟨rfl, k4, rfl⟩
        go_wp2
        go_ret2
        rw [repl_no E.out, E.out]
        exact ret_rnil' (by (repeat' (first | (with_reducible exact Below.refl _ _) | (with_reducible assumption) | (with_reducible refine Below.drew ?_) | (with_reducible refine belowDrewN ?_ _) | (with_reducible refine Below.alloc ?_ ?_ _) | (with_reducible refine Below.setCell ?_ ?_ _) | (with_reducible refine belowStep (by assumption) ?_ ?_) | (with_reducible exact Below.size (by assumption)) | go_size)))
      | false =>
        cases hb' : hasB rs b with
        | true =>
          have E : Hid (replB xs i a b = false) := repl_b (by rw [← Hrs.out]; exact hb')
          go_wp2_with fail
          refine (l1Has_any _ _ _ _ _ Hr3.out hrl).mono ?_; rintro e w4 ⟨rfl, k4, rfl⟩
          go_wp2_with fail
          refine (l1Has_any _ _ _ _ _ (Hr3.out.drewN k4) hrl).mono ?_; rintro e w5 ⟨rfl, k5, rfl⟩
          go_wp2
          go_ret2
          rw [repl_no E.out, E.out]
          exact ret_rnil' (by (repeat' (first | (with_reducible exact Below.refl _ _) | (with_reducible assumption) | (with_reducible refine Below.drew ?_) | (with_reducible refine belowDrewN ?_ _) | (with_reducible refine Below.alloc ?_ ?_ _) | (with_reducible refine Below.setCell ?_ ?_ _) | (with_reducible refine belowStep (by assumption) ?_ ?_) | (with_reducible exact Below.size (by assumption)) | go_size)))
        | false =>
          have E : Hid (replB xs i a b = expB (putL (putL rs a) b)) := by rw [Hrs.out]; exact repl_c (by rw [← Hrs.out]; exact ha) (by rw [← Hrs.out]; exact hb')
          have hl6 := put_len rs a
          have hl7 := put_len (putL rs a) b
          go_wp2_with fail
          refine (l1Has_any _ _ _ _ _ Hr3.out hrl).mono ?_; rintro e w4 ⟨rfl, k4, rfl⟩
          go_wp2_with fail
          refine (l1Has_any _ _ _ _ _ (Hr3.out.drewN k4) hrl).mono ?_; rintro e w5 ⟨rfl, k5, rfl⟩
          go_wp2_with fail
          refine (l1Put_any _ _ _ _ _ (Hr3.out.drewN _) hrl hc3).mono ?_; rintro e w6 ⟨A6, c6, rfl, hc6, hr6, hb6⟩; have hz6 := hb6.size; have hz3' := hb3'.size; (try simp only [World.heap_drewN] at hz6)
          go_wp2_with fail
          refine (l1Put_any _ _ _ _ _ hr6 (by omega) hc6).mono ?_; rintro e w7 ⟨A7, c7, rfl, hc7, hr7, hb7⟩; have hz7 := hb7.size
          have Hr7 := Lib.hid hr7
          clear hr6 hr7
          have EL : Hid (replB xs i a b = true → replL xs i a b = putL (putL rs a) b) := fun h => by rw [Hrs.out, replL, if_pos h]
          generalize putL (putL rs a) b = zs at *
          cases he : expB zs with
          | true =>
            go_wp2_with fail
            refine (unList_yes _ _ _ _ Hr7.out (by omega) he).mono ?_; rintro e w8 ⟨rfl, hb8⟩
            go_wp2
            go_ret2
            rw [EL.out (by rw [E.out, he]), E.out, he]
            exact ⟨_, _, rfl, Hr7.out.below hb8, by (repeat' (first | (with_reducible exact Below.refl _ _) | (with_reducible assumption) | (with_reducible refine Below.drew ?_) | (with_reducible refine belowDrewN ?_ _) | (with_reducible refine Below.alloc ?_ ?_ _) | (with_reducible refine Below.setCell ?_ ?_ _) | (with_reducible refine belowStep (by assumption) ?_ ?_) | (with_reducible exact Below.size (by assumption)) | go_size))⟩
          | false =>
            go_wp2_with fail
            refine (unList_no _ _ _ _ Hr7.out (by omega) he).mono ?_; rintro e w8 ⟨rfl, hb8⟩
            go_wp2
            go_ret2
            rw [repl_no (by rw [E.out, he]), E.out, he]
            exact ret_rnil' (by (repeat' (first | (with_reducible exact Below.refl _ _) | (with_reducible assumption) | (with_reducible refine Below.drew ?_) | (with_reducible refine belowDrewN ?_ _) | (with_reducible refine Below.alloc ?_ ?_ _) | (with_reducible refine Below.setCell ?_ ?_ _) | (with_reducible refine belowStep (by assumption) ?_ ?_) | (with_reducible exact Below.size (by assumption)) | go_size)))
  · go_enter Try.func61, Try.ntmps61
    go_wp2
    go_region_law (first
      | (go_simp; go_at_call 69; refine (l1Own_n _ _ _ _ (xs.take i) (by rw [List.length_take]; omega) ((Hxs.out.below (by (repeat' (first | (with_reducible exact Below.refl _ _) | (with_reducible assumption) | (with_reducible refine Below.drew ?_) | (with_reducible refine belowDrewN ?_ _) | (with_reducible refine Below.alloc ?_ ?_ _) | (with_reducible refine Below.setCell ?_ ?_ _) | (with_reducible refine belowStep (by assumption) ?_ ?_) | (with_reducible exact Below.size (by assumption)) | go_size)))).cutTo i) (by omega)).mono ?_; rintro e w1 ⟨v1, rfl, ho1, hb1⟩; have hz1 := hb1.size; (try simp only [World.size_drew] at hz1); go_wp2_with fail)
      | (refine step_app _ (o := ⟨some 19, _, _, _, _, _⟩) (ys := xs.drop (i + 1)) rfl _ _ rfl rfl (ho1) ((xs.length - (i + 1))) ((cxs - (i + 1))) (by first | (simp; done) | (simp; omega)) rfl (Reads.cutS (Hxs.out.below (by (repeat' (first | (with_reducible exact Below.refl _ _) | (with_reducible assumption) | (with_reducible refine Below.drew ?_) | (with_reducible refine belowDrewN ?_ _) | (with_reducible refine Below.alloc ?_ ?_ _) | (with_reducible refine Below.setCell ?_ ?_ _) | (with_reducible refine belowStep (by assumption) ?_ ?_) | (with_reducible exact Below.size (by assumption)) | go_size))))) (by (try simp only [List.length_take, List.length_drop]); omega) (by first | exact Nat.le_refl _ | ((try simp only [World.size_drew]); omega)) ?_; intro v3 w3 ho3 hb3 hg3 ht3; clear hg3 ht3; have hz3 := hb3.size; (try simp only [World.size_alloc, World.size_setCell, World.size_drew, World.heap_drewN] at hz3)))
    all_goals
      have hr0 : OwnI w3 w.heap.size v3 rs := by rw [Hrs.out, restL]; exact ho3
      obtain ⟨A3, c3, rfl, hr3⟩ := hr0.form
      have hc3 := hr0.cap_
      have Hr3 := Lib.hid hr3
      have hb3' : Below w.heap.size w w3 := by (repeat' (first | (with_reducible exact Below.refl _ _) | (with_reducible assumption) | (with_reducible refine Below.drew ?_) | (with_reducible refine belowDrewN ?_ _) | (with_reducible refine Below.alloc ?_ ?_ _) | (with_reducible refine Below.setCell ?_ ?_ _) | (with_reducible refine belowStep (by assumption) ?_ ?_) | (with_reducible exact Below.size (by assumption)) | go_size))
      clear hr0 hr3 ho1 ho3 hb1 hb3
      cases ha : hasB rs a with
      | true =>
        have E : Hid (replB xs i a b = false) := repl_a (by rw [← Hrs.out]; exact ha)
        go_wp2_with fail
        refine (l1Has_any _ _ _ _ _ Hr3.out hrl).mono ?_; rintro e w4 ⟨rfl, k4, rfl⟩
        go_wp2
        go_ret2
        rw [repl_no E.out, E.out]
        exact ret_rnil' (by (repeat' (first | (with_reducible exact Below.refl _ _) | (with_reducible assumption) | (with_reducible refine Below.drew ?_) | (with_reducible refine belowDrewN ?_ _) | (with_reducible refine Below.alloc ?_ ?_ _) | (with_reducible refine Below.setCell ?_ ?_ _) | (with_reducible refine belowStep (by assumption) ?_ ?_) | (with_reducible exact Below.size (by assumption)) | go_size)))
      | false =>
        cases hb' : hasB rs b with
        | true =>
          have E : Hid (replB xs i a b = false) := repl_b (by rw [← Hrs.out]; exact hb')
          go_wp2_with fail
          refine (l1Has_any _ _ _ _ _ Hr3.out hrl).mono ?_; rintro e w4 ⟨rfl, k4, rfl⟩
          go_wp2_with fail
          refine (l1Has_any _ _ _ _ _ (Hr3.out.drewN k4) hrl).mono ?_; rintro e w5 ⟨rfl, k5, rfl⟩
          go_wp2
          go_ret2
          rw [repl_no E.out, E.out]
          exact ret_rnil' (by (repeat' (first | (with_reducible exact Below.refl _ _) | (with_reducible assumption) | (with_reducible refine Below.drew ?_) | (with_reducible refine belowDrewN ?_ _) | (with_reducible refine Below.alloc ?_ ?_ _) | (with_reducible refine Below.setCell ?_ ?_ _) | (with_reducible refine belowStep (by assumption) ?_ ?_) | (with_reducible exact Below.size (by assumption)) | go_size)))
        | false =>
          have E : Hid (replB xs i a b = expB (putL (putL rs a) b)) := by rw [Hrs.out]; exact repl_c (by rw [← Hrs.out]; exact ha) (by rw [← Hrs.out]; exact hb')
          have hl6 := put_len rs a
          have hl7 := put_len (putL rs a) b
          go_wp2_with fail
          refine (l1Has_any _ _ _ _ _ Hr3.out hrl).mono ?_; rintro e w4 ⟨rfl, k4, rfl⟩
          go_wp2_with fail
          refine (l1Has_any _ _ _ _ _ (Hr3.out.drewN k4) hrl).mono ?_; rintro e w5 ⟨rfl, k5, rfl⟩
          go_wp2_with fail
          refine (l1Put_any _ _ _ _ _ (Hr3.out.drewN _) hrl hc3).mono ?_; rintro e w6 ⟨A6, c6, rfl, hc6, hr6, hb6⟩; have hz6 := hb6.size; have hz3' := hb3'.size; (try simp only [World.heap_drewN] at hz6)
          go_wp2_with fail
          refine (l1Put_any _ _ _ _ _ hr6 (by omega) hc6).mono ?_; rintro e w7 ⟨A7, c7, rfl, hc7, hr7, hb7⟩; have hz7 := hb7.size
          have Hr7 := Lib.hid hr7
          clear hr6 hr7
          have EL : Hid (replB xs i a b = true → replL xs i a b = putL (putL rs a) b) := fun h => by rw [Hrs.out, replL, if_pos h]
          generalize putL (putL rs a) b = zs at *
          cases he : expB zs with
          | true =>
            go_wp2_with fail
            refine (unList_yes _ _ _ _ Hr7.out (by omega) he).mono ?_; rintro e w8 ⟨rfl, hb8⟩
            go_wp2
            go_ret2
            rw [EL.out (by rw [E.out, he]), E.out, he]
            exact ⟨_, _, rfl, Hr7.out.below hb8, by (repeat' (first | (with_reducible exact Below.refl _ _) | (with_reducible assumption) | (with_reducible refine Below.drew ?_) | (with_reducible refine belowDrewN ?_ _) | (with_reducible refine Below.alloc ?_ ?_ _) | (with_reducible refine Below.setCell ?_ ?_ _) | (with_reducible refine belowStep (by assumption) ?_ ?_) | (with_reducible exact Below.size (by assumption)) | go_size))⟩
          | false =>
            go_wp2_with fail
            refine (unList_no _ _ _ _ Hr7.out (by omega) he).mono ?_; rintro e w8 ⟨rfl, hb8⟩
            go_wp2
            go_ret2
            rw [repl_no (by rw [E.out, he]), E.out, he]
            exact ret_rnil' (by (repeat' (first | (with_reducible exact Below.refl _ _) | (with_reducible assumption) | (with_reducible refine Below.drew ?_) | (with_reducible refine belowDrewN ?_ _) | (with_reducible refine Below.alloc ?_ ?_ _) | (with_reducible refine Below.setCell ?_ ?_ _) | (with_reducible refine belowStep (by assumption) ?_ ?_) | (with_reducible exact Below.size (by assumption)) | go_size)))
end Go.Proofs.Ytbjblkfibinenaa
