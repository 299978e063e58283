import Derived.Test.YtbjblkfibinenadGreatDoorPk30
import Derived.Test.YtbjblkfibinenadGreatDoorRpt
import Derived.Test.YtbjblkfibinenadGreatDoorPk29

/-
  The contracts of the model's expansions by rounds that replace numbers which stand twice.
-/
namespace Go.Proofs.YtbjblkfibinenadGreatDoor
open Go.RowKit
/-- the list after the rounds, if they come to an end -/
def twO (g : Int → Nat × List Int) (n d : Int) : Option (List Int) := if n ≤ 24 then rounds g 300 (repL n d) else none
def twE (g : Int → Nat × List Int) (n d : Int) : Option (List Int) := pexO n d (twO g n d)
theorem twE_not {g : Int → Nat × List Int} {n d : Int} (h : proB n d = false) : twE g n d = none := by unfold twE pexO; rw [h]; rfl
theorem twE_many {g : Int → Nat × List Int} {n d : Int} (h : ¬ n ≤ 24) : twE g n d = none := by unfold twE pexO twO; rw [if_neg h]; split <;> rfl
theorem twE_on {g : Int → Nat × List Int} {n d : Int} (h : proB n d = true) (hn : n ≤ 24) : twE g n d = exO (rounds g 300 (repL n d)) := by unfold twE pexO twO; rw [h, if_pos hn]; rfl
theorem exO_len (o : Option (List Int)) : ((exO o).getD []).length ≤ 24 := by
  cases o with
  | none => simp [exO_none]
  | some xs =>
    cases hx : expB (srt xs) with
    | true => rw [exO_yes hx]; exact expB_len hx
    | false => rw [exO_no hx]; simp
theorem twE_len (g : Int → Nat × List Int) (n d : Int) : ((twE g n d).getD []).length ≤ 24 := by
  unfold twE pexO
  split
  · exact exO_len _
  · simp
set_option maxHeartbeats 4000000 in
theorem spec_pair_any (n d : Int) (w : World) : Calls Tryz.prog 38 #[.agg #[.int .i64 n, .int .i64 d]] w (RetRB ((twE repP n d).getD []) (twE repP n d).isSome w) := by
  cases h : proB n d with
  | false =>
    have E := Lib.hid (twE_not (g := repP) h)
    go_enter Tryz.func38, Tryz.ntmps38
    go_wp2_with (go_at_call 22; refine (meProper_any _ _ _).mono ?_; rintro e w1 ⟨rfl, hb1⟩; obtain ⟨hc1, hf1⟩ := bcellB hb1; have hz1 := hb1.size; (try simp only [World.size_alloc] at hc1 hf1 hz1); (try have hy1_r_0 : wr.heap.size < w1.heap.size := by omega); (try have hn1_r_0 : wr.heap.size ≠ w1.heap.size := by omega); (try have hm1_r_0 : w1.heap.size ≠ wr.heap.size := by omega); (try have hy1_r_1 : wr.heap.size + 1 < w1.heap.size := by omega); (try have hn1_r_1 : wr.heap.size + 1 ≠ w1.heap.size := by omega); (try have hm1_r_1 : w1.heap.size ≠ wr.heap.size + 1 := by omega); (try have hy1_r_2 : wr.heap.size + 1 + 1 < w1.heap.size := by omega); (try have hp1_r_1 : wr.heap.size < w1.heap.size + 1 := by omega); (try have hp1_r_2 : wr.heap.size < w1.heap.size + 1 + 1 := by omega); (try have hy1_0_0 : w.heap.size < w1.heap.size := by omega); (try have hn1_0_0 : w.heap.size ≠ w1.heap.size := by omega); (try have hm1_0_0 : w1.heap.size ≠ w.heap.size := by omega); (try have hy1_0_1 : w.heap.size + 1 < w1.heap.size := by omega); (try have hn1_0_1 : w.heap.size + 1 ≠ w1.heap.size := by omega); (try have hm1_0_1 : w1.heap.size ≠ w.heap.size + 1 := by omega); (try have hy1_0_2 : w.heap.size + 1 + 1 < w1.heap.size := by omega); (try have hp1_0_1 : w.heap.size < w1.heap.size + 1 := by omega); (try have hp1_0_2 : w.heap.size < w1.heap.size + 1 + 1 := by omega); (try have hg1_g1 : g1 < w1.heap.size := by omega); (try have hi1_g1 : g1 ≠ w1.heap.size := by omega); (try have hj1_g1 : w1.heap.size ≠ g1 := by omega); (try have hk1_g1 : g1 < w1.heap.size + 1 := by omega); (try have hg1_g2 : g2 < w1.heap.size := by omega); (try have hi1_g2 : g2 ≠ w1.heap.size := by omega); (try have hj1_g2 : w1.heap.size ≠ g2 := by omega); (try have hk1_g2 : g2 < w1.heap.size + 1 := by omega))
    go_ret2
    rw [E.out]
    exact ⟨none, 0, rfl, Reads.nil, by (repeat' (first | (with_reducible exact Below.refl _ _) | (with_reducible assumption) | (with_reducible refine Below.drew ?_) | (with_reducible refine belowDrewN ?_ _) | (with_reducible refine Below.alloc ?_ ?_ _) | (with_reducible refine Below.setCell ?_ ?_ _) | (with_reducible refine belowStep (by assumption) ?_ ?_) | (with_reducible exact Below.size (by assumption)) | go_size))⟩
  | true =>
    obtain ⟨n1, n2, d1, d2, hnd, hg, hgc, hi⟩ := proB_bounds h
    clear hg hgc hi
    go_enter Tryz.func38, Tryz.ntmps38
    have TI := Lib.hid (TwoAt.new w (n) (d) 27)
    by_cases hn : n ≤ 24
    · have E := Lib.hid (twE_on (g := repP) h hn)
      have hd1 : decide (24 < n) = false := decide_eq_false (by omega)
      have hd2 : ¬ 24 < n := by omega
      obtain ⟨oI1, oI2, oI3, oI4, oI5⟩ := TI.out
      go_wp2_with (go_at_call 22; refine (meProper_any _ _ _).mono ?_; rintro e w1 ⟨rfl, hb1⟩; obtain ⟨hc1, hf1⟩ := bcellB hb1; have hz1 := hb1.size; (try simp only [World.size_alloc] at hc1 hf1 hz1); (try have hy1_r_0 : wr.heap.size < w1.heap.size := by omega); (try have hn1_r_0 : wr.heap.size ≠ w1.heap.size := by omega); (try have hm1_r_0 : w1.heap.size ≠ wr.heap.size := by omega); (try have hy1_r_1 : wr.heap.size + 1 < w1.heap.size := by omega); (try have hn1_r_1 : wr.heap.size + 1 ≠ w1.heap.size := by omega); (try have hm1_r_1 : w1.heap.size ≠ wr.heap.size + 1 := by omega); (try have hy1_r_2 : wr.heap.size + 1 + 1 < w1.heap.size := by omega); (try have hp1_r_1 : wr.heap.size < w1.heap.size + 1 := by omega); (try have hp1_r_2 : wr.heap.size < w1.heap.size + 1 + 1 := by omega); (try have hy1_0_0 : w.heap.size < w1.heap.size := by omega); (try have hn1_0_0 : w.heap.size ≠ w1.heap.size := by omega); (try have hm1_0_0 : w1.heap.size ≠ w.heap.size := by omega); (try have hy1_0_1 : w.heap.size + 1 < w1.heap.size := by omega); (try have hn1_0_1 : w.heap.size + 1 ≠ w1.heap.size := by omega); (try have hm1_0_1 : w1.heap.size ≠ w.heap.size + 1 := by omega); (try have hy1_0_2 : w.heap.size + 1 + 1 < w1.heap.size := by omega); (try have hp1_0_1 : w.heap.size < w1.heap.size + 1 := by omega); (try have hp1_0_2 : w.heap.size < w1.heap.size + 1 + 1 := by omega); (try have hg1_g1 : g1 < w1.heap.size := by omega); (try have hi1_g1 : g1 ≠ w1.heap.size := by omega); (try have hj1_g1 : w1.heap.size ≠ g1 := by omega); (try have hk1_g1 : g1 < w1.heap.size + 1 := by omega); (try have hg1_g2 : g2 < w1.heap.size := by omega); (try have hi1_g2 : g2 ≠ w1.heap.size := by omega); (try have hj1_g2 : w1.heap.size ≠ g2 := by omega); (try have hk1_g2 : g2 < w1.heap.size + 1 := by omega))
      refine (meRounds_pair _ n d (by omega) hn (by omega) d2).mono ?_; rintro e w2 ⟨A2, c2, rfl, hr2, hb2⟩
      have hz2 := hb2.size
      (try simp only [World.size_alloc, World.size_setCell, World.size_drew, World.heap_drewN] at hz2)
      go_wp2
      go_ret2
      rw [E.out]
      exact ⟨A2, c2, rfl, hr2.below (by (repeat' (first | (with_reducible exact Below.refl _ _) | (with_reducible assumption) | (with_reducible refine Below.drew ?_) | (with_reducible refine belowDrewN ?_ _) | (with_reducible refine Below.alloc ?_ ?_ _) | (with_reducible refine Below.setCell ?_ ?_ _) | (with_reducible refine belowStep (by assumption) ?_ ?_) | (with_reducible exact Below.size (by assumption)) | go_size))), by (repeat' (first | (with_reducible exact Below.refl _ _) | (with_reducible assumption) | (with_reducible refine Below.drew ?_) | (with_reducible refine belowDrewN ?_ _) | (with_reducible refine Below.alloc ?_ ?_ _) | (with_reducible refine Below.setCell ?_ ?_ _) | (with_reducible refine belowStep (by assumption) ?_ ?_) | (with_reducible exact Below.size (by assumption)) | go_size))⟩
    · have E := Lib.hid (twE_many (g := repP) (d := d) hn)
      have hd1 : decide (24 < n) = true := decide_eq_true (by omega)
      have hd2 : 24 < n := by omega
      obtain ⟨oI1, oI2, oI3, oI4, oI5⟩ := TI.out
      go_wp2_with (go_at_call 22; refine (meProper_any _ _ _).mono ?_; rintro e w1 ⟨rfl, hb1⟩; obtain ⟨hc1, hf1⟩ := bcellB hb1; have hz1 := hb1.size; (try simp only [World.size_alloc] at hc1 hf1 hz1); (try have hy1_r_0 : wr.heap.size < w1.heap.size := by omega); (try have hn1_r_0 : wr.heap.size ≠ w1.heap.size := by omega); (try have hm1_r_0 : w1.heap.size ≠ wr.heap.size := by omega); (try have hy1_r_1 : wr.heap.size + 1 < w1.heap.size := by omega); (try have hn1_r_1 : wr.heap.size + 1 ≠ w1.heap.size := by omega); (try have hm1_r_1 : w1.heap.size ≠ wr.heap.size + 1 := by omega); (try have hy1_r_2 : wr.heap.size + 1 + 1 < w1.heap.size := by omega); (try have hp1_r_1 : wr.heap.size < w1.heap.size + 1 := by omega); (try have hp1_r_2 : wr.heap.size < w1.heap.size + 1 + 1 := by omega); (try have hy1_0_0 : w.heap.size < w1.heap.size := by omega); (try have hn1_0_0 : w.heap.size ≠ w1.heap.size := by omega); (try have hm1_0_0 : w1.heap.size ≠ w.heap.size := by omega); (try have hy1_0_1 : w.heap.size + 1 < w1.heap.size := by omega); (try have hn1_0_1 : w.heap.size + 1 ≠ w1.heap.size := by omega); (try have hm1_0_1 : w1.heap.size ≠ w.heap.size + 1 := by omega); (try have hy1_0_2 : w.heap.size + 1 + 1 < w1.heap.size := by omega); (try have hp1_0_1 : w.heap.size < w1.heap.size + 1 := by omega); (try have hp1_0_2 : w.heap.size < w1.heap.size + 1 + 1 := by omega); (try have hg1_g1 : g1 < w1.heap.size := by omega); (try have hi1_g1 : g1 ≠ w1.heap.size := by omega); (try have hj1_g1 : w1.heap.size ≠ g1 := by omega); (try have hk1_g1 : g1 < w1.heap.size + 1 := by omega); (try have hg1_g2 : g2 < w1.heap.size := by omega); (try have hi1_g2 : g2 ≠ w1.heap.size := by omega); (try have hj1_g2 : w1.heap.size ≠ g2 := by omega); (try have hk1_g2 : g2 < w1.heap.size + 1 := by omega))
      go_ret2
      rw [E.out]
      exact ⟨none, 0, rfl, Reads.nil, by (repeat' (first | (with_reducible exact Below.refl _ _) | (with_reducible assumption) | (with_reducible refine Below.drew ?_) | (with_reducible refine belowDrewN ?_ _) | (with_reducible refine Below.alloc ?_ ?_ _) | (with_reducible refine Below.setCell ?_ ?_ _) | (with_reducible refine belowStep (by assumption) ?_ ?_) | (with_reducible exact Below.size (by assumption)) | go_size))⟩
end Go.Proofs.YtbjblkfibinenadGreatDoor


/-
  The contract of the program's rounds that replace numbers which stand twice, and of the two methods that make them.
-/
namespace Go.Proofs.YtbjblkfibinenadGreatDoor
open Go.RowKit
open Go.Maps Go.WideMaps
/-- what a function that replaces a number must give -/
structure GoodG (g : Int → Nat × List Int) : Prop where
  one : ∀ d, 1 ≤ (g d).1
  two : ∀ d, (g d).1 ≤ 2
  ne : ∀ d, 0 < (g d).2.length
  len : ∀ d, (g d).2.length ≤ 2
  lo : ∀ d, 1 ≤ d → ∀ x ∈ (g d).2, 1 ≤ x
theorem repP_good : GoodG repP where
  one := fun d => by unfold repP; split <;> simp
  two := fun d => by unfold repP; split <;> simp
  ne := fun d => by unfold repP; split <;> simp
  len := fun d => by unfold repP; split <;> simp
  lo := repP_in
theorem repS_good : GoodG repS where
  one := fun d => by unfold repS; simp
  two := fun d => by unfold repS; simp
  ne := fun d => by unfold repS; simp
  len := fun d => by unfold repS; simp
  lo := repS_in
theorem foldMax_le (m : Int) : ∀ (xs : List Int) (a : Int), xs.foldl max a ≤ m ↔ a ≤ m ∧ ∀ x ∈ xs, x ≤ m
  | [], a => by simp
  | x :: xs, a => by
    rw [List.foldl_cons, foldMax_le m xs, List.forall_mem_cons]
    constructor
    · rintro ⟨h1, h2⟩; exact ⟨by omega, by omega, h2⟩
    · rintro ⟨h1, h2, h3⟩; exact ⟨by omega, h3⟩
theorem maxOf_le {xs : List Int} (h : 0 < xs.length) (m : Int) : Lib.maxOf xs ≤ m ↔ ∀ x ∈ xs, x ≤ m := by
  cases xs with
  | nil => simp at h
  | cons x xs =>
    unfold Lib.maxOf
    rw [foldMax_le]
    constructor
    · rintro ⟨_, h2⟩; exact h2
    · intro h2; exact ⟨h2 x (by simp), h2⟩
/-- one round, written out -/
theorem round_at {g : Int → Nat × List Int} {xs : List Int} {i : Nat} {d : Int} (hd : xs[i]? = some d) : roundL g xs i = srt (xs.take i ++ xs.drop (i + (g d).1) ++ (g d).2) := by
  unfold roundL; rw [hd]; rfl
theorem round_small {g : Int → Nat × List Int} {xs : List Int} {i : Nat} {d : Int} (hd : xs[i]? = some d) (hx : ∀ x ∈ xs, x ≤ 1000000000) : small (roundL g xs i) = decide (∀ x ∈ (g d).2, x ≤ 1000000000) := by
  rw [round_at hd, Bool.eq_iff_iff, decide_eq_true_iff]
  unfold small
  rw [List.all_eq_true]
  constructor
  · intro h x hm
    have := h x (srt_mem.2 (List.mem_append.2 (.inr hm)))
    simpa using this
  · intro h x hm
    rw [decide_eq_true_iff]
    rcases List.mem_append.1 (srt_mem.1 hm) with hm | hm
    · rcases List.mem_append.1 hm with hm | hm
      · exact hx x (List.mem_of_mem_take hm)
      · exact hx x (List.mem_of_mem_drop hm)
    · exact h x hm
/-- what the rounds leave -/
theorem rounds_facts {g : Int → Nat × List Int} (hg : GoodG g) : ∀ {k : Nat} {xs ys : List Int}, (∀ x ∈ xs, 1 ≤ x ∧ x ≤ 1000000000) → 0 < xs.length → rounds g k xs = some ys → 0 < ys.length ∧ ys.length ≤ xs.length + 2 * k ∧ ∀ y ∈ ys, 1 ≤ y ∧ y ≤ 1000000000
  | k, xs, ys, hx, h0, hr => by
    cases ht : tw xs with
    | none =>
      rw [rounds_done ht] at hr
      injection hr with hr
      subst hr
      exact ⟨h0, by omega, hx⟩
    | some i =>
      obtain ⟨d, hd, hd2⟩ := tw_at ht
      have hi : i + 1 < xs.length := (List.getElem?_eq_some_iff.1 hd2).1
      cases k with
      | zero => rw [rounds_out ht] at hr; cases hr
      | succ k =>
        cases hs : small (roundL g xs i) with
        | false => rw [rounds_big ht hs] at hr; cases hr
        | true =>
          rw [rounds_on ht hs] at hr
          have a1 := hg.one d
          have a2 := hg.two d
          have a3 := hg.ne d
          have a4 := hg.len d
          have hl : (roundL g xs i).length + (g d).1 = xs.length + (g d).2.length := by rw [round_at hd, srt_len, List.length_append, List.length_append, List.length_take, List.length_drop]; omega
          obtain ⟨b1, b2, b3⟩ := rounds_facts hg (k := k) (round_in hg.lo (fun x h => (hx x h).1) ht hs) (by omega) hr
          exact ⟨b1, by omega, b3⟩
theorem twO_facts {g : Int → Nat × List Int} (hg : GoodG g) {n d : Int} (hp : proB n d = true) {ys : List Int} (h : twO g n d = some ys) : ys ≠ [] ∧ ys.length ≤ 1000 ∧ In64 ys := by
  obtain ⟨n1, n2, d1, d2, hnd, hgd, hgc, hgi⟩ := proB_bounds hp
  unfold twO at h
  split at h
  · rename_i hn
    obtain ⟨b1, b2, b3⟩ := rounds_facts hg (fun x hx => by have := List.eq_of_mem_replicate hx; omega) (by unfold repL; rw [List.length_replicate]; omega) h
    have hl : (repL n d).length = n.toNat := by unfold repL; rw [List.length_replicate]
    refine ⟨fun e => by rw [e] at b1; simp at b1, by omega, ?_⟩
    exact In64.of_mem fun x hx => by have := b3 x hx; omega
  · cases h
set_option maxRecDepth 100000 in
set_option maxHeartbeats 8000000 in
theorem replaceTwice_any (n d : Int) (F : Nat) (g : Int → Nat × List Int) (hg : GoodG g) (hent : ∀ (args : Array Value) (w : World), Sem.run Tryz.prog (callFunc F args) w = .ok (.enter F args) w)
    (hF : ∀ (d : Int) (w : World), 1 ≤ d → d ≤ 1000000000 → Calls Tryz.prog F #[.int .i64 d] w (RetG (g d) w)) (w : World) (hp : proB n d = true) :
    Calls Tryz.prog 142 #[.agg #[.int .i64 n, .int .i64 d], .func (.func F) #[] #[]] w (RetM (twO g n d) w) := by
  obtain ⟨n1, n2, d1, d2, hnd, hgd, hgc, hgi⟩ := proB_bounds hp
  clear hgd hgc hgi
  by_cases hn : n ≤ 24
  · have E : Hid (twO g n d = rounds g 300 (repL n d)) := Lib.hid (by unfold twO; rw [if_pos hn])
    obtain ⟨N, rfl⟩ : ∃ N : Nat, n = (N : Int) := ⟨n.toNat, by omega⟩
    have HE := Lib.hid hent
    have HF := Lib.hid hF
    have HG := Lib.hid hg
    have HR : Hid (repL (N : Int) d = List.replicate N d) := Lib.hid (by unfold repL; rw [Int.toNat_natCast])
    have hN1 : 1 ≤ N := by omega
    have hN2 : N ≤ 24 := by omega
    have T0 := Lib.hid (TwoAt.new w (N : Int) d 27)
    clear hent hF hg hp
    go_enter Tryz.func142, Tryz.ntmps142
    go_wp2_with fail
    have R0 : Reads ((w.alloc (.cells #[.int .i64 ((N : Int)), .int .i64 (d)] 27)).alloc (.cells #[.int .i64 d] 3)) (some ⟨w.heap.size + 1, 0, none⟩) [d] := by have := Reads.one (w.alloc (.cells #[.int .i64 ((N : Int)), .int .i64 (d)] 27)) d; rw [World.size_alloc] at this; exact this
    have P0 := repeat_any _ _ 1 d N hN1 hN2 R0
    ((with_reducible refine P0.mono ?_); rintro e w1 ⟨v1, rfl, ho1, hb1⟩)
    clear P0 R0
    have hz1 := hb1.size
    simp only [World.size_alloc] at hz1
    have HB1 : Below w.heap.size w w1 := by (repeat' (first | (with_reducible exact Below.refl _ _) | (with_reducible assumption) | (with_reducible refine Below.drew ?_) | (with_reducible refine belowDrewN ?_ _) | (with_reducible refine Below.alloc ?_ ?_ _) | (with_reducible refine Below.setCell ?_ ?_ _) | (with_reducible refine belowStep (by assumption) ?_ ?_) | (with_reducible exact Below.size (by assumption)) | go_size))
    have Ho1 : Hid (OwnI w1 w.heap.size v1 (List.replicate N d)) := Lib.hid (ho1.mono (by (first | (go_size; done) | ((try simp only [World.size_alloc, World.size_setCell, World.size_drew, World.heap_drewN]); omega))))
    clear ho1 hb1
    go_wp2
    go_loopw [6, 22] (fun v6 v22 wr => ∃ (k : Nat) (xs : List Int), k ≤ 300 ∧ v22 = .int .i64 (k : Int) ∧ OwnI wr w.heap.size v6 xs ∧ Hid (xs.Pairwise (· ≤ ·)) ∧ Hid (∀ x ∈ xs, 1 ≤ x ∧ x ≤ 1000000000) ∧ 0 < xs.length ∧ xs.length ≤ 24 + 2 * k ∧ Hid (rounds g 300 (repL (N : Int) d) = rounds g (300 - k) xs) ∧ Below w.heap.size w wr) (fun _ v22 _ => 300 - (intOf v22).toNat)
    case atStart => exact ⟨0, List.replicate N d, by omega, rfl, Ho1.out, Lib.hid (by rw [List.pairwise_replicate]; exact .inr (Int.le_refl _)), Lib.hid (fun x hx => by have := List.eq_of_mem_replicate hx; omega), by rw [List.length_replicate]; omega, by rw [List.length_replicate]; omega, Lib.hid (by rw [HR.out]), HB1⟩
    case round =>
      clear Ho1 HB1 hz1
      obtain ⟨k, xs, hk, rfl, ho, hs, hx, hl0, hl1, hr, hbr⟩ := hrel
      have hzr := hbr.size
      obtain ⟨A, c, rfl, hrd⟩ := ho.form
      have Ho := Lib.hid ho
      have Hrd := Lib.hid hrd
      clear ho hrd
      by_cases hlt : k < 300
      · have hlt' : (k : Int) < 300 := by omega
        cases ht : tw xs with
        | none =>
          have E2 : Hid (twO g (N : Int) d = some xs) := Lib.hid (by rw [E.out, hr.out, rounds_done ht])
          have E3 : Hid ((tw xs).isSome = false) := Lib.hid (by rw [ht]; rfl)
          clear ht
          go_wp2_with fail
          refine (firstTwice_any _ A c xs Hrd.out (by omega)).mono ?_; rintro e w2 ⟨rfl, k2, rfl⟩
          rw [E3.out]
          go_wp2
          go_ret2
          refine ⟨_, _, rfl, by rw [E2.out]; rfl, fun ys hy => ?_, by (repeat' (first | (with_reducible exact Below.refl _ _) | (with_reducible assumption) | (with_reducible refine Below.drew ?_) | (with_reducible refine belowDrewN ?_ _) | (with_reducible refine Below.alloc ?_ ?_ _) | (with_reducible refine Below.setCell ?_ ?_ _) | (with_reducible refine belowStep (by assumption) ?_ ?_) | (with_reducible exact Below.size (by assumption)) | go_size))⟩
          rw [E2.out] at hy
          injection hy with hy
          subst hy
          exact Ho.out.drewN _
        | some i =>
          obtain ⟨z, hz, hz2⟩ := tw_at ht
          have E3 : Hid ((tw xs).isSome = true) := Lib.hid (by rw [ht]; rfl)
          have E4 := Lib.hid (twK_some ht)
          have hi : i + 1 < xs.length := (List.getElem?_eq_some_iff.1 hz2).1
          obtain ⟨zl, zh⟩ := hx.out z (List.mem_of_getElem? hz)
          obtain ⟨bb, oo, z', hA, hbb, hz', hcell⟩ := Hrd.out.at_ (k := i) (by omega)
          subst hA
          obtain rfl : z' = z := by rw [hz] at hz'; injection hz' with h; exact h.symm
          have HFz := Lib.hid fun (w : World) => HF.out z' w zl zh
          have HT := Lib.hid ht
          have HZ := Lib.hid hz
          have hii : (i : Int) < (xs.length : Int) := by omega
          clear ht hz hz2 hz'
          go_wp2_with fail
          refine (firstTwice_any _ _ c xs Hrd.out (by omega)).mono ?_; rintro e w2 ⟨rfl, k2, rfl⟩
          rw [E3.out, E4.out]
          obtain ⟨m, hm⟩ : ∃ m, m = (g z').1 := ⟨_, rfl⟩
          obtain ⟨ys, hys⟩ : ∃ ys, ys = (g z').2 := ⟨_, rfl⟩
          have hm1 : 1 ≤ m := by rw [hm]; exact HG.out.one z'
          have hm2 : m ≤ 2 := by rw [hm]; exact HG.out.two z'
          have hy0 : 0 < ys.length := by rw [hys]; exact HG.out.ne z'
          have hy2 : ys.length ≤ 2 := by rw [hys]; exact HG.out.len z'
          have HYl : Hid (∀ x ∈ ys, 1 ≤ x) := Lib.hid (by rw [hys]; exact HG.out.lo z' zl)
          have HRd : Hid (roundL g xs i = srt (xs.take i ++ xs.drop (i + m) ++ ys)) := Lib.hid (by rw [hm, hys]; exact round_at HZ.out)
          have HSm : Hid (small (roundL g xs i) = decide (∀ x ∈ ys, x ≤ 1000000000)) := Lib.hid (by rw [hys]; exact round_small HZ.out (fun x h => (hx.out x h).2))
          have HFy : Hid (∀ w, Calls Tryz.prog F #[.int .i64 z'] w (RetG (m, ys) w)) := Lib.hid fun w => by rw [hm, hys]; exact HFz.out w
          have HM := Lib.hid (maxOf_le hy0 1000000000)
          have s1 : IntKind.i64.wrap ((i : Int) + (m : Int)) = (i : Int) + (m : Int) := IntWalk.i64_in _ (by omega)
          clear hm hys HFz HZ
          go_wp2
          rw [HE.out, Oper.upon_enter]
          refine (HFy.out _).mono ?_; intro e w3 h3
          obtain ⟨v3, he3, ho3, hb3⟩ : ∃ v, e = .returned (.tuple #[.int .i64 (m : Int), v]) ∧ OwnI w3 (wr.drewN k2).heap.size v ys ∧ Below (wr.drewN k2).heap.size (wr.drewN k2) w3 := h3
          subst he3
          have hz3 := hb3.size
          simp only [World.heap_drewN] at hz3
          obtain ⟨A3, c3, rfl, hr3⟩ := ho3.form
          obtain ⟨b3, o3, rfl, hb3', hcell3⟩ := hr3 hy0
          have HMx := Lib.hid (Tryz.slices_Max_int b3 o3 ys.length c3 ys w3 hy0 (Nat.le_refl _) (by omega) (fun j hj => hcell3 j _ (by rw [List.getD_eq_getElem?_getD, List.getElem?_eq_getElem hj]; rfl)))
          rw [List.take_length] at HMx
          have Ho3 := Lib.hid ho3
          clear hcell3 ho3 hr3
          generalize Lib.maxOf ys = mx at *
          have HM2 : Hid (small (roundL g xs i) = decide (mx ≤ 1000000000)) := Lib.hid (by rw [HSm.out, Bool.eq_iff_iff, decide_eq_true_iff, decide_eq_true_iff]; exact HM.out.symm)
          clear HSm HM
          by_cases hmx : mx ≤ 1000000000
          · have hsm := Lib.hid (HM2.out.trans (decide_eq_true hmx))
            have hmd : decide (1000000000 < mx) = false := decide_eq_false (by omega)
            obtain ⟨f, hf⟩ : ∃ f, 300 - k = f + 1 := ⟨299 - k, by omega⟩
            have HR2 : Hid (rounds g 300 (repL (N : Int) d) = rounds g (300 - (k + 1)) (roundL g xs i)) := Lib.hid (by rw [hr.out, hf, rounds_on HT.out hsm.out]; congr 1; omega)
            have HX2 := Lib.hid (round_in HG.out.lo (fun x h => (hx.out x h).1) HT.out hsm.out)
            have HS2 := Lib.hid (round_sorted g xs i)
            have HLn : Hid ((xs.take i ++ xs.drop (i + m) ++ ys).length + m = xs.length + ys.length) := Lib.hid (by rw [List.length_append, List.length_append, List.length_take, List.length_drop]; omega)
            have HL2 : Hid ((roundL g xs i).length + m = xs.length + ys.length) := Lib.hid (by rw [HRd.out, srt_len]; exact HLn.out)
            have hlk : ∀ g', (Value.slice (some ⟨bb, oo, none⟩) xs.length c).ownBlock = some g' → w.heap.size ≤ g' ∧ g' < wr.heap.size := fun g' hg' => Ho.out.block g' hg'
            have HLk := Lib.hid hlk
            have HD : Hid (∀ (y : Int), y = (i : Int) + (m : Int) → Calls Tryz.prog 147 #[.slice (some ⟨bb, oo, none⟩) xs.length c, .int .i64 (i : Int), .int .i64 y] w3 (fun e w' => ∃ v', e = .returned v' ∧ OwnI w' w.heap.size v' (xs.take i ++ xs.drop (i + m)) ∧ w3.grownBy w' (Value.slice (some ⟨bb, oo, none⟩) xs.length c).ownBlock)) := Lib.hid fun y hy => by
              have := delete_own w3 w.heap.size (.slice (some ⟨bb, oo, none⟩) xs.length c) xs (Ho.out.below (by (repeat' (first | (with_reducible exact Below.refl _ _) | (with_reducible assumption) | (with_reducible refine Below.drew ?_) | (with_reducible refine belowDrewN ?_ _) | (with_reducible refine Below.alloc ?_ ?_ _) | (with_reducible refine Below.setCell ?_ ?_ _) | (with_reducible refine belowStep (by assumption) ?_ ?_) | (with_reducible exact Below.size (by assumption)) | go_size)))) (fun h => by rw [h] at hl0; simp at hl0) i (i + m) (by omega) (by omega)
              rw [Int.natCast_add] at this
              rw [hy]; exact this
            clear hmx hf hlk HM2 hr HT
            go_wp2_with fail
            refine HMx.out.mono ?_; rintro e w4 ⟨rfl, hw4⟩; subst hw4
            go_wp2_with (first
              | (refine (HD.out _ (by first | rfl | exact s1)).mono ?_; rintro e w5 ⟨v5, rfl, ho5, hg5⟩; have hb5 := belowOf hg5 (show w.heap.size ≤ w4.heap.size by omega) (fun g' hg' => (HLk.out g' hg').1); have hz5 := hb5.size; have hr5 := (Ho3.out.kept_ hg5 (fun g' hg' => by have := (HLk.out g' hg').2; simpa using this)).reads.1)
              | (at_builtin; refine wpList_app _ (o := ⟨some 51, _, _, _, _, _⟩) (ys := ys) rfl _ _ rfl rfl (ho5) (ys.length) (c3) (by first | (simp; done) | (simp; omega)) rfl (hr5) (by (try simp only [List.length_append, List.length_take, List.length_drop]); omega) (by first | exact Nat.le_refl _ | ((try simp only [World.size_alloc, World.size_setCell, World.size_drew, World.heap_drewN]); omega)) ?_; intro v6 w6 ho6 hb6 hg6 ht6; clear hg6 ht6; have hz6 := hb6.size; (try simp only [World.size_alloc, World.size_setCell, World.size_drew, World.heap_drewN] at hz6)))
            have HB6 : Below w.heap.size w w6 := by (repeat' (first | (with_reducible exact Below.refl _ _) | (with_reducible assumption) | (with_reducible refine Below.drew ?_) | (with_reducible refine belowDrewN ?_ _) | (with_reducible refine Below.alloc ?_ ?_ _) | (with_reducible refine Below.setCell ?_ ?_ _) | (with_reducible refine belowStep (by assumption) ?_ ?_) | (with_reducible exact Below.size (by assumption)) | go_size))
            have Ho6 := Lib.hid ho6
            have hlo6 := (Ho6.out).block
            refine (sort_own w6 w.heap.size v6 _ Ho6.out (fun h => by have := HLn.out; rw [h] at this; simp at this; omega) (by have := HLn.out; omega)).mono ?_
            rintro e w7 ⟨rfl, ho7, hg7⟩
            have hb7 : Below w.heap.size w w7 := HB6.trans (belowOf hg7 HB6.size (fun k' hk' => (hlo6 k' hk').1))
            rw [← HRd.out] at ho7
            have hL := HL2.out
            have hl2 : 0 < (roundL g xs i).length := by omega
            have hl3 : (roundL g xs i).length ≤ 24 + 2 * (k + 1) := by omega
            clear hL hlo6 hz3 hzr
            generalize roundL g xs i = zs at *
            have Ho7 := Lib.hid ho7
            clear ho7 ho6 hg7
            go_wp2
            go_roundw
            case rel => exact ⟨k + 1, zs, by omega, by go_num, Ho7.out, HS2, HX2, hl2, hl3, HR2, hb7⟩
            case measure =>
              exact (Nat.sub_lt_sub_left (show ((k : Int)).toNat < 300 by rw [Int.toNat_natCast]; omega) (show ((k : Int)).toNat < ((k : Int) + 1).toNat by omega))
          · have hsm := HM2.out.trans (decide_eq_false hmx)
            have hmd : decide (1000000000 < mx) = true := decide_eq_true (by omega)
            obtain ⟨f, hf⟩ : ∃ f, 300 - k = f + 1 := ⟨299 - k, by omega⟩
            have E2 : Hid (twO g (N : Int) d = none) := Lib.hid (by rw [E.out, hr.out, hf, rounds_big HT.out hsm])
            clear hmx hsm hf HM2
            go_wp2_with fail
            refine HMx.out.mono ?_; rintro e w4 ⟨rfl, hw4⟩; subst hw4
            go_wp2
            go_ret2
            refine ⟨_, _, rfl, by rw [E2.out]; rfl, fun ys hy => ?_, by (repeat' (first | (with_reducible exact Below.refl _ _) | (with_reducible assumption) | (with_reducible refine Below.drew ?_) | (with_reducible refine belowDrewN ?_ _) | (with_reducible refine Below.alloc ?_ ?_ _) | (with_reducible refine Below.setCell ?_ ?_ _) | (with_reducible refine belowStep (by assumption) ?_ ?_) | (with_reducible exact Below.size (by assumption)) | go_size))⟩
            rw [E2.out] at hy
            cases hy
      · obtain rfl : k = 300 := by omega
        go_wp2_with fail
        refine (firstTwice_any _ A c xs Hrd.out (by omega)).mono ?_; rintro e w2 ⟨rfl, k2, rfl⟩
        cases ht : tw xs with
        | none =>
          have E2 : Hid (twO g (N : Int) d = some xs) := Lib.hid (by rw [E.out, hr.out, rounds_done ht])
          go_wp2
          go_ret2
          refine ⟨_, _, rfl, by rw [E2.out]; rfl, fun ys hy => ?_, by (repeat' (first | (with_reducible exact Below.refl _ _) | (with_reducible assumption) | (with_reducible refine Below.drew ?_) | (with_reducible refine belowDrewN ?_ _) | (with_reducible refine Below.alloc ?_ ?_ _) | (with_reducible refine Below.setCell ?_ ?_ _) | (with_reducible refine belowStep (by assumption) ?_ ?_) | (with_reducible exact Below.size (by assumption)) | go_size))⟩
          rw [E2.out] at hy
          injection hy with hy
          subst hy
          exact Ho.out.drewN _
        | some i =>
          have E2 : Hid (twO g (N : Int) d = none) := Lib.hid (by rw [E.out, hr.out]; exact rounds_out ht)
          go_wp2
          go_ret2
          refine ⟨_, _, rfl, by rw [E2.out]; rfl, fun ys hy => ?_, by (repeat' (first | (with_reducible exact Below.refl _ _) | (with_reducible assumption) | (with_reducible refine Below.drew ?_) | (with_reducible refine belowDrewN ?_ _) | (with_reducible refine Below.alloc ?_ ?_ _) | (with_reducible refine Below.setCell ?_ ?_ _) | (with_reducible refine belowStep (by assumption) ?_ ?_) | (with_reducible exact Below.size (by assumption)) | go_size))⟩
          rw [E2.out] at hy
          cases hy
  · have E : Hid (twO g n d = none) := Lib.hid (by unfold twO; rw [if_neg hn])
    clear hent hF hg hp
    go_enter Tryz.func142, Tryz.ntmps142
    go_wp2
    go_ret2
    exact ⟨_, _, rfl, by rw [E.out]; rfl, fun xs hx => (by rw [E.out] at hx; cases hx), by (repeat' (first | (with_reducible exact Below.refl _ _) | (with_reducible assumption) | (with_reducible refine Below.drew ?_) | (with_reducible refine belowDrewN ?_ _) | (with_reducible refine Below.alloc ?_ ?_ _) | (with_reducible refine Below.setCell ?_ ?_ _) | (with_reducible refine belowStep (by assumption) ?_ ?_) | (with_reducible exact Below.size (by assumption)) | go_size))⟩
set_option maxRecDepth 100000 in
theorem pairTerms_any (n d : Int) (w : World) (hp : proB n d = true) : Calls Tryz.prog 141 #[.agg #[], .agg #[.int .i64 n, .int .i64 d]] w (RetM (twO repP n d) w) := by
  have HX := Lib.hid fun (w : World) => replaceTwice_any n d 143 repP repP_good (fun _ _ => rfl) (fun z w h1 h2 => pairBy_any w z h1 h2) w hp
  go_enter Tryz.func141, Tryz.ntmps141
  go_wp2_with fail
  refine (HX.out _).mono ?_; rintro e w2 ⟨v2, b2, rfl, hb2, ho2, hbl2⟩
  subst hb2
  have hz2 := hbl2.size
  go_wp2
  go_ret2
  exact ⟨_, _, rfl, rfl, fun xs hx => (ho2 xs hx).mono (by (first | (go_size; done) | ((try simp only [World.size_alloc, World.size_setCell, World.size_drew, World.heap_drewN]); omega))), by (repeat' (first | (with_reducible exact Below.refl _ _) | (with_reducible assumption) | (with_reducible refine Below.drew ?_) | (with_reducible refine belowDrewN ?_ _) | (with_reducible refine Below.alloc ?_ ?_ _) | (with_reducible refine Below.setCell ?_ ?_ _) | (with_reducible refine belowStep (by assumption) ?_ ?_) | (with_reducible exact Below.size (by assumption)) | go_size))⟩
set_option maxRecDepth 100000 in
theorem pairMethod (j : Nat) (w : World) : (method (j + 1) 82 (.agg #[]) "loop.example/g01107/impl.termsOf").run Tryz.prog w = .ok (141, .agg #[]) w := by kernel_rfl
set_option maxRecDepth 100000 in
theorem pairD (zd : DataW Unit) : mD.atKey (.string [112, 97, 105, 114]) zd = .lit (.int .i64 ((82 : Nat) : Int)) := by kernel_rfl
set_option maxRecDepth 100000 in
theorem splitTerms_any (n d : Int) (w : World) (hp : proB n d = true) : Calls Tryz.prog 151 #[.agg #[], .agg #[.int .i64 n, .int .i64 d]] w (RetM (twO repS n d) w) := by
  have HX := Lib.hid fun (w : World) => replaceTwice_any n d 152 repS repS_good (fun _ _ => rfl) (fun z w h1 h2 => splitBy_any w z h1 h2) w hp
  go_enter Tryz.func151, Tryz.ntmps151
  go_wp2_with fail
  refine (HX.out _).mono ?_; rintro e w2 ⟨v2, b2, rfl, hb2, ho2, hbl2⟩
  subst hb2
  have hz2 := hbl2.size
  go_wp2
  go_ret2
  exact ⟨_, _, rfl, rfl, fun xs hx => (ho2 xs hx).mono (by (first | (go_size; done) | ((try simp only [World.size_alloc, World.size_setCell, World.size_drew, World.heap_drewN]); omega))), by (repeat' (first | (with_reducible exact Below.refl _ _) | (with_reducible assumption) | (with_reducible refine Below.drew ?_) | (with_reducible refine belowDrewN ?_ _) | (with_reducible refine Below.alloc ?_ ?_ _) | (with_reducible refine Below.setCell ?_ ?_ _) | (with_reducible refine belowStep (by assumption) ?_ ?_) | (with_reducible exact Below.size (by assumption)) | go_size))⟩
set_option maxRecDepth 100000 in
theorem splitMethod (j : Nat) (w : World) : (method (j + 1) 83 (.agg #[]) "loop.example/g01107/impl.termsOf").run Tryz.prog w = .ok (151, .agg #[]) w := by kernel_rfl
set_option maxRecDepth 100000 in
theorem splitD (zd : DataW Unit) : mD.atKey (.string [115, 112, 108, 105, 116]) zd = .lit (.int .i64 ((83 : Nat) : Int)) := by kernel_rfl
end Go.Proofs.YtbjblkfibinenadGreatDoor


/-
  Contracts of the program's expansions by pairs and by splits.
-/
namespace Go.Proofs.YtbjblkfibinenadGreatDoor
open Go.RowKit
open Go.Maps Go.WideMaps
end Go.Proofs.YtbjblkfibinenadGreatDoor
