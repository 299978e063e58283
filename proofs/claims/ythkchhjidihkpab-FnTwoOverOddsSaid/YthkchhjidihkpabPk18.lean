import Derived.Test.YthkchhjidihkpabPk9
import Derived.Test.YthkchhjidihkpabPk14
import Derived.Test.YthkchhjidihkpabPk17
import Derived.Test.YthkchhjidihkpabPk11
import Derived.Test.YthkchhjidihkpabPk6

/-
  Contracts of the scaling of an expansion.
-/
namespace Go.Proofs.Ythkchhjidihkpab
open Go.RowKit
def scaleB (xs : List Int) (k : Int) : Bool := expB xs && decide (1 ≤ k) && decide (k ≤ 1000000000) && expB (xs.map (k * ·))
def scaleL (xs : List Int) (k : Int) : List Int := if scaleB xs k = true then xs.map (k * ·) else []
theorem scale_no {xs : List Int} {k : Int} (h : scaleB xs k = false) : scaleL xs k = [] := by rw [scaleL, h]; rfl
theorem scale_exp {xs : List Int} {k : Int} (h : expB xs = false) : scaleB xs k = false := by simp [scaleB, h]
theorem scale_out {xs : List Int} {k : Int} (h : ¬ (1 ≤ k ∧ k ≤ 1000000000)) : scaleB xs k = false := by
  unfold scaleB
  by_cases h1 : 1 ≤ k
  · have : ¬ k ≤ 1000000000 := fun h2 => h ⟨h1, h2⟩
    simp [this]
  · simp [h1]
theorem scale_in {xs : List Int} {k : Int} (h : expB xs = true) (h1 : 1 ≤ k) (h2 : k ≤ 1000000000) : scaleB xs k = expB (xs.map (k * ·)) := by simp [scaleB, h, h1, h2]
theorem scale_len (xs : List Int) (k : Int) : (scaleL xs k).length ≤ 1048576 := by
  unfold scaleL
  split
  · rename_i h
    have : expB xs = true := by simp only [scaleB, Bool.and_eq_true] at h; exact h.1.1.1
    have := expB_len this
    simp; omega
  · simp
theorem scale_64 {xs : List Int} {k : Int} (h : expB xs = true) (h1 : 1 ≤ k) (h2 : k ≤ 1000000000) : In64 (xs.map (k * ·)) := In64.of_mem (fun x hx => by
  obtain ⟨y, hy, rfl⟩ := List.mem_map.1 hx
  have hb := expB_small h y hy
  have := mul_bounds (by omega : 0 ≤ k) h2 (by omega : 0 ≤ y) hb.2
  omega)
theorem take_next {zs : List Int} {j : Nat} {x : Int} (h : zs[j]? = some x) : zs.take (j + 1) = zs.take j ++ [x] := by
  have hk : j < zs.length := (List.getElem?_eq_some_iff.1 h).1
  rw [List.take_succ_eq_append_getElem hk, (List.getElem?_eq_some_iff.1 h).2]
theorem ret_nil {w w' : World} (h : Below w.heap.size w w') : RetLB [] false w (.returned (.tuple #[.slice none 0 0, .bool false])) w' := ⟨_, rfl, OwnI.empty _ _, h⟩
theorem ret_rnil {w w' : World} (h : Below w.heap.size w w') : RetRB [] false w (.returned (.tuple #[.slice none 0 0, .bool false])) w' := ⟨none, 0, rfl, Reads.nil, h⟩

set_option maxHeartbeats 2000000 in
set_option maxRecDepth 100000 in
theorem spec_scale_any (w : World) (k : Int) (rk : -9223372036854775808 ≤ k ∧ k ≤ 9223372036854775807) (Axs : Option Addr) (cxs : Nat) (xs : List Int) (hxs : Reads w Axs xs) (lxs : xs.length ≤ 1048576) : Calls Try.prog 69 #[.slice Axs xs.length cxs, .int .i64 k] w (RetRB (scaleL xs k) (scaleB xs k) w) := by
  have Hxs := Lib.hid hxs
  clear hxs
  cases hx : expB xs with
  | false =>
    have hs := scale_exp (k := k) hx
    rw [scale_no hs, hs]
    go_enter Try.func69, Try.ntmps69
    go_wp2_with fail
    refine (unExpansion_any _ _ _ _ Hxs.out lxs).mono ?_; rintro e w1 ⟨rfl, hb1⟩
    go_wp2
    go_ret2
    exact ret_rnil (by (repeat' (first | (with_reducible exact Below.refl _ _) | (with_reducible assumption) | (with_reducible refine Below.drew ?_) | (with_reducible refine belowDrewN ?_ _) | (with_reducible refine Below.alloc ?_ ?_ _) | (with_reducible refine Below.setCell ?_ ?_ _) | (with_reducible refine belowStep (by assumption) ?_ ?_) | (with_reducible exact Below.size (by assumption)) | go_size)))
  | true =>
    by_cases hk : 1 ≤ k ∧ k ≤ 1000000000
    · obtain ⟨h1, h2⟩ := hk
      have hlen := expB_len hx
      have HS := Lib.hid (scale_in hx h1 h2)
      have Hsm := Lib.hid (expB_small hx)
      have Hlm : Hid ((xs.map (k * ·)).length = xs.length) := by show (xs.map (k * ·)).length = xs.length; simp
      generalize hz : xs.map (k * ·) = zs at HS Hlm
      have Hz := Lib.hid hz
      clear hz
      go_enter Try.func69, Try.ntmps69
      go_wp2_with fail
      refine (unExpansion_any _ _ _ _ Hxs.out lxs).mono ?_; rintro e w1 ⟨rfl, hb1⟩
      go_wp2_with fail
      refine (l1In_yes _ _ _ _ h1 h2).mono ?_; rintro e w2 ⟨rfl, k2, rfl⟩
      go_wp2_with fail
      have hg := hb1.size
      go_loopw [6, 19] (fun v6 v19 wr => ∃ j : Nat, j ≤ xs.length ∧ v19 = .int .i64 j ∧ OwnI wr w.heap.size v6 (zs.take j) ∧ Below w.heap.size w wr) (fun _ v19 _ => xs.length - (intOf v19).toNat)
      case atStart => exact ⟨0, Nat.zero_le _, rfl, OwnI.empty _ _, by (repeat' (first | (with_reducible exact Below.refl _ _) | (with_reducible assumption) | (with_reducible refine Below.drew ?_) | (with_reducible refine belowDrewN ?_ _) | (with_reducible refine Below.alloc ?_ ?_ _) | (with_reducible refine Below.setCell ?_ ?_ _) | (with_reducible refine belowStep (by assumption) ?_ ?_) | (with_reducible exact Below.size (by assumption)) | go_size))⟩
      case round =>
        obtain ⟨j, hj, rfl, ho, hbr⟩ := hrel
        by_cases hlt : j < xs.length
        · obtain ⟨b, o, x, rfl, hb, hxj, hcell⟩ := (Hxs.out.below hbr).at_ hlt
          obtain ⟨x1, x2⟩ := Hsm.out x (List.mem_of_getElem? hxj)
          have p1 := mul_bounds (by omega : 0 ≤ x) x2 (by omega : 0 ≤ k) h2
          have hzj : zs[j]? = some (x * k) := by rw [← Hz.out, List.getElem?_map, hxj, Int.mul_comm]; rfl
          have Ho := Lib.hid ho
          have Hzj := Lib.hid hzj
          have hsz := hbr.size
          clear ho hzj hxj
          go_wp2_with (at_builtin; refine wpList_app _ rfl _ _ rfl rfl (Ho.out.below ((Below.refl _ _).alloc (Nat.le_refl _) _)) 1 1 rfl rfl (Reads.one wr (x * k)) (by rw [List.length_take]; simp; omega) (by simp; omega) ?_; intro v' w3 ho3 hb3 _ _)
          go_roundw
          case rel => exact ⟨j + 1, by omega, by go_num, by rw [take_next Hzj.out]; exact ho3, by (repeat' (first | (with_reducible exact Below.refl _ _) | (with_reducible assumption) | (with_reducible refine Below.drew ?_) | (with_reducible refine belowDrewN ?_ _) | (with_reducible refine Below.alloc ?_ ?_ _) | (with_reducible refine Below.setCell ?_ ?_ _) | (with_reducible refine belowStep (by assumption) ?_ ?_) | (with_reducible exact Below.size (by assumption)) | go_size))⟩
          case measure => simp [intOf]; omega
        · obtain rfl : j = xs.length := by omega
          rw [show zs.take xs.length = zs by rw [← Hlm.out, List.take_length]] at ho
          obtain ⟨A6, c6, rfl, hr6⟩ := ho.form
          have Hr := Lib.hid hr6
          clear ho hr6
          cases hz : expB zs with
          | true =>
            have E2 : Hid (scaleB xs k = true) := by show scaleB xs k = true; rw [HS.out, hz]
            have E1 : Hid (scaleL xs k = zs) := by show scaleL xs k = zs; rw [scaleL, E2.out, if_pos rfl, Hz.out]
            go_wp2_with fail
            refine (unList_yes _ _ _ _ Hr.out (by rw [Hlm.out]; exact lxs) hz).mono ?_; rintro e w3 ⟨rfl, hb3⟩
            go_wp2
            go_ret2
            rw [E1.out, E2.out]
            exact ⟨_, _, rfl, Hr.out.below hb3, by (repeat' (first | (with_reducible exact Below.refl _ _) | (with_reducible assumption) | (with_reducible refine Below.drew ?_) | (with_reducible refine belowDrewN ?_ _) | (with_reducible refine Below.alloc ?_ ?_ _) | (with_reducible refine Below.setCell ?_ ?_ _) | (with_reducible refine belowStep (by assumption) ?_ ?_) | (with_reducible exact Below.size (by assumption)) | go_size))⟩
          | false =>
            have E2 : Hid (scaleB xs k = false) := by show scaleB xs k = false; rw [HS.out, hz]
            have E1 := Lib.hid (scale_no E2.out)
            go_wp2_with fail
            refine (unList_no _ _ _ _ Hr.out (by rw [Hlm.out]; exact lxs) hz).mono ?_; rintro e w3 ⟨rfl, hb3⟩
            go_wp2
            go_ret2
            rw [E1.out, E2.out]
            exact ret_rnil (by (repeat' (first | (with_reducible exact Below.refl _ _) | (with_reducible assumption) | (with_reducible refine Below.drew ?_) | (with_reducible refine belowDrewN ?_ _) | (with_reducible refine Below.alloc ?_ ?_ _) | (with_reducible refine Below.setCell ?_ ?_ _) | (with_reducible refine belowStep (by assumption) ?_ ?_) | (with_reducible exact Below.size (by assumption)) | go_size)))
    · have hs := scale_out (xs := xs) hk
      rw [scale_no hs, hs]
      go_enter Try.func69, Try.ntmps69
      go_wp2_with fail
      refine (unExpansion_any _ _ _ _ Hxs.out lxs).mono ?_; rintro e w1 ⟨rfl, hb1⟩
      go_wp2_with fail
      refine (l1In_no _ _ _ _ hk).mono ?_; rintro e w2 ⟨rfl, k2, rfl⟩
      go_wp2
      go_ret2
      exact ret_rnil (by (repeat' (first | (with_reducible exact Below.refl _ _) | (with_reducible assumption) | (with_reducible refine Below.drew ?_) | (with_reducible refine belowDrewN ?_ _) | (with_reducible refine Below.alloc ?_ ?_ _) | (with_reducible refine Below.setCell ?_ ?_ _) | (with_reducible refine belowStep (by assumption) ?_ ?_) | (with_reducible exact Below.size (by assumption)) | go_size)))
end Go.Proofs.Ythkchhjidihkpab


/-
  The contract of the quotients by divisors in the program.
-/
namespace Go.Proofs.Ythkchhjidihkpab
open Go.RowKit
theorem mk_ownQ {w1 : World} {base n : Nat} {v : Value} (h : w1.ownsRow base 3 1 v n (madeCells (Value.int .i64 0).cells (n * 1)).toList) : OwnI w1 base v (List.replicate n 0) := by
  unfold OwnI
  rw [List.map_replicate, List.length_replicate]
  rw [show (Value.int IntKind.i64 0).cells = #[Value.int IntKind.i64 0] from rfl, Nat.mul_one, toList_madeCells_one] at h
  exact h
set_option maxRecDepth 100000 in
set_option maxHeartbeats 4000000 in
theorem quotientsOf_any (w : World) (n : Int) (h0 : 0 ≤ n) (hn : n ≤ 4611686018427387904) (Ads : Option Addr) (cds : Nat) (ds : List Int) (hds : Reads w Ads ds) (lds : ds.length ≤ 1048576) (r64 : In64 ds) : Calls Try.prog 83 #[.int .i64 n, .slice Ads ds.length cds] w (RetLB (qR n ds) (qB n ds) w) := by
  obtain ⟨i0, hi, hj0, hj1, hj2⟩ := info_parts intInfo
  have Hds := Lib.hid hds
  have H64 := Lib.hid r64
  have hql := qL_len n ds
  have HQ := Lib.hid hql
  clear hds r64 hql
  go_enter Try.func83, Try.ntmps83
  go_wp2_with (at_make; refine wpList_make_full _ rfl _ _ 22 rfl w.heap.size 3 i0 (.int .i64 0) 1 Try.underlying22 hi hj0 hj1 .i64 .i64 _ _ ds.length rfl rfl rfl rfl (by rw [hj2]; omega) (by unfold maxLen; omega) (Nat.le_refl _) ?_; intro w4 hown4 hgrow4; have hown := mk_ownQ hown4; have hb4 : Below w.heap.size w w4 := (Below.refl _ _).grown hgrow4 (Nat.le_refl _) (by simp); have hz4 := hb4.size; clear hown4 hgrow4)
  have hf0 : OwnI w4 w.heap.size (.slice (some ⟨w.heap.size, 0, none⟩) ds.length ds.length) (filled (qL n ds) 0) := by
    rw [filled_none, HQ.out]
    exact hown
  have HF0 := Lib.hid hf0
  clear hown hf0
  go_loopw [14] (fun vk wr => ∃ k : Nat, k ≤ ds.length ∧ vk = .int .i64 (k : Int) ∧ Hid (qB n (ds.take k) = true) ∧ OwnI wr w.heap.size (.slice (some ⟨w.heap.size, 0, none⟩) ds.length ds.length) (filled (qL n ds) k) ∧ Below w.heap.size w wr) (fun vk _ => ds.length - (intOf vk).toNat)
  case atStart => exact ⟨0, Nat.zero_le _, rfl, Lib.hid rfl, HF0.out, by (repeat' (first | (with_reducible exact Below.refl _ _) | (with_reducible assumption) | (with_reducible refine Below.drew ?_) | (with_reducible refine belowDrewN ?_ _) | (with_reducible refine Below.alloc ?_ ?_ _) | (with_reducible refine Below.setCell ?_ ?_ _) | (with_reducible refine belowStep (by assumption) ?_ ?_) | (with_reducible exact Below.size (by assumption)) | go_size))⟩
  case round =>
    obtain ⟨k, hk, rfl, HB, ho, hbr⟩ := hrel
    have hzr := hbr.size
    have Ho := Lib.hid ho
    clear ho HF0
    by_cases hlt : k < ds.length
    · obtain ⟨b9, o9, d, rfl, hbb, hx, hcell⟩ := (Hds.out.below hbr).at_ hlt
      obtain ⟨x1, x2⟩ := H64.out k d hx
      have Hx := Lib.hid hx
      clear hx
      by_cases h1 : 1 ≤ d
      · have hd1 : ¬ d < 1 := by omega
        have hdn : d ≠ 0 := by omega
        have ht1 : n.tdiv d = n / d := Int.tdiv_eq_ediv_of_nonneg h0
        have ht2 : n.tmod d = n % d := Int.tmod_eq_emod_of_nonneg h0
        have hq1 := Int.ediv_le_self d h0
        have hq2 := Int.ediv_nonneg h0 (show 0 ≤ d by omega)
        have hr1 := Int.emod_nonneg n hdn
        have hr2 := Int.emod_lt_of_pos n (show 0 < d by omega)
        by_cases hm : n % d = 0
        · have hat := qL_at (n := n) Hx.out
          obtain ⟨hC, hF⟩ := Ho.out.cell_ (by rw [filled_len _ _ (by rw [HQ.out]; omega), HQ.out]) (filled_at (qL n ds) k (by rw [HQ.out]; exact hlt))
          have HS9 := Lib.hid (show OwnI (wr.setCell ⟨w.heap.size, k, none⟩ (.int .i64 (n / d))) w.heap.size (.slice (some ⟨w.heap.size, 0, none⟩) ds.length ds.length) (filled (qL n ds) (k + 1)) from by rw [← filled_set _ _ _ hat]; exact Ho.out.set_ (by rw [filled_len _ _ (by rw [HQ.out]; omega), HQ.out]) k _)
          have HB2 : Hid (qB n (ds.take (k + 1)) = true) := Lib.hid (by
            refine qB_of fun y hy => ?_
            rw [List.take_add_one, Hx.out] at hy
            rcases List.mem_append.1 hy with hy | hy
            · exact qB_mem HB.out hy
            · obtain rfl : y = d := by simpa using hy
              exact ⟨h1, hm⟩)
          have hmb : (n % d != 0) = false := by simp [hm]
          rw [hm] at ht2 hr1 hr2
          clear hat hm hmb
          generalize n / d = q at *
          go_wp2
          go_roundw
          case rel => exact ⟨k + 1, by omega, by go_num, HB2, HS9.out, by (repeat' (first | (with_reducible exact Below.refl _ _) | (with_reducible assumption) | (with_reducible refine Below.drew ?_) | (with_reducible refine belowDrewN ?_ _) | (with_reducible refine Below.alloc ?_ ?_ _) | (with_reducible refine Below.setCell ?_ ?_ _) | (with_reducible refine belowStep (by assumption) ?_ ?_) | (with_reducible exact Below.size (by assumption)) | go_size))⟩
          case measure => simp [intOf]; omega
        · have E : Hid (qB n ds = false) := Lib.hid (qB_no Hx.out (fun e => hm e.2))
          generalize n % d = r at *
          have hmb : (r != 0) = true := by simp [hm]
          go_wp2
          go_ret2
          rw [E.out, qR_no E.out]
          exact ⟨_, rfl, OwnI.empty _ _, by (repeat' (first | (with_reducible exact Below.refl _ _) | (with_reducible assumption) | (with_reducible refine Below.drew ?_) | (with_reducible refine belowDrewN ?_ _) | (with_reducible refine Below.alloc ?_ ?_ _) | (with_reducible refine Below.setCell ?_ ?_ _) | (with_reducible refine belowStep (by assumption) ?_ ?_) | (with_reducible exact Below.size (by assumption)) | go_size))⟩
      · have hd1 : d < 1 := by omega
        have E : Hid (qB n ds = false) := Lib.hid (qB_no Hx.out (fun e => h1 e.1))
        go_wp2
        go_ret2
        rw [E.out, qR_no E.out]
        exact ⟨_, rfl, OwnI.empty _ _, by (repeat' (first | (with_reducible exact Below.refl _ _) | (with_reducible assumption) | (with_reducible refine Below.drew ?_) | (with_reducible refine belowDrewN ?_ _) | (with_reducible refine Below.alloc ?_ ?_ _) | (with_reducible refine Below.setCell ?_ ?_ _) | (with_reducible refine belowStep (by assumption) ?_ ?_) | (with_reducible exact Below.size (by assumption)) | go_size))⟩
    · obtain rfl : k = ds.length := by omega
      have E : Hid (qB n ds = true) := Lib.hid (by have := HB.out; rwa [List.take_length] at this)
      have ho := Ho.out
      rw [show ds.length = (qL n ds).length from HQ.out.symm, filled_all] at ho
      have O7 := Lib.hid ho
      clear Ho ho
      go_wp2
      go_ret2
      rw [E.out, qR_yes E.out]
      exact ⟨_, rfl, by rw [HQ.out] at O7; exact O7.out, by (repeat' (first | (with_reducible exact Below.refl _ _) | (with_reducible assumption) | (with_reducible refine Below.drew ?_) | (with_reducible refine belowDrewN ?_ _) | (with_reducible refine Below.alloc ?_ ?_ _) | (with_reducible refine Below.setCell ?_ ?_ _) | (with_reducible refine belowStep (by assumption) ?_ ?_) | (with_reducible exact Below.size (by assumption)) | go_size))⟩
end Go.Proofs.Ythkchhjidihkpab


/-
  The expansions of two parts of a number that are made of a base, in the program and in the model.
-/
namespace Go.Proofs.Ythkchhjidihkpab
open Go.RowKit
set_option maxRecDepth 100000 in
set_option maxHeartbeats 4000000 in
theorem twoOverBy_any (n m : Int) (w : World) (n1 : 1 ≤ n) (n2 : n ≤ 201) (m1 : 0 ≤ m) (m2 : m ≤ 201) : Calls Try.prog 56 #[.int .i64 n, .int .i64 m] w (RetLB ((toO n m).getD []) (toO n m).isSome w) := by
  have HD := Lib.hid fun (w : World) => divisorsFor_any m (2 * m - n) w
  have p1 := mul_bounds m1 (show m ≤ 1000000000 by omega) (show 0 ≤ n by omega) (show n ≤ 1000000000 by omega)
  cases hd : dfO m (2 * m - n) with
  | none =>
    have E := Lib.hid (toO_none hd)
    rw [hd] at HD
    clear hd
    rw [E.out]
    go_enter Try.func56, Try.ntmps56
    go_wp2_with fail
    refine (HD.out _).mono ?_; rintro e w1 ⟨v1, rfl, ho1, hb1⟩; have hz1 := hb1.size; (try simp only [World.size_alloc, World.size_setCell, World.size_drew, World.heap_drewN] at hz1)
    go_wp2
    go_ret2
    exact ⟨_, rfl, OwnI.empty _ _, by (repeat' (first | (with_reducible exact Below.refl _ _) | (with_reducible assumption) | (with_reducible refine Below.drew ?_) | (with_reducible refine belowDrewN ?_ _) | (with_reducible refine Below.alloc ?_ ?_ _) | (with_reducible refine Below.setCell ?_ ?_ _) | (with_reducible refine belowStep (by assumption) ?_ ?_) | (with_reducible exact Below.size (by assumption)) | go_size))⟩
  | some l =>
    have E := Lib.hid (toO_some hd)
    obtain ⟨d1, d2, d3, d4, d5, d6⟩ := two_divs n1 m2 hd
    rw [hd, Option.getD_some, Option.isSome_some] at HD
    have hqb := qB_of d1
    have hll : (ints l).length ≤ 20 := by rw [ints_len]; exact d3
    have HQ : Hid (∀ w A c, Reads w A (ints l) → Calls Try.prog 83 #[.int .i64 (m * n), .slice A (ints l).length c] w (RetLB (toQ n m l) true w)) := Lib.hid fun w A c h => by
      have := quotientsOf_any w (m * n) p1.1 (by omega) A c (ints l) h (by omega) (In64.of_mem fun x hx => by have h1 := d1 x hx; have h2 := d5 x hx; omega)
      rwa [qR_yes hqb, hqb] at this
    have hql : (toQ n m l).length ≤ 20 := by unfold toQ; rw [qL_len]; exact hll
    have H64 := Lib.hid (qL_64 (n := m * n) (ds := ints l) p1.1 (by omega) (fun d hd => (d1 d hd).1))
    obtain ⟨e1, e2⟩ := into_one (m := m) d2
    have HP : Hid (∀ w A c B c2, Reads w A (toQ n m l) → (toQ n m l).length ≤ c → Reads w B [m] → Calls Try.prog 102 #[.slice A (toQ n m l).length c, .slice B 1 c2] w (RetLB ((toO n m).getD []) (toO n m).isSome w)) := Lib.hid fun w A c B c2 h hc h2 => by
      have := putInto_any w A c (toQ n m l) h (by omega) B c2 [m] h2 (by simp) hc d2 H64.out (In64.of_mem (by simp; omega)) (by omega) (by simp) (by simp)
      rw [e1, e2] at this
      rw [E.out]
      by_cases hh : hasB (toQ n m l) m = false ∧ expB (putL (toQ n m l) m) = true
      · rw [if_pos hh] at this ⊢
        rw [hh.1, hh.2] at this
        exact this
      · rw [if_neg hh] at this ⊢
        have hx : (decide (hasB (toQ n m l) m = false) && expB (putL (toQ n m l) m)) = false := by
          cases ha : hasB (toQ n m l) m with
          | true => rfl
          | false =>
            cases hb : expB (putL (toQ n m l) m) with
            | false => rfl
            | true => exact absurd ⟨ha, hb⟩ hh
        rw [hx] at this
        exact this
    clear hd E e1 e2 hqb d1 d2 d5 d6 H64
    generalize toO n m = o at *
    generalize toQ n m l = q at *
    generalize ints l = ds at *
    go_enter Try.func56, Try.ntmps56
    go_wp2_with fail
    refine (HD.out _).mono ?_; rintro e w1 ⟨v1, rfl, ho1, hb1⟩; have hz1 := hb1.size; (try simp only [World.size_alloc, World.size_setCell, World.size_drew, World.heap_drewN] at hz1)
    obtain ⟨A1, c1, rfl, hr1⟩ := ho1.form
    go_wp2_with fail
    refine (HQ.out _ _ _ hr1).mono ?_; rintro e w2 ⟨v2, rfl, ho2, hb2⟩; have hz2 := hb2.size; (try simp only [World.size_alloc, World.size_setCell, World.size_drew, World.heap_drewN] at hz2)
    obtain ⟨A2, c2, rfl, hr2⟩ := ho2.form
    have hc2 := ho2.cap_
    go_wp2_with fail
    refine (HP.out _ _ _ _ _ (hr2.below (by (repeat' (first | (with_reducible exact Below.refl _ _) | (with_reducible assumption) | (with_reducible refine Below.drew ?_) | (with_reducible refine belowDrewN ?_ _) | (with_reducible refine Below.alloc ?_ ?_ _) | (with_reducible refine Below.setCell ?_ ?_ _) | (with_reducible refine belowStep (by assumption) ?_ ?_) | (with_reducible exact Below.size (by assumption)) | go_size)))) hc2 (Reads.one _ m)).mono ?_; rintro e w3 ⟨v3, rfl, ho3, hb3⟩; have hz3 := hb3.size; (try simp only [World.size_alloc] at hz3)
    go_wp2
    go_ret2
    exact ⟨_, rfl, ho3.mono (by (first | (go_size; done) | ((try simp only [World.size_alloc, World.size_setCell, World.size_drew, World.heap_drewN]); omega))), by (repeat' (first | (with_reducible exact Below.refl _ _) | (with_reducible assumption) | (with_reducible refine Below.drew ?_) | (with_reducible refine belowDrewN ?_ _) | (with_reducible refine Below.alloc ?_ ?_ _) | (with_reducible refine Below.setCell ?_ ?_ _) | (with_reducible refine belowStep (by assumption) ?_ ?_) | (with_reducible exact Below.size (by assumption)) | go_size))⟩
end Go.Proofs.Ythkchhjidihkpab


/-
  The expansions of two parts of a number that are made of a base, in the model.
-/
namespace Go.Proofs.Ythkchhjidihkpab
open Go.RowKit
theorem toQ_at {n m : Int} {l : List Nat} {k : Nat} {d : Int} (h : (ints l)[k]? = some d) : (toQ n m l).take (k + 1) = (toQ n m l).take k ++ [m * n / d] := by
  have h2 : (toQ n m l)[k]? = some (m * n / d) := qL_at h
  rw [List.take_add_one, h2]
  rfl
set_option maxRecDepth 100000 in
set_option maxHeartbeats 4000000 in
theorem scTwo_any (n m : Int) (w : World) (n1 : 1 ≤ n) (n2 : n ≤ 201) (m1 : 1 ≤ m) (m2 : m ≤ 201) (hs : 0 ≤ 2 * m - n) : Calls Try.prog 55 #[.int .i64 n, .int .i64 m] w (RetRB ((toO n m).getD []) (toO n m).isSome w) := by
  obtain ⟨M, rfl⟩ := Int.eq_ofNat_of_zero_le (show 0 ≤ m by omega)
  obtain ⟨S, hS⟩ := Int.eq_ofNat_of_zero_le hs
  have hM : M ≤ 2000 := by omega
  have hnb : numB (M : Int) = true := numB_of (by omega) hM
  have hsb : askB (S : Int) = true := (askB_iff _).2 ⟨by omega, by omega⟩
  have HDV := Lib.hid fun (w : World) => prDivisors_any M w hM
  have HW : Hid (∀ w A c, Reads w A (ints (asc M M)) → (ints (asc M M)).length ≤ c → Calls Try.prog 99 #[.slice A (ints (asc M M)).length c, .int .i64 (2 * (M : Int) - n)] w (RetLB (ints (pick (dsc M M) S)) (decide (0 < ways (dsc M M) S)) w)) := Lib.hid fun w A c h hc => by
    have := prFor_any (asc M M) S w A c h (asc_small hM) (by have := asc_len M M; omega) (by rw [← ints_len]; exact hc) (by omega)
    rwa [show (asc M M).reverse = dsc M M from by unfold asc; exact List.reverse_reverse _, ← ints_len, ← hS] at this
  have p1 := mul_bounds (show 0 ≤ (M : Int) by omega) (show (M : Int) ≤ 1000000000 by omega) (show 0 ≤ n by omega) (show n ≤ 1000000000 by omega)
  by_cases hw : 0 < ways (dsc M M) S
  · have hd : dfO (M : Int) (2 * (M : Int) - n) = some (pick (dsc M M) S) := by rw [hS]; exact dfO_yes hnb hsb hw
    have E := Lib.hid (toO_some hd)
    obtain ⟨d1, d2, d3, d4, d5, d6⟩ := two_divs n1 m2 hd
    rw [decide_eq_true hw] at HW
    have hll : (ints (pick (dsc M M) S)).length ≤ 20 := by rw [ints_len]; exact d3
    have hql : (toQ n (M : Int) (pick (dsc M M) S)).length ≤ 20 := by unfold toQ; rw [qL_len]; exact hll
    have HQL : Hid ((toQ n (M : Int) (pick (dsc M M) S)).length = (ints (pick (dsc M M) S)).length) := Lib.hid (by unfold toQ; rw [qL_len])
    have HD1 := Lib.hid d1
    have HPT := Lib.hid (put_two (m := (M : Int)) d2)
    have HTA := Lib.hid fun k d (h : (ints (pick (dsc M M) S))[k]? = some d) => toQ_at (n := n) (m := (M : Int)) h
    clear hd hw d1 d2 d3 d4 d5 d6 hsb hnb hS
    generalize toO n (M : Int) = o at *
    generalize toQ n (M : Int) (pick (dsc M M) S) = q at *
    generalize ints (pick (dsc M M) S) = ds at *
    generalize ints (asc M M) = asl at *
    go_enter Try.func55, Try.ntmps55
    go_wp2_with fail
    refine (HDV.out _).mono ?_; rintro e w1 ⟨v1, rfl, ho1, hb1⟩; have hz1 := hb1.size; (try simp only [World.size_alloc, World.size_setCell, World.size_drew, World.heap_drewN] at hz1)
    obtain ⟨A1, c1, rfl, hr1⟩ := ho1.form
    have hc1 := ho1.cap_
    go_wp2_with fail
    refine (HW.out _ _ _ hr1 hc1).mono ?_; rintro e w2 ⟨v2, rfl, ho2, hb2⟩; have hz2 := hb2.size; (try simp only [World.size_alloc, World.size_setCell, World.size_drew, World.heap_drewN] at hz2)
    obtain ⟨A2, c2, rfl, hr2⟩ := ho2.form
    have R2 := Lib.hid hr2
    have hbw : Below w.heap.size w w2 := by (repeat' (first | (with_reducible exact Below.refl _ _) | (with_reducible assumption) | (with_reducible refine Below.drew ?_) | (with_reducible refine belowDrewN ?_ _) | (with_reducible refine Below.alloc ?_ ?_ _) | (with_reducible refine Below.setCell ?_ ?_ _) | (with_reducible refine belowStep (by assumption) ?_ ?_) | (with_reducible exact Below.size (by assumption)) | go_size))
    clear ho1 ho2 hr1 hr2 hc1
    go_wp2
    go_loopw [8, 27] (fun v8 v27 wr => ∃ (k : Nat) (zs : List Int) (A : Option Addr) (c : Nat), k ≤ ds.length ∧ v27 = .int .i64 (k : Int) ∧ v8 = .slice A zs.length c ∧ zs.length ≤ c ∧ zs.length ≤ 1 + k ∧ Hid (zs = putAll [(M : Int)] (q.take k)) ∧ Reads wr A zs ∧ Below w2.heap.size w2 wr) (fun _ v27 _ => ds.length - (intOf v27).toNat)
    case atStart => exact ⟨0, [(M : Int)], _, _, Nat.zero_le _, rfl, rfl, Nat.le_refl _, by simp, Lib.hid rfl, Reads.one _ _, by (repeat' (first | (with_reducible exact Below.refl _ _) | (with_reducible assumption) | (with_reducible refine Below.drew ?_) | (with_reducible refine belowDrewN ?_ _) | (with_reducible refine Below.alloc ?_ ?_ _) | (with_reducible refine Below.setCell ?_ ?_ _) | (with_reducible refine belowStep (by assumption) ?_ ?_) | (with_reducible exact Below.size (by assumption)) | go_size))⟩
    case round =>
      obtain ⟨k, zs, A, c, hk, rfl, rfl, hzc, hz1, HZ, hr, hbr⟩ := hrel
      have hzr := hbr.size
      have Hr := Lib.hid hr
      clear hr
      by_cases hlt : k < ds.length
      · obtain ⟨b9, o9, d, rfl, hbb, hx, hcell⟩ := (R2.out.below hbr).at_ hlt
        obtain ⟨x1, x2⟩ := HD1.out d (List.mem_of_getElem? hx)
        have HT := Lib.hid (HTA.out k d hx)
        clear hx
        have hdn : d ≠ 0 := by omega
        have ht1 : ((M : Int) * n).tdiv d = (M : Int) * n / d := Int.tdiv_eq_ediv_of_nonneg p1.1
        have hq1 := Int.ediv_le_self d p1.1
        have hq2 := Int.ediv_nonneg p1.1 (show 0 ≤ d by omega)
        have HZ2 : Hid (putL zs ((M : Int) * n / d) = putAll [(M : Int)] (q.take (k + 1))) := Lib.hid (by rw [HT.out, putAll_snoc, HZ.out])
        have hl16 := put_len zs ((M : Int) * n / d)
        clear x2 HZ
        generalize (M : Int) * n / d = qd at *
        go_wp2_with fail
        refine (l1Put_any _ _ _ _ _ Hr.out (by omega) hzc).mono ?_; rintro e w16 ⟨A16, c16, rfl, hc16, hr16, hb16⟩; have hz16 := hb16.size; (try simp only [World.size_alloc, World.size_setCell, World.size_drew, World.heap_drewN] at hz16)
        have hl17 : (putL zs qd).length ≤ 1 + (k + 1) := by omega
        clear hl16
        generalize putL zs qd = us at *
        go_wp2
        go_roundw
        case rel => exact ⟨k + 1, us, A16, c16, by omega, by go_num, rfl, hc16, hl17, HZ2, hr16, by (repeat' (first | (with_reducible exact Below.refl _ _) | (with_reducible assumption) | (with_reducible refine Below.drew ?_) | (with_reducible refine belowDrewN ?_ _) | (with_reducible refine Below.alloc ?_ ?_ _) | (with_reducible refine Below.setCell ?_ ?_ _) | (with_reducible refine belowStep (by assumption) ?_ ?_) | (with_reducible exact Below.size (by assumption)) | go_size))⟩
        case measure => simp [intOf]; omega
      · obtain rfl : k = ds.length := by omega
        have HZ3 : Hid (zs = putAll [(M : Int)] q) := Lib.hid (by have := HZ.out; rwa [← HQL.out, List.take_length] at this)
        obtain ⟨t1, t2⟩ := HPT.out
        cases hh : hasB q (M : Int) with
        | false =>
          obtain ⟨u1, u2⟩ := t1 hh
          have hlen : zs.length = ds.length + 1 := by rw [HZ3.out, u1, HQL.out]
          have hs2 : zs = putL q (M : Int) := by rw [HZ3.out, u2]
          have hne : ((zs.length : Int) != (ds.length : Int) + 1) = false := by rw [hlen]; simp
          rw [hh, ← hs2] at E
          clear t1 t2 u1 u2 hs2 HZ HZ3 HPT hh hlen
          cases he : expB zs with
          | true =>
            have E2 : Hid (o = some zs) := Lib.hid (by rw [E.out, if_pos ⟨rfl, he⟩])
            go_wp2_with fail
            refine (unList_yes _ _ _ _ Hr.out (by omega) he).mono ?_; rintro e w17 ⟨rfl, hb17⟩; have hz17 := hb17.size; (try simp only [World.size_alloc, World.size_setCell, World.size_drew, World.heap_drewN] at hz17)
            go_wp2
            go_ret2
            rw [E2.out]
            exact ⟨_, _, rfl, Hr.out.below hb17, by (repeat' (first | (with_reducible exact Below.refl _ _) | (with_reducible assumption) | (with_reducible refine Below.drew ?_) | (with_reducible refine belowDrewN ?_ _) | (with_reducible refine Below.alloc ?_ ?_ _) | (with_reducible refine Below.setCell ?_ ?_ _) | (with_reducible refine belowStep (by assumption) ?_ ?_) | (with_reducible exact Below.size (by assumption)) | go_size))⟩
          | false =>
            have E2 : Hid (o = none) := Lib.hid (by rw [E.out, if_neg (fun h => by rw [he] at h; cases h.2)])
            go_wp2_with fail
            refine (unList_no _ _ _ _ Hr.out (by omega) he).mono ?_; rintro e w17 ⟨rfl, hb17⟩; have hz17 := hb17.size; (try simp only [World.size_alloc, World.size_setCell, World.size_drew, World.heap_drewN] at hz17)
            go_wp2
            go_ret2
            rw [E2.out]
            exact ⟨none, 0, rfl, Reads.nil, by (repeat' (first | (with_reducible exact Below.refl _ _) | (with_reducible assumption) | (with_reducible refine Below.drew ?_) | (with_reducible refine belowDrewN ?_ _) | (with_reducible refine Below.alloc ?_ ?_ _) | (with_reducible refine Below.setCell ?_ ?_ _) | (with_reducible refine belowStep (by assumption) ?_ ?_) | (with_reducible exact Below.size (by assumption)) | go_size))⟩
        | true =>
          have u1 := t2 hh
          have E2 : Hid (o = none) := Lib.hid (by rw [E.out, if_neg (fun h => by rw [hh] at h; cases h.1)])
          have hlen : ¬ zs.length = ds.length + 1 := by rw [HZ3.out, ← HQL.out]; exact u1
          have hne : ((zs.length : Int) != (ds.length : Int) + 1) = true := by simp; omega
          clear t1 t2 u1 HZ HZ3 HPT hh hlen
          go_wp2
          go_ret2
          rw [E2.out]
          exact ⟨none, 0, rfl, Reads.nil, by (repeat' (first | (with_reducible exact Below.refl _ _) | (with_reducible assumption) | (with_reducible refine Below.drew ?_) | (with_reducible refine belowDrewN ?_ _) | (with_reducible refine Below.alloc ?_ ?_ _) | (with_reducible refine Below.setCell ?_ ?_ _) | (with_reducible refine belowStep (by assumption) ?_ ?_) | (with_reducible exact Below.size (by assumption)) | go_size))⟩
  · have hd : dfO (M : Int) (2 * (M : Int) - n) = none := by rw [hS]; exact dfO_no hw
    have E := Lib.hid (toO_none hd)
    rw [decide_eq_false hw] at HW
    clear hd hw hsb hnb hS
    rw [E.out]
    generalize ints (pick (dsc M M) S) = ds at *
    generalize ints (asc M M) = asl at *
    go_enter Try.func55, Try.ntmps55
    go_wp2_with fail
    refine (HDV.out _).mono ?_; rintro e w1 ⟨v1, rfl, ho1, hb1⟩; have hz1 := hb1.size; (try simp only [World.size_alloc, World.size_setCell, World.size_drew, World.heap_drewN] at hz1)
    obtain ⟨A1, c1, rfl, hr1⟩ := ho1.form
    have hc1 := ho1.cap_
    go_wp2_with fail
    refine (HW.out _ _ _ hr1 hc1).mono ?_; rintro e w2 ⟨v2, rfl, ho2, hb2⟩; have hz2 := hb2.size; (try simp only [World.size_alloc, World.size_setCell, World.size_drew, World.heap_drewN] at hz2)
    go_wp2
    go_ret2
    exact ⟨none, 0, rfl, Reads.nil, by (repeat' (first | (with_reducible exact Below.refl _ _) | (with_reducible assumption) | (with_reducible refine Below.drew ?_) | (with_reducible refine belowDrewN ?_ _) | (with_reducible refine Below.alloc ?_ ?_ _) | (with_reducible refine Below.setCell ?_ ?_ _) | (with_reducible refine belowStep (by assumption) ?_ ?_) | (with_reducible exact Below.size (by assumption)) | go_size))⟩
end Go.Proofs.Ythkchhjidihkpab
