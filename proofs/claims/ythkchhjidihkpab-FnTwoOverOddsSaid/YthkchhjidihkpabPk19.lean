import Derived.Shelf.Small.Bits
import Derived.Shelf.Small.Wraps
import Derived.Shelf.Strconv.Itoa0
import Derived.Shelf.Sort.Plain
import Derived.Shelf.Slices.Turned
import Derived.Ground.Names2Prog
import Derived.Shelf.Slices.Clone
import Derived.Shelf.Slices.SearchI
import Derived.Shelf.Slices.In.SortNone
import Derived.Shelf.Slices.Empties
import Derived.Ground.SlgnProg
import Derived.Shelf.SlicesE.Clone
import Derived.Test.YthkchhjidihkpabProg
import Derived.Test.YthkchhjidihkpabPk18
/-
  Contracts of library functions at this program, one application each.
-/
namespace Go.Proofs
open Go.Shelf
def Try.lays189_ren : Go.Shelf.Ren := ⟨fun | 189 => 73 | 125 => 116 | 257 => 115 | 128 => 149 | 129 => 150 | 294 => 140 | 295 => 141 | 296 => 142 | 297 => 143 | 298 => 144 | 299 => 145 | 216 => 146 | 300 => 147 | 301 => 148 | 328 => 162 | 329 => 163 | 330 => 164 | 331 => 165 | 332 => 166 | 215 => 167 | 343 => 172 | n => n, fun | 28 => 22 | 3 => 3 | 46 => 96 | 0 => 0 | 51 => 126 | 53 => 68 | 4 => 4 | 183 => 120 | 182 => 119 | 131 => 28 | 5 => 5 | 9 => 9 | 218 => 133 | 222 => 137 | 228 => 144 | 229 => 56 | n => n, fun | n => n⟩
theorem Try.lays189 : Go.Proofs.Lays.n189 Try.prog Try.lays189_ren := {
  mixed := by kernel_rfl
  f125 := Try.func116.trans (congrArg some (by kernel_rfl))
  f128 := Try.func149.trans (congrArg some (by kernel_rfl))
  f129 := Try.func150.trans (congrArg some (by kernel_rfl))
  f189 := Try.func73.trans (congrArg some (by kernel_rfl))
  f215 := Try.func167.trans (congrArg some (by kernel_rfl))
  f216 := Try.func146.trans (congrArg some (by kernel_rfl))
  f257 := Try.func115.trans (congrArg some (by kernel_rfl))
  f294 := Try.func140.trans (congrArg some (by kernel_rfl))
  f295 := Try.func141.trans (congrArg some (by kernel_rfl))
  f296 := Try.func142.trans (congrArg some (by kernel_rfl))
  f297 := Try.func143.trans (congrArg some (by kernel_rfl))
  f298 := Try.func144.trans (congrArg some (by kernel_rfl))
  f299 := Try.func145.trans (congrArg some (by kernel_rfl))
  f300 := Try.func147.trans (congrArg some (by kernel_rfl))
  f301 := Try.func148.trans (congrArg some (by kernel_rfl))
  f328 := Try.func162.trans (congrArg some (by kernel_rfl))
  f329 := Try.func163.trans (congrArg some (by kernel_rfl))
  f330 := Try.func164.trans (congrArg some (by kernel_rfl))
  f331 := Try.func165.trans (congrArg some (by kernel_rfl))
  f332 := Try.func166.trans (congrArg some (by kernel_rfl))
  f343 := Try.func172.trans (congrArg some (by kernel_rfl))
  t0 := Try.underlying0
  a0 := Try.isAgg0
  z0 := Try.sizeOf0
  v0 := Try.zeroValue0
  t3 := Try.underlying3
  a3 := Try.isAgg3
  z3 := Try.sizeOf3
  v3 := Try.zeroValue3
  t4 := Try.underlying4
  a4 := Try.isAgg4
  z4 := Try.sizeOf4
  v4 := Try.zeroValue4
  t5 := Try.underlying5
  a5 := Try.isAgg5
  z5 := Try.sizeOf5
  v5 := Try.zeroValue5
  t9 := Try.underlying9
  a9 := Try.isAgg9
  z9 := Try.sizeOf9
  v9 := Try.zeroValue9
  t28 := Try.underlying22
  a28 := Try.isAgg22
  z28 := Try.sizeOf22
  v28 := Try.zeroValue22
  t46 := Try.underlying96
  a46 := Try.isAgg96
  z46 := Try.sizeOf96
  v46 := Try.zeroValue96
  t51 := Try.underlying126
  a51 := Try.isAgg126
  z51 := Try.sizeOf126
  v51 := Try.zeroValue126
  t53 := Try.underlying68
  a53 := Try.isAgg68
  z53 := Try.sizeOf68
  v53 := Try.zeroValue68
  t131 := Try.underlying28
  a131 := Try.isAgg28
  z131 := Try.sizeOf28
  v131 := Try.zeroValue28
  t182 := Try.underlying119
  a182 := Try.isAgg119
  z182 := Try.sizeOf119
  v182 := Try.zeroValue119
  t183 := Try.underlying120
  a183 := Try.isAgg120
  z183 := Try.sizeOf120
  v183 := Try.zeroValue120
  t218 := Try.underlying133
  a218 := Try.isAgg133
  z218 := Try.sizeOf133
  v218 := Try.zeroValue133
  t222 := Try.underlying137
  a222 := Try.isAgg137
  z222 := Try.sizeOf137
  v222 := Try.zeroValue137
  t228 := Try.underlying144
  a228 := Try.isAgg144
  z228 := Try.sizeOf144
  v228 := Try.zeroValue144
  t229 := Try.underlying56
  a229 := Try.isAgg56
  z229 := Try.sizeOf56
  v229 := Try.zeroValue56 }
open Go.Sort Go.RowKit in
theorem Try.slices_Sort_int (blk off cap : Nat) (zs : List Int) (w : World) (hH : Holds (Value.int .i64) w blk off zs.toArray) (hblk : blk < w.heap.size) (hsz : zs.length < 4611686018427387904) :
    Calls Try.prog 73 #[.slice (some ⟨blk, off, none⟩) zs.length cap] w fun e w' =>
      e = .returned (.tuple #[]) ∧ ∃ n os, w' = grow (putRow (Value.int .i64) (Sort.ahead w n) blk off (zs.mergeSort fun x y => decide (x ≤ y)).toArray) os := Any.slices_Sort_int Try.lays189 blk off cap zs w hH hblk hsz
def Try.lays113_ren : Go.Shelf.Ren := ⟨fun | 113 => 103 | n => n, fun | 28 => 22 | 3 => 3 | 4 => 4 | 9 => 9 | 20 => 20 | 0 => 0 | n => n, fun | n => n⟩
theorem Try.lays113 : Go.Proofs.Lays.n113 Try.prog Try.lays113_ren := {
  mixed := by kernel_rfl
  f113 := Try.func103.trans (congrArg some (by kernel_rfl))
  t0 := Try.underlying0
  a0 := Try.isAgg0
  z0 := Try.sizeOf0
  v0 := Try.zeroValue0
  t3 := Try.underlying3
  a3 := Try.isAgg3
  z3 := Try.sizeOf3
  v3 := Try.zeroValue3
  t4 := Try.underlying4
  a4 := Try.isAgg4
  z4 := Try.sizeOf4
  v4 := Try.zeroValue4
  t9 := Try.underlying9
  a9 := Try.isAgg9
  z9 := Try.sizeOf9
  v9 := Try.zeroValue9
  t20 := Try.underlying20
  a20 := Try.isAgg20
  z20 := Try.sizeOf20
  v20 := Try.zeroValue20
  t28 := Try.underlying22
  a28 := Try.isAgg22
  z28 := Try.sizeOf22
  v28 := Try.zeroValue22 }
open Go.Lib in
theorem Try.slices_Max_int (b off n c : Nat) (zs : List Int) (w : World) (hn : 0 < n) (hz : n ≤ zs.length) (hbig : n ≤ 9223372036854775807) (hc : ∀ j, j < zs.length → w.cell? ⟨b, off + j, none⟩ = some (.int .i64 (zs.getD j 0))) :
    Calls Try.prog 103 #[.slice (some ⟨b, off, none⟩) n c] w fun e w' => e = .returned (.int .i64 (Lib.maxOf (zs.take n))) ∧ w' = w := Any.slices_Max_int Try.lays113 b off n c zs w hn hz hbig hc
end Go.Proofs


/-
  Which one of two lists is better, in the program.
-/
namespace Go.Proofs.Ythkchhjidihkpab
open Go.RowKit
theorem fold_last : ∀ (xs : List Int) (a : Int), (∀ x ∈ xs, a < x) → Rising xs → xs.foldl max a = xs.getLast?.getD a
  | [], _, _, _ => rfl
  | x :: xs, a, h, hr => by
    unfold Rising at hr
    rw [List.pairwise_cons] at hr
    have hx := h x (by simp)
    have ih := fold_last xs x hr.1 hr.2
    rw [List.foldl_cons, show max a x = x from by omega, ih, List.getLast?_cons]
    rfl
theorem maxOf_last {xs : List Int} (h : Rising xs) (h0 : 0 < xs.length) : Lib.maxOf xs = lastT xs := by
  cases xs with
  | nil => exact absurd h0 (by simp)
  | cons x xs =>
    unfold Rising at h
    rw [List.pairwise_cons] at h
    unfold Lib.maxOf lastT
    rw [List.headD_cons, List.foldl_cons, show max x x = x from by omega, fold_last xs x h.1 h.2, List.getLast?_cons]
    rfl
theorem less_eq {l m : List Int} (h : l.length = m.length) : lessL l m = decide (lastT l < lastT m) := by unfold lessL; rw [if_pos h]
theorem less_ne {l m : List Int} (h : ¬ l.length = m.length) : lessL l m = decide (l.length < m.length) := by unfold lessL; rw [if_neg h]
theorem toO_small {n m : Int} {l : List Int} (h : toO n m = some l) : -1000000000 ≤ lastT l ∧ lastT l ≤ 1000000000 ∧ 0 < l.length ∧ l.length ≤ 24 ∧ Rising l := by
  have he := toO_exp h
  have h0 := exp_ne h
  obtain ⟨a, ha⟩ : ∃ a, l.length = a + 1 := ⟨l.length - 1, by omega⟩
  obtain ⟨x, hx, hx2⟩ := last_of ha
  have := expB_small he x (List.mem_of_getElem? hx)
  rw [hx2]
  exact ⟨by omega, by omega, h0, expB_len he, expB_rising he⟩
set_option maxRecDepth 100000 in
set_option maxHeartbeats 2000000 in
theorem isBetter_any (w : World) (Axs : Option Addr) (cxs : Nat) (xs : List Int) (hxs : Reads w Axs xs) (lxs : xs.length ≤ 1048576) (Ays : Option Addr) (cys : Nat) (ys : List Int) (hys : Reads w Ays ys) (lys : ys.length ≤ 1048576) (x0 : 0 < xs.length) (y0 : 0 < ys.length) (rx : Rising xs) (ry : Rising ys) : Calls Try.prog 57 #[.slice Axs xs.length cxs, .slice Ays ys.length cys] w (RetQ (.bool (lessL xs ys)) w) := by
  have HMX : Hid (∀ (A : Option Addr) (c : Nat) (zs : List Int), Reads w A zs → 0 < zs.length → zs.length ≤ 1048576 → Rising zs → Calls Try.prog 103 #[.slice A zs.length c] w (fun e w' => e = .returned (.int .i64 (lastT zs)) ∧ w' = w)) := Lib.hid fun A c zs h h0 hl hr => by
    obtain ⟨b, o, rfl, hb, hc⟩ := h h0
    refine (Try.slices_Max_int b o zs.length c zs w h0 (Nat.le_refl _) (by omega) (fun j hj => ?_)).mono ?_
    · rw [hc j _ (List.getElem?_eq_getElem hj)]
      simp [List.getD, List.getElem?_eq_getElem hj]
    · rintro e w' ⟨rfl, rfl⟩
      rw [List.take_length, maxOf_last hr h0]
      exact ⟨rfl, rfl⟩
  have H1 := Lib.hid (HMX.out Axs cxs xs hxs x0 lxs rx)
  have H2 := Lib.hid (HMX.out Ays cys ys hys y0 lys ry)
  clear hxs hys rx ry HMX
  by_cases he : xs.length = ys.length
  · have E := Lib.hid (less_eq he)
    have hne : ((xs.length : Int) != (ys.length : Int)) = false := by rw [he]; simp
    clear he
    generalize lastT xs = a at *
    generalize lastT ys = b at *
    go_enter Try.func57, Try.ntmps57
    go_wp2_with fail
    refine H1.out.mono ?_; rintro e w1 ⟨rfl, rfl⟩
    go_wp2_with fail
    refine H2.out.mono ?_; rintro e w2 ⟨rfl, rfl⟩
    go_wp2
    go_ret
    exact ⟨ret_bool E.out.symm, 0, rfl⟩
  · have E := Lib.hid (less_ne he)
    have hne : ((xs.length : Int) != (ys.length : Int)) = true := by simp; omega
    have hd : decide ((xs.length : Int) < (ys.length : Int)) = decide (xs.length < ys.length) := by
      by_cases h : xs.length < ys.length
      · rw [decide_eq_true h, decide_eq_true (by omega)]
      · rw [decide_eq_false h, decide_eq_false (by omega)]
    have HD := Lib.hid hd
    clear he hd
    go_enter Try.func57, Try.ntmps57
    go_wp2
    go_ret
    exact ⟨ret_bool (by rw [E.out]), 0, rfl⟩
/-- the state of the search for the best base -/
def BsAt (b : Bst) (w : World) (vb vl : Value) : Prop := match b with
  | none => vb = .int .i64 0 ∧ vl = .slice none 0 0
  | some p => ∃ A c, vb = .int .i64 p.1 ∧ vl = .slice A p.2.length c ∧ Reads w A p.2
theorem bsF_next {n : Int} {k : Nat} : bsF n (k + 1) = bsStep n (bsF n k) (n / 2 + 1 + k) := rfl
end Go.Proofs.Ythkchhjidihkpab


/-
  The best base of two parts of an odd number, in the program.
-/
namespace Go.Proofs.Ythkchhjidihkpab
open Go.RowKit
set_option maxRecDepth 100000 in
set_option maxHeartbeats 8000000 in
theorem twoOverBase_any (n : Int) (w : World) (rn : -9223372036854775808 ≤ n ∧ n ≤ 9223372036854775807) : Calls Try.prog 19 #[.int .i64 n] w (Ret (.tuple #[.int .i64 ((baO n).getD 0), .bool (baO n).isSome]) w) := by
  by_cases h1 : 3 ≤ n
  · by_cases h2 : n ≤ 201
    · obtain ⟨N, rfl⟩ := Int.eq_ofNat_of_zero_le (show 0 ≤ n by omega)
      have ht : (N : Int).tdiv 2 = ((N / 2 : Nat) : Int) := by rw [Int.tdiv_eq_ediv_of_nonneg (by omega)]; omega
      have ht2 : (N : Int).tmod 2 = ((N % 2 : Nat) : Int) := by rw [Int.tmod_eq_emod_of_nonneg (by omega)]; omega
      have ht3 : (N : Int) / 2 = ((N / 2 : Nat) : Int) := by omega
      have ht4 : (N : Int) % 2 = ((N % 2 : Nat) : Int) := by omega
      have hn1 : ¬ (N : Int) < 3 := by omega
      have hn2 : ¬ (201 : Int) < (N : Int) := by omega
      by_cases h3 : N % 2 = 1
      · have E : Hid (baO (N : Int) = (bsF (N : Int) (N / 2)).map (·.1)) := Lib.hid (by
          unfold baO bsA
          rw [if_pos ((oddB_iff _).2 ⟨h1, h2, by omega⟩), show ((N : Int) - 1 - (N : Int) / 2).toNat = N / 2 from by omega])
        obtain ⟨h, hh⟩ : ∃ h, h = N / 2 := ⟨_, rfl⟩
        rw [← hh] at ht ht3 E
        have hN1 : N ≤ 2 * h + 1 := by omega
        have hN2 : 2 * h + 1 ≤ N := by omega
        rw [h3] at ht2 ht4
        have HB := Lib.hid fun (w : World) (m : Int) (m1 : 0 ≤ m) (m2 : m ≤ 201) => twoOverBy_any (N : Int) m w (by omega) h2 m1 m2
        have HNX : Hid (∀ k, bsF (N : Int) (k + 1) = bsStep (N : Int) (bsF (N : Int) k) ((h : Int) + 1 + (k : Int))) := Lib.hid fun k => by rw [bsF_next, ht3]
        have HSY : Hid (∀ k p, bsF (N : Int) k = some p → toO (N : Int) p.1 = some p.2 ∧ 1 ≤ p.1 ∧ p.1 ≤ (h : Int) + 1 + k) := Lib.hid fun k p hp => by
          obtain ⟨a, b, c⟩ := bsF_says hp
          exact ⟨a, by omega, by omega⟩
        clear h3 hh
        go_enter Try.func19, Try.ntmps19
        go_wp2
        go_loopw [4, 5, 6] (fun v4 v5 v6 wr => ∃ k : Nat, k ≤ h ∧ v6 = .int .i64 ((h : Int) + 1 + (k : Int)) ∧ BsAt (bsF (N : Int) k) wr v4 v5 ∧ Below w.heap.size w wr) (fun _ _ v6 _ => (2 * h + 1) - (intOf v6).toNat)
        case atStart => exact ⟨0, Nat.zero_le _, by simp, ⟨rfl, rfl⟩, by (repeat' (first | (with_reducible exact Below.refl _ _) | (with_reducible assumption) | (with_reducible refine Below.drew ?_) | (with_reducible refine belowDrewN ?_ _) | (with_reducible refine Below.alloc ?_ ?_ _) | (with_reducible refine Below.setCell ?_ ?_ _) | (with_reducible refine belowStep (by assumption) ?_ ?_) | (with_reducible exact Below.size (by assumption)) | go_size))⟩
        case round =>
          obtain ⟨k, hk, rfl, hst, hbr⟩ := hrel
          have hzr := hbr.size
          by_cases hlt : k < h
          · have hlt2 : (h : Int) + 1 + (k : Int) < (N : Int) := by omega
            have hnx := HNX.out k
            have HBm := Lib.hid fun (w : World) => HB.out w ((h : Int) + 1 + (k : Int)) (by omega) (by omega)
            have hm1 : 1 ≤ (h : Int) + 1 + (k : Int) := by omega
            have hm2 : (h : Int) + 1 + (k : Int) ≤ 201 := by omega
            have hsy := HSY.out k
            have hk1 : k + 1 ≤ h := hlt
            have HM : Hid ((h : Int) + 1 + ((k + 1 : Nat) : Int) = (h : Int) + 1 + (k : Int) + 1) := Lib.hid (by omega)
            have HTS := Lib.hid fun l (hl : toO (N : Int) ((h : Int) + 1 + (k : Int)) = some l) => toO_small hl
            have HME : Hid ((2 * h + 1) - (intOf (.int .i64 ((h : Int) + 1 + (k : Int) + 1))).toNat < (2 * h + 1) - (intOf (.int .i64 ((h : Int) + 1 + (k : Int)))).toNat) := Lib.hid (by simp only [intOf]; omega)
            clear HNX HSY hlt hk
            generalize hmm : (h : Int) + 1 + (k : Int) = m at *
            cases hto : toO (N : Int) m with
            | none =>
              rw [bsStep_none hto] at hnx
              rw [hto] at HBm
              have HNX := Lib.hid hnx
              have HST := Lib.hid hst
              clear hnx hst hto hsy hmm
              go_wp2_with fail
              refine (HBm.out _).mono ?_; rintro e w16 ⟨v16, rfl, ho16, hb16⟩; have hz16 := hb16.size; (try simp only [World.size_alloc, World.size_setCell, World.size_drew, World.heap_drewN] at hz16)
              go_wp2
              go_roundw
              case rel =>
                refine ⟨k + 1, hk1, by rw [HM.out], ?_, by (repeat' (first | (with_reducible exact Below.refl _ _) | (with_reducible assumption) | (with_reducible refine Below.drew ?_) | (with_reducible refine belowDrewN ?_ _) | (with_reducible refine Below.alloc ?_ ?_ _) | (with_reducible refine Below.setCell ?_ ?_ _) | (with_reducible refine belowStep (by assumption) ?_ ?_) | (with_reducible exact Below.size (by assumption)) | go_size))⟩
                rw [HNX.out]
                have := HST.out
                unfold BsAt at this ⊢
                cases hb : bsF (N : Int) k with
                | none => rw [hb] at this; exact this
                | some p =>
                  rw [hb] at this
                  obtain ⟨A, c, e1, e2, hr⟩ := this
                  exact ⟨A, c, e1, e2, hr.below hb16⟩
              case measure => exact HME.out
            | some l =>
              obtain ⟨l1, l2, l3, l4, l5⟩ := HTS.out l hto
              rw [hto] at HBm
              cases hb : bsF (N : Int) k with
              | none =>
                rw [hb, bsStep_first hto] at hnx
                rw [hb] at hst
                obtain ⟨rfl, rfl⟩ := hst
                have HNX := Lib.hid hnx
                clear hnx hto hsy hmm hb
                go_wp2_with fail
                refine (HBm.out _).mono ?_; rintro e w16 ⟨v16, rfl, ho16, hb16⟩; have hz16 := hb16.size; (try simp only [World.size_alloc, World.size_setCell, World.size_drew, World.heap_drewN] at hz16)
                obtain ⟨A16, c16, rfl, hr16⟩ := ho16.form
                have R16 := Lib.hid hr16
                clear ho16 hr16
                go_wp2
                go_roundw
                case rel =>
                  refine ⟨k + 1, hk1, by rw [HM.out], ?_, by (repeat' (first | (with_reducible exact Below.refl _ _) | (with_reducible assumption) | (with_reducible refine Below.drew ?_) | (with_reducible refine belowDrewN ?_ _) | (with_reducible refine Below.alloc ?_ ?_ _) | (with_reducible refine Below.setCell ?_ ?_ _) | (with_reducible refine belowStep (by assumption) ?_ ?_) | (with_reducible exact Below.size (by assumption)) | go_size))⟩
                  rw [HNX.out]
                  exact ⟨_, _, rfl, rfl, R16.out⟩
                case measure => exact HME.out
              | some p =>
                obtain ⟨t1, t2, t3⟩ := hsy p hb
                obtain ⟨q1, q2, q3, q4, q5⟩ := toO_small t1
                rw [hb, bsStep_some hto] at hnx
                rw [hb] at hst
                obtain ⟨Ap, cp, rfl, rfl, hrp⟩ := hst
                have RP := Lib.hid hrp
                have hp0 : (p.1 == 0) = false := by simp; omega
                have hp0' : p.1 ≠ 0 := by omega
                have L5 := Lib.hid l5
                have Q5 := Lib.hid q5
                have HPB : Hid (-9223372036854775808 ≤ p.1 ∧ p.1 ≤ 9223372036854775807) := Lib.hid ⟨by omega, by omega⟩
                clear hto hsy hmm hb t1 l5 q5 hrp
                obtain ⟨p1, p2⟩ := p
                dsimp only at *
                cases hle : lessL l p2 with
                | true =>
                  rw [if_pos hle] at hnx
                  have HNX := Lib.hid hnx
                  clear hnx
                  go_wp2_with fail
                  refine (HBm.out _).mono ?_; rintro e w16 ⟨v16, rfl, ho16, hb16⟩; have hz16 := hb16.size; (try simp only [World.size_alloc, World.size_setCell, World.size_drew, World.heap_drewN] at hz16)
                  obtain ⟨A16, c16, rfl, hr16⟩ := ho16.form
                  have R16 := Lib.hid hr16
                  have HBT := Lib.hid (isBetter_any w16 A16 c16 l hr16 (by omega) Ap cp p2 (RP.out.below hb16) (by omega) l3 q3 L5.out Q5.out)
                  rw [hle] at HBT
                  clear ho16 hr16 hle
                  go_wp2_with fail
                  refine HBT.out.mono ?_; rintro e w17 ⟨rfl, k17, rfl⟩
                  go_wp2
                  go_roundw
                  case rel =>
                    refine ⟨k + 1, hk1, by rw [HM.out], ?_, by (repeat' (first | (with_reducible exact Below.refl _ _) | (with_reducible assumption) | (with_reducible refine Below.drew ?_) | (with_reducible refine belowDrewN ?_ _) | (with_reducible refine Below.alloc ?_ ?_ _) | (with_reducible refine Below.setCell ?_ ?_ _) | (with_reducible refine belowStep (by assumption) ?_ ?_) | (with_reducible exact Below.size (by assumption)) | go_size))⟩
                    rw [HNX.out]
                    exact ⟨_, _, rfl, rfl, R16.out.drewN _⟩
                  case measure => exact HME.out
                | false =>
                  rw [if_neg (by rw [hle]; decide)] at hnx
                  have HNX := Lib.hid hnx
                  clear hnx
                  go_wp2_with fail
                  refine (HBm.out _).mono ?_; rintro e w16 ⟨v16, rfl, ho16, hb16⟩; have hz16 := hb16.size; (try simp only [World.size_alloc, World.size_setCell, World.size_drew, World.heap_drewN] at hz16)
                  obtain ⟨A16, c16, rfl, hr16⟩ := ho16.form
                  have R16 := Lib.hid hr16
                  have HBT := Lib.hid (isBetter_any w16 A16 c16 l hr16 (by omega) Ap cp p2 (RP.out.below hb16) (by omega) l3 q3 L5.out Q5.out)
                  rw [hle] at HBT
                  clear ho16 hr16 hle
                  go_wp2_with fail
                  refine HBT.out.mono ?_; rintro e w17 ⟨rfl, k17, rfl⟩
                  go_wp2
                  go_roundw
                  case rel =>
                    refine ⟨k + 1, hk1, by rw [HM.out], ?_, by (repeat' (first | (with_reducible exact Below.refl _ _) | (with_reducible assumption) | (with_reducible refine Below.drew ?_) | (with_reducible refine belowDrewN ?_ _) | (with_reducible refine Below.alloc ?_ ?_ _) | (with_reducible refine Below.setCell ?_ ?_ _) | (with_reducible refine belowStep (by assumption) ?_ ?_) | (with_reducible exact Below.size (by assumption)) | go_size))⟩
                    rw [HNX.out]
                    exact ⟨_, _, rfl, rfl, (RP.out.below hb16).drewN _⟩
                  case measure => exact HME.out
          · obtain rfl : k = h := by omega
            have hlt2 : ¬ (k : Int) + 1 + (k : Int) < (N : Int) := by omega
            cases hb : bsF (N : Int) k with
            | none =>
              rw [hb] at hst E
              obtain ⟨rfl, rfl⟩ := hst
              go_wp2
              go_ret2
              rw [E.out]
              exact ⟨rfl, by (repeat' (first | (with_reducible exact Below.refl _ _) | (with_reducible assumption) | (with_reducible refine Below.drew ?_) | (with_reducible refine belowDrewN ?_ _) | (with_reducible refine Below.alloc ?_ ?_ _) | (with_reducible refine Below.setCell ?_ ?_ _) | (with_reducible refine belowStep (by assumption) ?_ ?_) | (with_reducible exact Below.size (by assumption)) | go_size))⟩
            | some p =>
              obtain ⟨t1, t2, t3⟩ := HSY.out k p hb
              rw [hb] at hst E
              obtain ⟨Ap, cp, rfl, rfl, hrp⟩ := hst
              have hp0 : 0 < p.1 := by omega
              clear hrp t1 hb
              obtain ⟨p1, p2⟩ := p
              dsimp only at *
              go_wp2
              go_ret2
              rw [E.out]
              exact ⟨rfl, by (repeat' (first | (with_reducible exact Below.refl _ _) | (with_reducible assumption) | (with_reducible refine Below.drew ?_) | (with_reducible refine belowDrewN ?_ _) | (with_reducible refine Below.alloc ?_ ?_ _) | (with_reducible refine Below.setCell ?_ ?_ _) | (with_reducible refine belowStep (by assumption) ?_ ?_) | (with_reducible exact Below.size (by assumption)) | go_size))⟩
      · have E : Hid (baO (N : Int) = none) := Lib.hid (by
          unfold baO
          rw [if_neg (fun e => by have := (oddB_iff _).1 e; omega)])
        have h4 : N % 2 = 0 := by omega
        rw [h4] at ht2 ht4
        clear h3
        go_enter Try.func19, Try.ntmps19
        go_wp2
        go_ret2
        rw [E.out]
        exact ⟨rfl, by (repeat' (first | (with_reducible exact Below.refl _ _) | (with_reducible assumption) | (with_reducible refine Below.drew ?_) | (with_reducible refine belowDrewN ?_ _) | (with_reducible refine Below.alloc ?_ ?_ _) | (with_reducible refine Below.setCell ?_ ?_ _) | (with_reducible refine belowStep (by assumption) ?_ ?_) | (with_reducible exact Below.size (by assumption)) | go_size))⟩
    · have E : Hid (baO n = none) := Lib.hid (by
        unfold baO
        rw [if_neg (fun e => by have := (oddB_iff _).1 e; omega)])
      have hn1 : ¬ n < 3 := by omega
      have hn2 : (201 : Int) < n := by omega
      go_enter Try.func19, Try.ntmps19
      go_wp2
      go_ret2
      rw [E.out]
      exact ⟨rfl, by (repeat' (first | (with_reducible exact Below.refl _ _) | (with_reducible assumption) | (with_reducible refine Below.drew ?_) | (with_reducible refine belowDrewN ?_ _) | (with_reducible refine Below.alloc ?_ ?_ _) | (with_reducible refine Below.setCell ?_ ?_ _) | (with_reducible refine belowStep (by assumption) ?_ ?_) | (with_reducible exact Below.size (by assumption)) | go_size))⟩
  · have E : Hid (baO n = none) := Lib.hid (by
      unfold baO
      rw [if_neg (fun e => by have := (oddB_iff _).1 e; omega)])
    have hn1 : n < 3 := by omega
    go_enter Try.func19, Try.ntmps19
    go_wp2
    go_ret2
    rw [E.out]
    exact ⟨rfl, by (repeat' (first | (with_reducible exact Below.refl _ _) | (with_reducible assumption) | (with_reducible refine Below.drew ?_) | (with_reducible refine belowDrewN ?_ _) | (with_reducible refine Below.alloc ?_ ?_ _) | (with_reducible refine Below.setCell ?_ ?_ _) | (with_reducible refine belowStep (by assumption) ?_ ?_) | (with_reducible exact Below.size (by assumption)) | go_size))⟩
theorem two_both {n : Int} : (baO n = none ∧ twO n = none) ∨ ∃ m l, baO n = some m ∧ twO n = some l ∧ toO n m = some l ∧ 3 ≤ n ∧ n ≤ 201 ∧ 1 ≤ m ∧ m ≤ 201 ∧ n < 2 * m ∧ m < n := by
  unfold baO twO
  by_cases h : oddB n = true
  · rw [if_pos h, if_pos h]
    obtain ⟨h1, h2, h3⟩ := (oddB_iff n).1 h
    cases hb : bsA n with
    | none => exact .inl ⟨rfl, rfl⟩
    | some p =>
      obtain ⟨a, b, c⟩ := bsF_says hb
      exact .inr ⟨p.1, p.2, rfl, rfl, a, h1, h2, by omega, by omega, by omega, by omega⟩
  · rw [if_neg h, if_neg h]
    exact .inl ⟨rfl, rfl⟩
set_option maxRecDepth 100000 in
set_option maxHeartbeats 2000000 in
theorem twoOver_any (n : Int) (w : World) (rn : -9223372036854775808 ≤ n ∧ n ≤ 9223372036854775807) : Calls Try.prog 14 #[.int .i64 n] w (RetLB ((twO n).getD []) (twO n).isSome w) := by
  have HB := Lib.hid fun (w : World) => twoOverBase_any n w rn
  rcases two_both (n := n) with ⟨e1, e2⟩ | ⟨m, l, e1, e2, e3, h1, h2, h3, h4, _, _⟩
  · rw [e1] at HB
    rw [e2]
    clear e1 e2
    go_enter Try.func14, Try.ntmps14
    go_wp2_with fail
    refine (HB.out _).mono ?_; rintro e w1 ⟨rfl, hb1⟩; have hz1 := hb1.size; (try simp only [World.size_alloc, World.size_setCell, World.size_drew, World.heap_drewN] at hz1)
    go_wp2
    go_ret2
    exact ⟨_, rfl, OwnI.empty _ _, by (repeat' (first | (with_reducible exact Below.refl _ _) | (with_reducible assumption) | (with_reducible refine Below.drew ?_) | (with_reducible refine belowDrewN ?_ _) | (with_reducible refine Below.alloc ?_ ?_ _) | (with_reducible refine Below.setCell ?_ ?_ _) | (with_reducible refine belowStep (by assumption) ?_ ?_) | (with_reducible exact Below.size (by assumption)) | go_size))⟩
  · have HT := Lib.hid fun (w : World) => twoOverBy_any n m w (by omega) h2 (by omega) h4
    rw [e1] at HB
    rw [e3] at HT
    rw [e2]
    clear e1 e2 e3
    go_enter Try.func14, Try.ntmps14
    go_wp2_with fail
    refine (HB.out _).mono ?_; rintro e w1 ⟨rfl, hb1⟩; have hz1 := hb1.size; (try simp only [World.size_alloc, World.size_setCell, World.size_drew, World.heap_drewN] at hz1)
    go_wp2_with fail
    refine (HT.out _).mono ?_; rintro e w2 ⟨v2, rfl, ho2, hb2⟩; have hz2 := hb2.size; (try simp only [World.size_alloc, World.size_setCell, World.size_drew, World.heap_drewN] at hz2)
    go_wp2
    go_ret2
    exact ⟨_, rfl, ho2.mono (by (first | (go_size; done) | ((try simp only [World.size_alloc, World.size_setCell, World.size_drew, World.heap_drewN]); omega))), by (repeat' (first | (with_reducible exact Below.refl _ _) | (with_reducible assumption) | (with_reducible refine Below.drew ?_) | (with_reducible refine belowDrewN ?_ _) | (with_reducible refine Below.alloc ?_ ?_ _) | (with_reducible refine Below.setCell ?_ ?_ _) | (with_reducible refine belowStep (by assumption) ?_ ?_) | (with_reducible exact Below.size (by assumption)) | go_size))⟩
end Go.Proofs.Ythkchhjidihkpab
