import Derived.Shelf.Small.Bits
import Derived.Shelf.Strconv.Itoa0
import Derived.Shelf.Sort.Plain
import Derived.Shelf.Bits.Mul64
import Derived.Shelf.Slices.Turned
import Derived.Ground.Names2Prog
import Derived.Shelf.Slices.Clone
import Derived.Shelf.Slices.SearchI
import Derived.Shelf.Slices.Delete
import Derived.Shelf.Slices.Cells
import Derived.Shelf.Slices.In.SortNone
import Derived.Shelf.Slices.Empties
import Derived.Ground.SlgnProg
import Derived.Shelf.SlicesE.Clone
import Derived.Test.YtolgjokghecceaaGreatDoorProg
import Derived.Test.YtolgjokghecceaaGreatDoorPk3
import Derived.Test.YtolgjokghecceaaGreatDoorPk6
import Derived.Test.YtolgjokghecceaaGreatDoorPk8
/-
  Contracts of library functions at this program, one application each.
-/
namespace Go.Proofs
open Go.Shelf
def Tryz.lays189_ren : Go.Shelf.Ren := ⟨fun | 189 => 59 | 125 => 86 | 257 => 85 | 128 => 112 | 129 => 113 | 294 => 103 | 295 => 104 | 296 => 105 | 297 => 106 | 298 => 107 | 299 => 108 | 216 => 109 | 300 => 110 | 301 => 111 | 328 => 120 | 329 => 121 | 330 => 122 | 331 => 123 | 332 => 124 | 215 => 89 | 343 => 128 | n => n, fun | 28 => 24 | 3 => 3 | 46 => 94 | 0 => 0 | 51 => 111 | 53 => 48 | 4 => 4 | 183 => 105 | 182 => 104 | 131 => 57 | 5 => 5 | 9 => 9 | 218 => 114 | 222 => 118 | 228 => 121 | 229 => 122 | n => n, fun | n => n⟩
theorem Tryz.lays189 : Go.Proofs.Lays.n189 Tryz.prog Tryz.lays189_ren := {
  mixed := by kernel_rfl
  f125 := Tryz.func86.trans (congrArg some (by kernel_rfl))
  f128 := Tryz.func112.trans (congrArg some (by kernel_rfl))
  f129 := Tryz.func113.trans (congrArg some (by kernel_rfl))
  f189 := Tryz.func59.trans (congrArg some (by kernel_rfl))
  f215 := Tryz.func89.trans (congrArg some (by kernel_rfl))
  f216 := Tryz.func109.trans (congrArg some (by kernel_rfl))
  f257 := Tryz.func85.trans (congrArg some (by kernel_rfl))
  f294 := Tryz.func103.trans (congrArg some (by kernel_rfl))
  f295 := Tryz.func104.trans (congrArg some (by kernel_rfl))
  f296 := Tryz.func105.trans (congrArg some (by kernel_rfl))
  f297 := Tryz.func106.trans (congrArg some (by kernel_rfl))
  f298 := Tryz.func107.trans (congrArg some (by kernel_rfl))
  f299 := Tryz.func108.trans (congrArg some (by kernel_rfl))
  f300 := Tryz.func110.trans (congrArg some (by kernel_rfl))
  f301 := Tryz.func111.trans (congrArg some (by kernel_rfl))
  f328 := Tryz.func120.trans (congrArg some (by kernel_rfl))
  f329 := Tryz.func121.trans (congrArg some (by kernel_rfl))
  f330 := Tryz.func122.trans (congrArg some (by kernel_rfl))
  f331 := Tryz.func123.trans (congrArg some (by kernel_rfl))
  f332 := Tryz.func124.trans (congrArg some (by kernel_rfl))
  f343 := Tryz.func128.trans (congrArg some (by kernel_rfl))
  t0 := Tryz.underlying0
  a0 := Tryz.isAgg0
  z0 := Tryz.sizeOf0
  v0 := Tryz.zeroValue0
  t3 := Tryz.underlying3
  a3 := Tryz.isAgg3
  z3 := Tryz.sizeOf3
  v3 := Tryz.zeroValue3
  t4 := Tryz.underlying4
  a4 := Tryz.isAgg4
  z4 := Tryz.sizeOf4
  v4 := Tryz.zeroValue4
  t5 := Tryz.underlying5
  a5 := Tryz.isAgg5
  z5 := Tryz.sizeOf5
  v5 := Tryz.zeroValue5
  t9 := Tryz.underlying9
  a9 := Tryz.isAgg9
  z9 := Tryz.sizeOf9
  v9 := Tryz.zeroValue9
  t28 := Tryz.underlying24
  a28 := Tryz.isAgg24
  z28 := Tryz.sizeOf24
  v28 := Tryz.zeroValue24
  t46 := Tryz.underlying94
  a46 := Tryz.isAgg94
  z46 := Tryz.sizeOf94
  v46 := Tryz.zeroValue94
  t51 := Tryz.underlying111
  a51 := Tryz.isAgg111
  z51 := Tryz.sizeOf111
  v51 := Tryz.zeroValue111
  t53 := Tryz.underlying48
  a53 := Tryz.isAgg48
  z53 := Tryz.sizeOf48
  v53 := Tryz.zeroValue48
  t131 := Tryz.underlying57
  a131 := Tryz.isAgg57
  z131 := Tryz.sizeOf57
  v131 := Tryz.zeroValue57
  t182 := Tryz.underlying104
  a182 := Tryz.isAgg104
  z182 := Tryz.sizeOf104
  v182 := Tryz.zeroValue104
  t183 := Tryz.underlying105
  a183 := Tryz.isAgg105
  z183 := Tryz.sizeOf105
  v183 := Tryz.zeroValue105
  t218 := Tryz.underlying114
  a218 := Tryz.isAgg114
  z218 := Tryz.sizeOf114
  v218 := Tryz.zeroValue114
  t222 := Tryz.underlying118
  a222 := Tryz.isAgg118
  z222 := Tryz.sizeOf118
  v222 := Tryz.zeroValue118
  t228 := Tryz.underlying121
  a228 := Tryz.isAgg121
  z228 := Tryz.sizeOf121
  v228 := Tryz.zeroValue121
  t229 := Tryz.underlying122
  a229 := Tryz.isAgg122
  z229 := Tryz.sizeOf122
  v229 := Tryz.zeroValue122 }
open Go.Sort Go.RowKit in
theorem Tryz.slices_Sort_int (blk off cap : Nat) (zs : List Int) (w : World) (hH : Holds (Value.int .i64) w blk off zs.toArray) (hblk : blk < w.heap.size) (hsz : zs.length < 4611686018427387904) :
    Calls Tryz.prog 59 #[.slice (some ⟨blk, off, none⟩) zs.length cap] w fun e w' =>
      e = .returned (.tuple #[]) ∧ ∃ n os, w' = grow (putRow (Value.int .i64) (Sort.ahead w n) blk off (zs.mergeSort fun x y => decide (x ≤ y)).toArray) os := Any.slices_Sort_int Tryz.lays189 blk off cap zs w hH hblk hsz
def Tryz.lays212_ren : Go.Shelf.Ren := ⟨fun | 212 => 166 | 263 => 167 | 264 => 168 | n => n, fun | 46 => 94 | 51 => 111 | 146 => 151 | 53 => 48 | 148 => 153 | n => n, fun | n => n⟩
theorem Tryz.lays212 : Go.Proofs.Lays.n212 Tryz.prog Tryz.lays212_ren := {
  mixed := by kernel_rfl
  f212 := Tryz.func166.trans (congrArg some (by kernel_rfl))
  f263 := Tryz.func167.trans (congrArg some (by kernel_rfl))
  f264 := Tryz.func168.trans (congrArg some (by kernel_rfl))
  t46 := Tryz.underlying94
  a46 := Tryz.isAgg94
  z46 := Tryz.sizeOf94
  v46 := Tryz.zeroValue94
  t51 := Tryz.underlying111
  a51 := Tryz.isAgg111
  z51 := Tryz.sizeOf111
  v51 := Tryz.zeroValue111
  t53 := Tryz.underlying48
  a53 := Tryz.isAgg48
  z53 := Tryz.sizeOf48
  v53 := Tryz.zeroValue48
  t146 := Tryz.underlying151
  a146 := Tryz.isAgg151
  z146 := Tryz.sizeOf151
  v146 := Tryz.zeroValue151
  t148 := Tryz.underlying153
  a148 := Tryz.isAgg153
  z148 := Tryz.sizeOf153
  v148 := Tryz.zeroValue153 }
open Go.RowKit Go.Lib in
theorem Tryz.bits_Mul (x y : Nat) (hx : x < 18446744073709551616) (hy : y < 18446744073709551616) (w : World) :
    Calls Tryz.prog 166 #[.int .u64 x, .int .u64 y] w fun e w' => e = .returned (.tuple #[.int .u64 ((x * y / 18446744073709551616 : Nat) : Int), .int .u64 ((x * y % 18446744073709551616 : Nat) : Int)]) ∧ w' = w := Any.bits_Mul Tryz.lays212 x y hx hy w
def Tryz.lays113_ren : Go.Shelf.Ren := ⟨fun | 113 => 164 | n => n, fun | 28 => 24 | 3 => 3 | 4 => 4 | 9 => 9 | 20 => 20 | 0 => 0 | n => n, fun | n => n⟩
theorem Tryz.lays113 : Go.Proofs.Lays.n113 Tryz.prog Tryz.lays113_ren := {
  mixed := by kernel_rfl
  f113 := Tryz.func164.trans (congrArg some (by kernel_rfl))
  t0 := Tryz.underlying0
  a0 := Tryz.isAgg0
  z0 := Tryz.sizeOf0
  v0 := Tryz.zeroValue0
  t3 := Tryz.underlying3
  a3 := Tryz.isAgg3
  z3 := Tryz.sizeOf3
  v3 := Tryz.zeroValue3
  t4 := Tryz.underlying4
  a4 := Tryz.isAgg4
  z4 := Tryz.sizeOf4
  v4 := Tryz.zeroValue4
  t9 := Tryz.underlying9
  a9 := Tryz.isAgg9
  z9 := Tryz.sizeOf9
  v9 := Tryz.zeroValue9
  t20 := Tryz.underlying20
  a20 := Tryz.isAgg20
  z20 := Tryz.sizeOf20
  v20 := Tryz.zeroValue20
  t28 := Tryz.underlying24
  a28 := Tryz.isAgg24
  z28 := Tryz.sizeOf24
  v28 := Tryz.zeroValue24 }
open Go.Lib in
theorem Tryz.slices_Max_int (b off n c : Nat) (zs : List Int) (w : World) (hn : 0 < n) (hz : n ≤ zs.length) (hbig : n ≤ 9223372036854775807) (hc : ∀ j, j < zs.length → w.cell? ⟨b, off + j, none⟩ = some (.int .i64 (zs.getD j 0))) :
    Calls Tryz.prog 164 #[.slice (some ⟨b, off, none⟩) n c] w fun e w' => e = .returned (.int .i64 (Lib.maxOf (zs.take n))) ∧ w' = w := Any.slices_Max_int Tryz.lays113 b off n c zs w hn hz hbig hc
def Tryz.laysNm215_ren : Go.Shelf.Ren := ⟨fun | 15 => 46 | n => n, fun | 22 => 24 | 3 => 3 | 4 => 4 | n => n, fun | n => n⟩
theorem Tryz.laysNm215 : Go.Proofs.Lays2.n15 Tryz.prog Tryz.laysNm215_ren := {
  mixed := by kernel_rfl
  f15 := Tryz.func46.trans (congrArg some (by kernel_rfl))
  t3 := Tryz.underlying3
  a3 := Tryz.isAgg3
  z3 := Tryz.sizeOf3
  v3 := Tryz.zeroValue3
  t4 := Tryz.underlying4
  a4 := Tryz.isAgg4
  z4 := Tryz.sizeOf4
  v4 := Tryz.zeroValue4
  t22 := Tryz.underlying24
  a22 := Tryz.isAgg24
  z22 := Tryz.sizeOf24
  v22 := Tryz.zeroValue24
  i3 := by kernel_rfl }
open Go.RowKit Go.Lib in
theorem Tryz.slices_Clone_int (b off n c : Nat) (zs : List Int) (w : World) (hz : n ≤ zs.length) (hbig : n * 8 ≤ 140737488355328) (hc : ∀ j, j < zs.length → w.cell? ⟨b, off + j, none⟩ = some (.int .i64 (zs.getD j 0))) :
    Calls Tryz.prog 46 #[.slice (some ⟨b, off, none⟩) n c] w fun e w' => ∃ v', e = .returned v' ∧ w'.ownsRow w.heap.size 3 1 v' n ((zs.take n).map (Value.int .i64)) ∧ v' ≠ .slice none 0 0 ∧ Below w.heap.size w w' := Any.slices_Clone_int Tryz.laysNm215 b off n c zs w hz hbig hc
def Tryz.laysNm223_ren : Go.Shelf.Ren := ⟨fun | 23 => 165 | n => n, fun | 22 => 24 | 3 => 3 | 4 => 4 | 0 => 0 | n => n, fun | n => n⟩
theorem Tryz.laysNm223 : Go.Proofs.Lays2.n23 Tryz.prog Tryz.laysNm223_ren := {
  mixed := by kernel_rfl
  f23 := Tryz.func165.trans (congrArg some (by kernel_rfl))
  t0 := Tryz.underlying0
  a0 := Tryz.isAgg0
  z0 := Tryz.sizeOf0
  v0 := Tryz.zeroValue0
  t3 := Tryz.underlying3
  a3 := Tryz.isAgg3
  z3 := Tryz.sizeOf3
  v3 := Tryz.zeroValue3
  t4 := Tryz.underlying4
  a4 := Tryz.isAgg4
  z4 := Tryz.sizeOf4
  v4 := Tryz.zeroValue4
  t22 := Tryz.underlying24
  a22 := Tryz.isAgg24
  z22 := Tryz.sizeOf24
  v22 := Tryz.zeroValue24
  i3 := by kernel_rfl }
open Go.RowKit Go.Lib Go.Sort in
theorem Tryz.slices_Delete_int (blk off cap i j : Nat) (zs : List Int) (w : World) (hH : Holds (Value.int .i64) w blk off zs.toArray) (hcap : zs.length ≤ cap) (hm : cap ≤ 9223372036854775807) (hij : i ≤ j) (hj : j ≤ zs.length) :
    Calls Tryz.prog 165 #[.slice (some ⟨blk, off, none⟩) zs.length cap, .int .i64 i, .int .i64 j] w fun e w' => e = .returned (.slice (some ⟨blk, off, none⟩) (zs.length - (j - i)) cap) ∧ ∃ q, w' = putRow (Value.int .i64) (Sort.ahead w q) blk off (zs.take i ++ zs.drop j ++ List.replicate (j - i) 0).toArray := Any.slices_Delete_int Tryz.laysNm223 blk off cap i j zs w hH hcap hm hij hj
end Go.Proofs


/-
  The contract of the library's binary search in a rising list.
-/
namespace Go.Proofs.YtolgjokghecceaaGreatDoor
open Go.RowKit
theorem isNaN2_any (a : Int) (w : World) : Calls Tryz.prog 129 #[.int .i64 a] w (RetQ (.bool false) w) := by
  go_enter Tryz.func129, Tryz.ntmps129
  go_wp2
  go_ret
  exact ⟨ret_bool (by simp), 0, rfl⟩
theorem less_yes (a b : Int) (w : World) (h : a < b) : Calls Tryz.prog 109 #[.int .i64 a, .int .i64 b] w (RetQ (.bool true) w) := by
  go_enter Tryz.func109, Tryz.ntmps109
  go_wp2_with (go_at_call 89; refine (isNaN_any _ _).mono ?_; rintro e w1 ⟨rfl, k1, rfl⟩)
  go_ret
  exact ⟨ret_bool (by first | (simp; done) | (simp; omega)), _, rfl⟩
theorem less_no (a b : Int) (w : World) (h : b ≤ a) : Calls Tryz.prog 109 #[.int .i64 a, .int .i64 b] w (RetQ (.bool false) w) := by
  go_enter Tryz.func109, Tryz.ntmps109
  go_wp2_with (go_at_call 89; refine (isNaN_any _ _).mono ?_; rintro e w1 ⟨rfl, k1, rfl⟩)
  go_ret
  exact ⟨ret_bool (by first | (simp; done) | (simp; omega)), _, rfl⟩

set_option maxHeartbeats 2000000 in
theorem search_any (w : World) (v : Int) (Axs : Option Addr) (cxs : Nat) (xs : List Int) (hxs : Reads w Axs xs) (lxs : xs.length ≤ 1048576) (hs : Rising xs) :
    Calls Tryz.prog 125 #[.slice Axs xs.length cxs, .int .i64 v] w (RetQ (.tuple #[.int .i64 (pos xs v), .bool (decide (xs[pos xs v]? = some v))]) w) := by
  have Hs := Lib.hid hs
  have Hxs := Lib.hid hxs
  clear hs hxs
  go_enter Tryz.func125, Tryz.ntmps125
  go_wp2
  go_loopw [7, 8] (fun v7 v8 wr => ∃ i j : Nat, i ≤ j ∧ j ≤ xs.length ∧ v7 = .int .i64 i ∧ v8 = .int .i64 j ∧ (∀ (k : Nat) (x : Int), k < i → xs[k]? = some x → x < v) ∧ (∀ (k : Nat) (x : Int), j ≤ k → xs[k]? = some x → v ≤ x) ∧ ∃ n, wr = w.drewN n) (fun v7 v8 _ => (intOf v8).toNat - (intOf v7).toNat)
  case atStart => exact ⟨0, xs.length, Nat.zero_le _, Nat.le_refl _, rfl, rfl, fun k x h => by omega, (fun k x h h2 => by rw [List.getElem?_eq_none h] at h2; cases h2), 0, rfl⟩
  case round =>
    obtain ⟨i, j, hij, hj, rfl, rfl, h1, h2, n, rfl⟩ := hrel
    have H1 := Lib.hid h1
    have H2 := Lib.hid h2
    clear h1 h2
    by_cases hlt : i < j
    · obtain ⟨b, o, x, rfl, hb, hx, hcell⟩ := Hxs.out.at_ (k := (i + j) / 2) (by omega)
      have Hx := Lib.hid hx
      clear hx
      by_cases hle : x < v
      · go_wp2_with (go_at_call 109; refine (less_yes _ _ _ hle).mono ?_; rintro e w1 ⟨rfl, k1, rfl⟩)
        go_roundw
        case rel => exact ⟨(i + j) / 2 + 1, j, by omega, hj, congrArg (Value.int .i64) (by omega), rfl, (fun k y h hy => by have := (Hs.out).le (show k ≤ (i + j) / 2 by omega) hy Hx.out; omega), H2.out, _, rfl⟩
        case measure => simp [intOf]; omega
      · go_wp2_with (go_at_call 109; refine (less_no _ _ _ (by omega)).mono ?_; rintro e w1 ⟨rfl, k1, rfl⟩)
        go_roundw
        case rel => exact ⟨i, (i + j) / 2, by omega, by omega, rfl, congrArg (Value.int .i64) (by omega), H1.out, (fun k y h hy => by have := (Hs.out).le h Hx.out hy; omega), _, rfl⟩
        case measure => simp [intOf]; omega
    · obtain rfl : i = j := by omega
      have Hp := Lib.hid (pos_of hj H1.out (fun x hx => H2.out i x (Nat.le_refl _) hx))
      by_cases hl : i < xs.length
      · obtain ⟨b, o, x, rfl, hb, hx, hcell⟩ := Hxs.out.at_ hl
        have Hx := Lib.hid hx
        clear hx
        by_cases he : x = v
        · have hee : (x == v) = true := by simp [he]
          have He := Lib.hid he
          clear he
          go_wp2_with (go_at_call 129; refine (isNaN2_any _ _).mono ?_; rintro e w1 ⟨rfl, k1, rfl⟩)
          go_ret2
          exact ⟨ret_ib (by rw [Hp.out]) (by rw [Hp.out, Hx.out, He.out]; simp), _, rfl⟩
        · have hee : (x == v) = false := by simp [he]
          have He := Lib.hid he
          clear he
          go_wp2_with (go_at_call 129; refine (isNaN2_any _ _).mono ?_; rintro e w1 ⟨rfl, k1, rfl⟩)
          go_ret2
          exact ⟨ret_ib (by rw [Hp.out]) (by rw [Hp.out, Hx.out]; simp [He.out]), _, rfl⟩
      · go_wp2
        go_ret2
        exact ⟨ret_ib (by rw [Hp.out]) (by rw [Hp.out, List.getElem?_eq_none (by omega)]; rfl), _, rfl⟩
end Go.Proofs.YtolgjokghecceaaGreatDoor


/-
  Contracts of putting a number into a rising list.
-/
namespace Go.Proofs.YtolgjokghecceaaGreatDoor
open Go.RowKit
set_option maxHeartbeats 2000000 in
theorem putIn_no (w : World) (v : Int) (Axs : Option Addr) (cxs : Nat) (xs : List Int) (hxs : Reads w Axs xs) (lxs : xs.length ≤ 1048576) (hcap : xs.length ≤ cxs) (hs : Rising xs) (hf : hasB xs v = false) :
    Calls Tryz.prog 114 #[.slice Axs xs.length cxs, .int .i64 v] w (RetLB (insAt xs (pos xs v) v) true w) := by
  have hnf : decide (xs[pos xs v]? = some v) = false := by
    rw [decide_eq_false_iff_not, found_iff hs, hf]; simp
  obtain ⟨i0, hi, hz0, hz1, hz2⟩ := info_parts intInfo
  have hpl := pos_le xs v
  have Hs := Lib.hid hs
  have Hxs := Lib.hid hxs
  clear hs hxs
  generalize hp : pos xs v = p at *
  have Hp := Lib.hid hp
  clear hp
  by_cases hcp : cxs = p
  · obtain rfl : p = xs.length := by omega
    subst hcp
    go_enter Tryz.func114, Tryz.ntmps114
    go_wp2_with fail
    refine (search_any _ _ _ _ _ Hxs.out lxs Hs.out).mono ?_; rintro e w1 ⟨rfl, k1, rfl⟩
    rw [Hp.out]
    go_wp2_with (first
      | (at_make; refine wpList_make_own _ rfl _ _ 24 rfl w.heap.size 3 i0 (.int .i64 0) 1 Tryz.underlying24 hi hz0 hz1 .i64 .i64 _ (xs.length + 1) rfl rfl (by simp) (by rw [hz2]; omega) (by unfold maxLen; omega) (Nat.le_refl _) ?_; intro w2 hown2 hgrow2; have hb2 : Below w.heap.size w w2 := (belowDrewN (Below.refl _ _) k1).grown hgrow2 (Nat.le_refl _) (by simp); have ho2 : OwnI w2 w.heap.size (.slice (some ⟨w.heap.size, 0, none⟩) 0 (xs.length + 1)) [] := hown2; clear hown2 hgrow2; have hz2' := hb2.size)
      | (at_builtin; refine wpList_app _ (o := ⟨some 24, _, _, _, _, _⟩) (ys := xs.take xs.length) rfl _ _ rfl rfl (ho2) (xs.length) (xs.length) (by first | (simp; done) | (simp; omega)) rfl ((Hxs.out.below (by (repeat' (first | (with_reducible exact Below.refl _ _) | (with_reducible assumption) | (with_reducible refine Below.drew ?_) | (with_reducible refine belowDrewN ?_ _) | (with_reducible refine Below.alloc ?_ ?_ _) | (with_reducible refine Below.setCell ?_ ?_ _) | (with_reducible refine belowStep (by assumption) ?_ ?_) | (with_reducible exact Below.size (by assumption)) | go_size)))).cutTo xs.length) (by (try simp only [List.length_append, List.length_take, List.length_drop, List.length_nil, List.length_singleton, List.length_cons]); omega) (by first | exact Nat.le_refl _ | ((try simp only [World.size_alloc, World.size_setCell, World.size_drew, World.heap_drewN]); omega)) ?_; intro v3 w3 ho3 hb3 hg3 ht3; clear hg3 ht3; have hz3 := hb3.size; (try simp only [World.size_alloc, World.size_setCell, World.size_drew, World.heap_drewN] at hz3))
      | (at_builtin; refine wpList_app _ (o := ⟨some 28, _, _, _, _, _⟩) (ys := [v]) rfl _ _ rfl rfl (OwnI.below ho3 ((Below.refl _ _).alloc (Nat.le_refl _) _)) (1) (1) (by first | (simp; done) | (simp; omega)) rfl (Reads.one w3 v) (by (try simp only [List.length_append, List.length_take, List.length_drop, List.length_nil, List.length_singleton, List.length_cons]); omega) (by first | exact Nat.le_refl _ | ((try simp only [World.size_alloc, World.size_setCell, World.size_drew, World.heap_drewN]); omega)) ?_; intro v4 w4 ho4 hb4 hg4 ht4; clear hg4 ht4; have hz4 := hb4.size; (try simp only [World.size_alloc, World.size_setCell, World.size_drew, World.heap_drewN] at hz4))
      | (at_builtin; refine wpList_app _ (o := ⟨some 33, _, _, _, _, _⟩) (ys := []) rfl _ _ rfl rfl (ho4) (0) (0) (by first | (simp; done) | (simp; omega)) rfl (Reads.nil) (by (try simp only [List.length_append, List.length_take, List.length_drop, List.length_nil, List.length_singleton, List.length_cons]); omega) (by first | exact Nat.le_refl _ | ((try simp only [World.size_alloc, World.size_setCell, World.size_drew, World.heap_drewN]); omega)) ?_; intro v5 w5 ho5 hb5 hg5 ht5; clear hg5 ht5; have hz5 := hb5.size; (try simp only [World.size_alloc, World.size_setCell, World.size_drew, World.heap_drewN] at hz5)))
    go_ret2
    exact ⟨_, rfl, by simpa [insAt] using ho5, by (repeat' (first | (with_reducible exact Below.refl _ _) | (with_reducible assumption) | (with_reducible refine Below.drew ?_) | (with_reducible refine belowDrewN ?_ _) | (with_reducible refine Below.alloc ?_ ?_ _) | (with_reducible refine Below.setCell ?_ ?_ _) | (with_reducible refine belowStep (by assumption) ?_ ?_) | (with_reducible exact Below.size (by assumption)) | go_size))⟩
  · go_enter Tryz.func114, Tryz.ntmps114
    go_wp2_with fail
    refine (search_any _ _ _ _ _ Hxs.out lxs Hs.out).mono ?_; rintro e w1 ⟨rfl, k1, rfl⟩
    rw [Hp.out]
    go_wp2_with (first
      | (at_make; refine wpList_make_own _ rfl _ _ 24 rfl w.heap.size 3 i0 (.int .i64 0) 1 Tryz.underlying24 hi hz0 hz1 .i64 .i64 _ (xs.length + 1) rfl rfl (by simp) (by rw [hz2]; omega) (by unfold maxLen; omega) (Nat.le_refl _) ?_; intro w2 hown2 hgrow2; have hb2 : Below w.heap.size w w2 := (belowDrewN (Below.refl _ _) k1).grown hgrow2 (Nat.le_refl _) (by simp); have ho2 : OwnI w2 w.heap.size (.slice (some ⟨w.heap.size, 0, none⟩) 0 (xs.length + 1)) [] := hown2; clear hown2 hgrow2; have hz2' := hb2.size)
      | (at_builtin; refine wpList_app _ (o := ⟨some 24, _, _, _, _, _⟩) (ys := xs.take p) rfl _ _ rfl rfl (ho2) (p) (cxs) (by first | (simp; done) | (simp; omega)) rfl ((Hxs.out.below (by (repeat' (first | (with_reducible exact Below.refl _ _) | (with_reducible assumption) | (with_reducible refine Below.drew ?_) | (with_reducible refine belowDrewN ?_ _) | (with_reducible refine Below.alloc ?_ ?_ _) | (with_reducible refine Below.setCell ?_ ?_ _) | (with_reducible refine belowStep (by assumption) ?_ ?_) | (with_reducible exact Below.size (by assumption)) | go_size)))).cutTo p) (by (try simp only [List.length_append, List.length_take, List.length_drop, List.length_nil, List.length_singleton, List.length_cons]); omega) (by first | exact Nat.le_refl _ | ((try simp only [World.size_alloc, World.size_setCell, World.size_drew, World.heap_drewN]); omega)) ?_; intro v3 w3 ho3 hb3 hg3 ht3; clear hg3 ht3; have hz3 := hb3.size; (try simp only [World.size_alloc, World.size_setCell, World.size_drew, World.heap_drewN] at hz3))
      | (at_builtin; refine wpList_app _ (o := ⟨some 28, _, _, _, _, _⟩) (ys := [v]) rfl _ _ rfl rfl (OwnI.below ho3 ((Below.refl _ _).alloc (Nat.le_refl _) _)) (1) (1) (by first | (simp; done) | (simp; omega)) rfl (Reads.one w3 v) (by (try simp only [List.length_append, List.length_take, List.length_drop, List.length_nil, List.length_singleton, List.length_cons]); omega) (by first | exact Nat.le_refl _ | ((try simp only [World.size_alloc, World.size_setCell, World.size_drew, World.heap_drewN]); omega)) ?_; intro v4 w4 ho4 hb4 hg4 ht4; clear hg4 ht4; have hz4 := hb4.size; (try simp only [World.size_alloc, World.size_setCell, World.size_drew, World.heap_drewN] at hz4))
      | (at_builtin; refine wpList_app _ (o := ⟨some 33, _, _, _, _, _⟩) (ys := xs.drop p) rfl _ _ rfl rfl (ho4) ((xs.length - p)) ((cxs - p)) (by first | (simp; done) | (simp; omega)) rfl (Reads.cutA (Hxs.out.below (by (repeat' (first | (with_reducible exact Below.refl _ _) | (with_reducible assumption) | (with_reducible refine Below.drew ?_) | (with_reducible refine belowDrewN ?_ _) | (with_reducible refine Below.alloc ?_ ?_ _) | (with_reducible refine Below.setCell ?_ ?_ _) | (with_reducible refine belowStep (by assumption) ?_ ?_) | (with_reducible exact Below.size (by assumption)) | go_size)))) hpl hcap hcp) (by (try simp only [List.length_append, List.length_take, List.length_drop, List.length_nil, List.length_singleton, List.length_cons]); omega) (by first | exact Nat.le_refl _ | ((try simp only [World.size_alloc, World.size_setCell, World.size_drew, World.heap_drewN]); omega)) ?_; intro v5 w5 ho5 hb5 hg5 ht5; clear hg5 ht5; have hz5 := hb5.size; (try simp only [World.size_alloc, World.size_setCell, World.size_drew, World.heap_drewN] at hz5)))
    go_ret2
    exact ⟨_, rfl, by simpa [insAt] using ho5, by (repeat' (first | (with_reducible exact Below.refl _ _) | (with_reducible assumption) | (with_reducible refine Below.drew ?_) | (with_reducible refine belowDrewN ?_ _) | (with_reducible refine Below.alloc ?_ ?_ _) | (with_reducible refine Below.setCell ?_ ?_ _) | (with_reducible refine belowStep (by assumption) ?_ ?_) | (with_reducible exact Below.size (by assumption)) | go_size))⟩
theorem putIn_yes (w : World) (v : Int) (Axs : Option Addr) (cxs : Nat) (xs : List Int) (hxs : Reads w Axs xs) (lxs : xs.length ≤ 1048576) (hs : Rising xs) (hf : hasB xs v = true) :
    Calls Tryz.prog 114 #[.slice Axs xs.length cxs, .int .i64 v] w (Ret (.tuple #[.slice none 0 0, .bool false]) w) := by
  have hnf : decide (xs[pos xs v]? = some v) = true := by
    rw [decide_eq_true_iff, found_iff hs, hf]
  have Hs := Lib.hid hs
  have Hxs := Lib.hid hxs
  clear hs hxs
  generalize hp : pos xs v = p at *
  have Hp := Lib.hid hp
  clear hp
  go_enter Tryz.func114, Tryz.ntmps114
  go_wp2_with fail
  refine (search_any _ _ _ _ _ Hxs.out lxs Hs.out).mono ?_; rintro e w1 ⟨rfl, k1, rfl⟩
  rw [Hp.out]
  go_wp2
  go_ret2
  exact ⟨rfl, by (repeat' (first | (with_reducible exact Below.refl _ _) | (with_reducible assumption) | (with_reducible refine Below.drew ?_) | (with_reducible refine belowDrewN ?_ _) | (with_reducible refine Below.alloc ?_ ?_ _) | (with_reducible refine Below.setCell ?_ ?_ _) | (with_reducible refine belowStep (by assumption) ?_ ?_) | (with_reducible exact Below.size (by assumption)) | go_size))⟩
end Go.Proofs.YtolgjokghecceaaGreatDoor
