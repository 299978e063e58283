import Derived.Test.YtbjblkfibinenadGreatDoorPk27
import Derived.Test.YtbjblkfibinenadGreatDoorPk4
import Derived.Deep.OwnRows
import Derived.Deep.RegionLaw
import Derived.Laws.CopyOwn

/-
  The contract of the library's Repeat at a list of one number.
-/
namespace Go.Proofs.YtbjblkfibinenadGreatDoor
open Go.RowKit
theorem rep_copy {v : Value} {cur : List Value} {n k m : Nat} (h1 : cur.length = n) (h3 : cur.take k = List.replicate k v) (hk : k + m ≤ n) : (splice cur k (List.replicate m v)).length = n ∧ (splice cur k (List.replicate m v)).take (k + m) = List.replicate (k + m) v := by
  refine ⟨by rw [length_splice _ _ _ (by rw [List.length_replicate]; omega)]; exact h1, ?_⟩
  unfold splice
  rw [h3, ← List.append_assoc, List.replicate_append_replicate]
  exact List.take_left' (by rw [List.length_replicate])
theorem rep_get {v : Value} {cur : List Value} {k m : Nat} (h3 : cur.take k = List.replicate k v) (hm : m ≤ k) {j : Nat} {u : Value} (hu : (List.replicate m v)[j]? = some u) : cur[j]? = some u := by
  have hj : j < m := by have := (List.getElem?_eq_some_iff.1 hu).1; simpa using this
  have hu' : u = v := List.eq_of_mem_replicate (List.mem_of_getElem? hu)
  have : (cur.take k)[j]? = (List.replicate k v)[j]? := by rw [h3]
  rw [List.getElem?_take, if_pos (by omega), List.getElem?_replicate, if_pos (by omega)] at this
  rw [this, hu']
set_option maxRecDepth 100000 in
set_option maxHeartbeats 16000000 in
theorem repeat_any (w : World) (A : Option Addr) (c : Nat) (d : Int) (n : Nat) (h1 : 1 ≤ n) (hn : n ≤ 24) (hr : Reads w A [d]) : Calls Tryz.prog 144 #[.slice A 1 c, .int .i64 (n : Int)] w (RetL (List.replicate n d) w) := by
  obtain ⟨b, o, x, rfl, hb, hx, hcell⟩ := hr.at_ (k := 0) (by simp)
  obtain rfl : d = x := by simpa using hx
  clear hr hx
  have u1 : IntKind.u64.wrap (n : Int) = (n : Int) := IntWalk.u64_in _ (by omega)
  have u2 : IntKind.i64.wrap (n : Int) = (n : Int) := IntWalk.i64_in _ (by omega)
  have e0 : (1 * n / 18446744073709551616 : Nat) = 0 := by omega
  have e1 : (1 * n % 18446744073709551616 : Nat) = n := by omega
  have g1 : ¬ (n : Int) < 0 := by omega
  have g2 : ¬ (9223372036854775807 : Int) < (n : Int) := by omega
  have hmk : ∀ w : World, (Instr.makeSlice 24 (.int .i64 (n : Int)) (.int .i64 (n : Int))).run Tryz.prog w = .ok (.slice (some ⟨w.heap.size, 0, none⟩) n n) (w.alloc (.cells (madeCells #[.int .i64 0] n) 3)) := fun w =>
    run_make_row' 24 3 (.int .i64 0) 8 Tryz.underlying24 intInfo rfl .i64 .i64 n (by omega) (by omega) w
  go_enter Tryz.func144, Tryz.ntmps144
  go_wp2_with fail
  refine (Tryz.bits_Mul 1 n (by omega) (by omega) _).mono ?_; rintro e w1 ⟨rfl, hw1⟩
  have hw1' := hw1.symm
  subst hw1'
  rw [e0, e1]
  have hsz : (Tryz.prog.info? 3).map (·.size) = some 1 := by
    obtain ⟨i0, hi, hz0, hz1, hz2⟩ := info_parts intInfo
    rw [hi]; simp [hz1]
  have hnew : (w.alloc (.cells (madeCells #[.int .i64 0] n) 3)).heap[w.heap.size]? = some (.cells (madeCells #[.int .i64 0] n).toList.toArray 3 (0, 0)) := heap_alloc_new w _
  have hml : (madeCells #[Value.int .i64 0] n).toList.length = n := by rw [toList_madeCells_one]; simp
  have hpos : ∀ j v, [Value.int .i64 d][j]? = some v → (w.alloc (.cells (madeCells #[.int .i64 0] n) 3)).cell? ((⟨b, o, none⟩ : Addr).add j) = some v := fun j v hv => by
    have hj : j = 0 := by have := (List.getElem?_eq_some_iff.1 hv).1; simpa using this
    subst hj
    obtain rfl : v = .int .i64 d := by simpa using hv.symm
    rw [((Below.refl w.heap.size w).alloc (Nat.le_refl w.heap.size) _).cell (by exact hb)]
    simpa [Addr.add] using hcell
  have hmin : [Value.int .i64 d].length = Nat.min 1 n := (Nat.min_eq_left h1).symm
  have hfit : 0 + [Value.int .i64 d].length ≤ (madeCells #[Value.int .i64 0] n).toList.length := by rw [hml]; simp; omega
  have h1c : ∀ v ∈ [Value.int .i64 d], v.oneCell' = true := by intro v hv; rw [List.mem_singleton.1 hv]; rfl
  have hba : Below w.heap.size w (w.alloc (.cells (madeCells #[.int .i64 0] n) 3)) := (Below.refl _ _).alloc (Nat.le_refl _) _
  have C1 := Lib.hid hnew
  have C2 := Lib.hid hpos
  have C3 := Lib.hid hmin
  have C4 := Lib.hid hfit
  have C5 := Lib.hid h1c
  clear hnew hpos hmin hfit h1c hml
  go_wp2_with (refine wpList_copy_splice (o := ⟨some 33, _, _, _, _, _⟩) rfl (.tmp 31) (.tmp 32) 24 24 rfl 3 Tryz.underlying24 hsz (some ⟨w.heap.size, 0, none⟩) (some ⟨b, o, none⟩) n n 1 c rfl rfl w.heap.size 0 (madeCells #[.int .i64 0] n).toList 3 C1.out [.int .i64 d] (Nat.min_eq_left h1).symm (fun _ => ⟨rfl, _, rfl, C2.out⟩) C4.out C5.out w.heap.size w ((Below.refl _ _).alloc (Nat.le_refl _) _) (Nat.le_refl _) ?_; intro w5 h5 hb5)
  clear C1 C2 C3 C4 C5 hcell hmk e0 e1 hb g1 g2 u1 hba
  obtain ⟨cur5, hcur5⟩ : ∃ cur5, cur5 = splice (madeCells #[Value.int .i64 0] n).toList 0 [Value.int .i64 d] := ⟨_, rfl⟩
  have hc5 : cur5.length = n ∧ cur5.take 1 = List.replicate 1 (Value.int .i64 d) := by
    have := rep_copy (v := Value.int .i64 d) (cur := (madeCells #[Value.int .i64 0] n).toList) (n := n) (k := 0) (m := 1) (by rw [toList_madeCells_one]; simp) (by simp) (by omega)
    rw [hcur5]
    exact this
  rw [← hcur5] at h5
  clear hcur5
  have HC5 := Lib.hid hc5
  clear hc5
  go_loopw [8] (fun v8 wr => ∃ (k : Nat) (cur : List Value), 1 ≤ k ∧ k ≤ n ∧ v8 = .int .i64 (k : Int) ∧ Hid (cur.length = n) ∧ Hid (cur.take k = List.replicate k (.int .i64 d)) ∧ Hid (wr.heap[w.heap.size]? = some (.cells cur.toArray 3 (0, 0))) ∧ Below w.heap.size w wr) (fun v8 _ => n - (intOf v8).toNat)
  case atStart => exact ⟨1, cur5, Nat.le_refl _, h1, rfl, Lib.hid HC5.out.1, Lib.hid HC5.out.2, h5, hb5⟩
  case round =>
    clear HC5 h5 hb5
    obtain ⟨k, cur, k1, k2, rfl, c1, c2, c3, hbr⟩ := hrel
    by_cases hlt : k < n
    · obtain ⟨m, hm⟩ : ∃ m, m = Nat.min k (n - k) := ⟨_, rfl⟩
      have hmn : k + m ≤ n := by have := Nat.min_le_right k (n - k); rw [hm]; show k + min k (n - k) ≤ n; omega
      have hmk : m ≤ k := by have := Nat.min_le_left k (n - k); rw [hm]; show min k (n - k) ≤ k; omega
      have hm1 : 1 ≤ m := by rw [hm]; show 1 ≤ min k (n - k); omega
      have HM := Lib.hid hm
      clear hm
      have hki : (k : Int) < (n : Int) := by omega
      have s1 : IntKind.i64.wrap ((k : Int) + (m : Int)) = (k : Int) + (m : Int) := IntWalk.i64_in _ (by omega)
      have s2 : (0 : Int) ≤ (k : Int) := by omega
      have s3 : ((k : Int)).toNat = k := by omega
      have q2 : (k : Int) ≤ (n : Int) := by omega
      have q5 : ¬ n = k := by omega
      have RC := Lib.hid (rep_copy c1.out c2.out hmn)
      have GC := Lib.hid fun (j : Nat) (u : Value) (hu : (List.replicate m (Value.int .i64 d))[j]? = some u) => (by
        have h1 := rep_get c2.out hmk hu
        have hjl : j < cur.length := (List.getElem?_eq_some_iff.1 h1).1
        have ha : ((⟨w.heap.size, 0, none⟩ : Addr).add j) = ⟨w.heap.size, j, none⟩ := by unfold Addr.add; split <;> simp_all
        rw [ha]
        simp [World.cell?, c3.out, h1] : wr.cell? ((⟨w.heap.size, 0, none⟩ : Addr).add j) = some u)
      go_wp2
      go_region_law (refine step_copy_splice (o := ⟨some 45, _, _, _, _, _⟩) rfl (.tmp 41) (.tmp 44) 24 24 rfl 3 Tryz.underlying24 hsz (some ⟨w.heap.size, k, none⟩) (some ⟨w.heap.size, 0, none⟩) (n - k) (n - k) k n rfl rfl w.heap.size k cur 3 c3.out (List.replicate m (Value.int .i64 d)) (by rw [List.length_replicate]; exact HM.out) (fun _ => ⟨rfl, _, rfl, GC.out⟩) (by rw [List.length_replicate, c1.out]; exact hmn) (fun v hv => by rw [List.eq_of_mem_replicate hv]; rfl) w.heap.size w (by (repeat' (first | (with_reducible exact Below.refl _ _) | (with_reducible assumption) | (with_reducible refine Below.drew ?_) | (with_reducible refine belowDrewN ?_ _) | (with_reducible refine Below.alloc ?_ ?_ _) | (with_reducible refine Below.setCell ?_ ?_ _) | (with_reducible refine belowStep (by assumption) ?_ ?_) | (with_reducible exact Below.size (by assumption)) | go_size))) (Nat.le_refl _) ?_; intro w7 h7 hb7; rw [List.length_replicate])
      all_goals refine ⟨⟨.int .i64 ((k : Int) + (m : Int)), _, _, _, _, _, _, _, _, _, _, _, _, _, ⟨k + m, splice cur k (List.replicate m (.int .i64 d)), by omega, hmn, by go_num, Lib.hid RC.out.1, Lib.hid RC.out.2, h7, by (repeat' (first | (with_reducible exact Below.refl _ _) | (with_reducible assumption) | (with_reducible refine Below.drew ?_) | (with_reducible refine belowDrewN ?_ _) | (with_reducible refine Below.alloc ?_ ?_ _) | (with_reducible refine Below.setCell ?_ ?_ _) | (with_reducible refine belowStep (by assumption) ?_ ?_) | (with_reducible exact Below.size (by assumption)) | go_size))⟩, rfl⟩, ?_⟩
      all_goals show n - (intOf (Value.int .i64 ((k : Int) + (m : Int)))).toNat < n - (intOf (Value.int .i64 (k : Int))).toNat
      all_goals (simp [intOf]; omega)
    · obtain rfl : k = n := by omega
      have hki : ¬ (k : Int) < (k : Int) := by omega
      go_wp2
      go_ret
      refine ⟨_, rfl, ?_, by (repeat' (first | (with_reducible exact Below.refl _ _) | (with_reducible assumption) | (with_reducible refine Below.drew ?_) | (with_reducible refine belowDrewN ?_ _) | (with_reducible refine Below.alloc ?_ ?_ _) | (with_reducible refine Below.setCell ?_ ?_ _) | (with_reducible refine belowStep (by assumption) ?_ ?_) | (with_reducible exact Below.size (by assumption)) | go_size))⟩
      unfold OwnI
      rw [List.length_replicate]
      refine ⟨by simp, .inr ⟨w.heap.size, k, cur.toArray, rfl, Nat.le_refl _, by simpa using c3.out, Nat.le_refl _, by unfold maxLen; omega, by simp [c1.out], ?_⟩⟩
      rw [Nat.mul_one, List.map_replicate]
      exact c2.out
end Go.Proofs.YtbjblkfibinenadGreatDoor
