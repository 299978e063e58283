
/-
  Contracts of what reads texts: the model's cut at a byte and its numbers; the program's numbers.
-/
import Derived.Test.YtbjblkfibinenabDoorEnvA
import Derived.Test.YtbjblkfibinenabDoorShow
import Derived.LoopTactic
namespace Go.Proofs.YtbjblkfibinenabDoor
open Go.RowKit
theorem bl_len (s : ByteArray) : s.data.toList.length = s.size := by rw [Array.length_toList]; rfl
theorem drop_at' (s : ByteArray) (k : Nat) (h : k < s.size) : s.data.toList.drop k = s[k] :: s.data.toList.drop (k + 1) := by
  rw [List.drop_eq_getElem_cons (by rw [bl_len]; exact h)]; rfl
theorem ext_list (s : ByteArray) (f i : Nat) : s.extract f i = ⟨((s.data.toList.drop f).take (i - f)).toArray⟩ := by
  have : s = ⟨s.data.toList.toArray⟩ := ByteArray.ext (by simp)
  rw [this, ByteArray.extract_mk]
theorem rd_none {l : List UInt8} {m : Int} {k : Nat} (h : digs 0 l = digs m (l.drop k)) {c : UInt8} {r : List UInt8} (hd : l.drop k = c :: r) (hc : ¬ (48 ≤ c.toNat ∧ c.toNat ≤ 57)) : rdI l = -1 := by
  unfold rdI
  split
  · rfl
  · rw [h, hd, digs, if_neg hc]; rfl
theorem rd_some {l : List UInt8} {m : Int} {k : Nat} (hn : ¬ (l.length = 0 ∨ 10 < l.length ∨ (1 < l.length ∧ l.head? = some 48))) (h : digs 0 l = digs m (l.drop k)) (hk : k = l.length) : rdI l = m := by
  unfold rdI
  rw [if_neg hn, h, hk, List.drop_length, digs]; rfl
theorem digs_step {l : List UInt8} {m : Nat} {k : Nat} {c : UInt8} {r : List UInt8} (h : digs 0 l = digs m (l.drop k)) (hd : l.drop k = c :: r) (h1 : 48 ≤ c.toNat) (h2 : c.toNat ≤ 57) : digs 0 l = digs ((10 * m + (c.toNat - 48) : Nat) : Int) r := by
  rw [h, hd, digs, if_pos ⟨h1, h2⟩]
  congr 1; omega
/-- only a number: the world is as it was -/
def RetW (v : Value) (w : World) (e : Ending) (w' : World) : Prop := e = .returned v ∧ w = w'
set_option maxRecDepth 100000 in
set_option maxHeartbeats 4000000 in
theorem unRead_any (s : ByteArray) (w : World) (hs : s.size ≤ 9223372036854775807) : Calls Tryd.prog 46 #[.string s] w (RetW (.int .i64 (rdI s.data.toList)) w) := by
  have hll := bl_len s
  by_cases h0 : s.size = 0
  · have hz0 : s.data.toList.length = 0 := by omega
    have HE : Hid (rdI s.data.toList = -1) := by show rdI s.data.toList = -1; rw [rdI, if_pos (.inl hz0)]
    have h1 : ((s.size : Int) == 0) = true := by simp [h0]
    clear h0 hll hz0
    go_enter Tryd.func46, Tryd.ntmps46
    go_wp2
    go_ret
    exact ⟨ret_int HE.out.symm, rfl⟩
  · have h1 : ((s.size : Int) == 0) = false := beq_false_of_ne (by omega)
    by_cases h10 : 10 < s.size
    · have hz1 : 10 < s.data.toList.length := by omega
      have HE : Hid (rdI s.data.toList = -1) := by show rdI s.data.toList = -1; rw [rdI, if_pos (.inr (.inl hz1))]
      have h2 : 10 < (s.size : Int) := by omega
      clear h0 hll hz1
      go_enter Tryd.func46, Tryd.ntmps46
      go_wp2
      go_ret
      exact ⟨ret_int HE.out.symm, rfl⟩
    · have h2 : ¬ 10 < (s.size : Int) := by omega
      have hs1 : 0 < s.size := by omega
      have hdr := drop_at' s 0 hs1
      rw [List.drop_zero] at hdr
      by_cases hz : 1 < s.size ∧ s[0]'hs1 = 48
      · have HE : Hid (rdI s.data.toList = -1) := by
          show rdI s.data.toList = -1
          have hz2 : 1 < s.data.toList.length := by rw [hll]; exact hz.1
          have hz3 : s.data.toList.head? = some 48 := by rw [hdr, hz.2]; rfl
          rw [rdI, if_pos (.inr (.inr ⟨hz2, hz3⟩))]
        have h3 : 1 < (s.size : Int) := by omega
        have h4 : (((s[0]'hs1).toNat : Int) == 48) = true := by rw [hz.2]; rfl
        clear h0 hll hdr hz
        go_enter Tryd.func46, Tryd.ntmps46
        go_wp2
        go_ret
        exact ⟨ret_int HE.out.symm, rfl⟩
      · have HN : Hid (¬ (s.data.toList.length = 0 ∨ 10 < s.data.toList.length ∨ (1 < s.data.toList.length ∧ s.data.toList.head? = some 48))) := by
          rintro (h | h | ⟨h, h'⟩)
          · omega
          · omega
          · rw [hdr] at h'
            simp only [List.head?_cons, Option.some.injEq] at h'
            exact hz ⟨by omega, h'⟩
        have HL := Lib.hid hll
        clear hdr hll
        by_cases h3 : 1 < s.size
        · have h3' : 1 < (s.size : Int) := by omega
          have h4 : (((s[0]'hs1).toNat : Int) == 48) = false := by
            have : s[0]'hs1 ≠ 48 := fun e => hz ⟨h3, e⟩
            have : (s[0]'hs1).toNat ≠ 48 := fun e => this (by rw [← UInt8.toNat_inj, e]; rfl)
            simp; omega
          clear hz h0 h3
          go_enter Tryd.func46, Tryd.ntmps46
          go_wp2
          go_loop [3, 4] (fun v3 v4 => ∃ k m : Nat, k ≤ s.size ∧ v4 = .int .i64 k ∧ v3 = .int .i64 m ∧ digs 0 s.data.toList = digs m (s.data.toList.drop k) ∧ m < 10 ^ k) (fun _ v4 => s.size - (intOf v4).toNat)
          case atStart => exact ⟨0, 0, Nat.zero_le _, rfl, rfl, rfl, by simp⟩
          case round =>
            obtain ⟨k, m, hk, rfl, rfl, hdg, hm⟩ := hrel
            have Hdg := Lib.hid hdg
            clear hdg
            by_cases hlt : k < s.size
            · have Hd := Lib.hid (drop_at' s k hlt)
              have hp : 10 ^ k ≤ 10 ^ 9 := Nat.pow_le_pow_right (by omega) (by omega)
              have hm1 : m < 1000000000 := by omega
              have Hm := Lib.hid hm
              clear hp hm
              by_cases h48 : ((s[k]).toNat : Int) < 48
              · have HE := Lib.hid (rd_none Hdg.out Hd.out (by omega))
                go_wp2
                go_ret
                exact ⟨ret_int HE.out.symm, rfl⟩
              · by_cases h57 : 57 < ((s[k]).toNat : Int)
                · have HE := Lib.hid (rd_none Hdg.out Hd.out (by omega))
                  go_wp2
                  go_ret
                  exact ⟨ret_int HE.out.symm, rfl⟩
                · have HE := Lib.hid (digs_step Hdg.out Hd.out (by omega) (by omega))
                  go_wp2
                  go_round
                  case rel => exact ⟨k + 1, 10 * m + ((s[k]).toNat - 48), by omega, by go_num, by go_num, HE.out, by have := Hm.out; rw [Nat.pow_succ]; omega⟩
                  case measure => simp [intOf]; omega
            · obtain rfl : k = s.size := by omega
              have HE := Lib.hid (rd_some HN.out Hdg.out HL.out.symm)
              go_wp2
              go_ret
              exact ⟨ret_int HE.out.symm, rfl⟩
        · have h3' : ¬ 1 < (s.size : Int) := by omega
          clear hz h0 h3
          go_enter Tryd.func46, Tryd.ntmps46
          go_wp2
          go_loop [3, 4] (fun v3 v4 => ∃ k m : Nat, k ≤ s.size ∧ v4 = .int .i64 k ∧ v3 = .int .i64 m ∧ digs 0 s.data.toList = digs m (s.data.toList.drop k) ∧ m < 10 ^ k) (fun _ v4 => s.size - (intOf v4).toNat)
          case atStart => exact ⟨0, 0, Nat.zero_le _, rfl, rfl, rfl, by simp⟩
          case round =>
            obtain ⟨k, m, hk, rfl, rfl, hdg, hm⟩ := hrel
            have Hdg := Lib.hid hdg
            clear hdg
            by_cases hlt : k < s.size
            · have Hd := Lib.hid (drop_at' s k hlt)
              have hp : 10 ^ k ≤ 10 ^ 9 := Nat.pow_le_pow_right (by omega) (by omega)
              have hm1 : m < 1000000000 := by omega
              have Hm := Lib.hid hm
              clear hp hm
              by_cases h48 : ((s[k]).toNat : Int) < 48
              · have HE := Lib.hid (rd_none Hdg.out Hd.out (by omega))
                go_wp2
                go_ret
                exact ⟨ret_int HE.out.symm, rfl⟩
              · by_cases h57 : 57 < ((s[k]).toNat : Int)
                · have HE := Lib.hid (rd_none Hdg.out Hd.out (by omega))
                  go_wp2
                  go_ret
                  exact ⟨ret_int HE.out.symm, rfl⟩
                · have HE := Lib.hid (digs_step Hdg.out Hd.out (by omega) (by omega))
                  go_wp2
                  go_round
                  case rel => exact ⟨k + 1, 10 * m + ((s[k]).toNat - 48), by omega, by go_num, by go_num, HE.out, by have := Hm.out; rw [Nat.pow_succ]; omega⟩
                  case measure => simp [intOf]; omega
            · obtain rfl : k = s.size := by omega
              have HE := Lib.hid (rd_some HN.out Hdg.out HL.out.symm)
              go_wp2
              go_ret
              exact ⟨ret_int HE.out.symm, rfl⟩
theorem strsInfo : (Tryd.prog.info? 9).map (fun i => (i.zero, i.size, i.bytes)) = some (some (.string ⟨#[]⟩), 1, 16) := by kernel_rfl
theorem wpList_appS {base : Nat} {v : Value} {ls : List (List UInt8)} (w : World) {ops : Array Oper} {rest : List Oper} {o : Oper} {a : Act} {Q : Exit → Act → World → Prop} (hgd : o.guard = none) (s x : Operand)
    (ho : o.op = .call { callee := .builtin .append, args := #[s, x], argTypes := #[58, 58] })
    (hs : a.eval s = v) (hown : OwnS w base v ls) (b c : Nat) (l : List UInt8) (hx : a.eval x = .slice (some ⟨b, 0, none⟩) 1 c) (hc : w.cell? ⟨b, 0, none⟩ = some (.string ⟨l.toArray⟩)) (hlen : ls.length ≤ 16777216) (hbase : base ≤ w.heap.size)
    (h : ∀ v' w', OwnS w' base v' (ls ++ [l]) → Below base w w' → wpList Tryd.prog ops Q rest (a.put o.dst v') w') :
    wpList Tryd.prog ops Q (o :: rest) a w := by
  refine wpList_plain hgd fun K hK => ?_
  obtain ⟨i0, hi, iz0, iz1, iz2⟩ := info_parts strsInfo
  obtain ⟨v', w', hrun, h2, h3, _, h5⟩ := run_append_own_at (P := Tryd.prog) w base 58 o.type 9 i0 (.string ⟨#[]⟩) 1 16 Tryd.underlying58 hi iz0 iz1 iz2 rfl (by omega) v ls.length _ hown ⟨b, 0, none⟩ 1 c [.string ⟨l.toArray⟩] (by simp)
    (fun j u hj => by
      match j, hj with
      | 0, hj =>
        simp only [List.getElem?_cons_zero, Option.some.injEq] at hj
        subst hj
        rw [Go.WideShapes.add_plain]
        exact hc)
    (fun u hu => by
      simp only [List.mem_singleton] at hu
      subst hu; rfl) (by unfold maxLen; omega) (by omega) hbase
  unfold Oper.wp execOp
  simp only [ho, resolve, invoke, builtin, Sem.run_bind, Sem.run_pure, Result.andThen_ok, List.map_toArray, List.map_cons, List.map_nil, hs, hx, hrun]
  exact hK _ _ (h v' w' (by simpa [OwnS] using h2) ((Below.refl base w).grown h3 hbase (fun k hk => (World.ownsRow.lt hown k hk).1)))
theorem OwnS.empty (w : World) (base : Nat) : OwnS w base (.slice none 0 0) [] := World.ownsRow_nil w base _ 1
theorem OwnS.form {w : World} {base : Nat} {v : Value} {ls : List (List UInt8)} (h : OwnS w base v ls) (hn : ls ≠ []) : ∃ g c, v = .slice (some ⟨g, 0, none⟩) ls.length c ∧ ls.length ≤ c ∧ g < w.heap.size ∧ ∀ k l, ls[k]? = some l → w.cell? ⟨g, k, none⟩ = some (.string ⟨l.toArray⟩) := by
  rcases h.2 with ⟨_, h0⟩ | ⟨g, cap, cur, hv, hb, hg, hnc, hcm, hcs, ht⟩
  · exact absurd (List.eq_nil_of_length_eq_zero h0) hn
  · subst hv
    exact ⟨g, cap, rfl, hnc, (World.ownsRow.lt h g rfl).2, fun k l hl => (h.cell_ rfl hl).1⟩
theorem glue_one (x : List UInt8) (b : UInt8) : glue x (splitL b []) = [x] := by simp [splitL, glue]
theorem take_more {l : List UInt8} {f i : Nat} {c : UInt8} {r : List UInt8} (hf : f ≤ i) (hd : l.drop i = c :: r) : (l.drop f).take (i + 1 - f) = (l.drop f).take (i - f) ++ [c] := by
  have h1 : (l.drop f)[i - f]? = some c := by
    rw [List.getElem?_drop, show f + (i - f) = i from by omega]
    have : (l.drop i)[0]? = some c := by rw [hd]; rfl
    rwa [List.getElem?_drop, Nat.add_zero] at this
  rw [show i + 1 - f = (i - f) + 1 from by omega, List.take_add_one, h1]
  rfl
theorem split_hit {b : UInt8} {l x r : List UInt8} {ps : List (List UInt8)} {i : Nat} {c : UInt8} (h : splitL b l = ps ++ glue x (splitL b (l.drop i))) (hd : l.drop i = c :: r) (hc : c = b) : splitL b l = (ps ++ [x]) ++ glue [] (splitL b r) := by
  rw [h, hd, splitL, if_pos hc, glue_nil (split_ne b r)]
  simp [glue]
theorem split_miss {b : UInt8} {l x r : List UInt8} {ps : List (List UInt8)} {i : Nat} {c : UInt8} (h : splitL b l = ps ++ glue x (splitL b (l.drop i))) (hd : l.drop i = c :: r) (hc : c ≠ b) : splitL b l = ps ++ glue (x ++ [c]) (splitL b r) := by
  rw [h, hd, splitL, if_neg hc, glue_glue]
set_option maxRecDepth 100000 in
set_option maxHeartbeats 4000000 in
theorem l1Split_any (s : ByteArray) (b : UInt8) (bi : Int) (w : World) (hbi : bi = (b.toNat : Int)) (hs : s.size ≤ 1048576) : Calls Tryd.prog 45 #[.string s, .int .u8 bi] w (fun e w' => ∃ v, e = .returned v ∧ OwnS w' w.heap.size v (splitL b s.data.toList) ∧ Below w.heap.size w w') := by
  have HB := Lib.hid hbi
  have HL := Lib.hid (bl_len s)
  clear hbi
  go_enter Tryd.func45, Tryd.ntmps45
  go_wp2
  go_loopw [5, 6, 7] (fun v5 v6 v7 wr => ∃ (i f : Nat) (ps : List (List UInt8)), f ≤ i ∧ i ≤ s.size ∧ v7 = .int .i64 i ∧ v6 = .int .i64 f ∧ splitL b s.data.toList = ps ++ glue ((s.data.toList.drop f).take (i - f)) (splitL b (s.data.toList.drop i)) ∧ OwnS wr w.heap.size v5 ps ∧ ps.length ≤ i ∧ Below w.heap.size w wr) (fun _ _ v7 _ => s.size - (intOf v7).toNat)
  case atStart => exact ⟨0, 0, [], Nat.le_refl _, Nat.zero_le _, rfl, rfl, by simp [glue_nil (split_ne b _)], OwnS.empty _ _, by simp, Below.refl _ _⟩
  case round =>
    obtain ⟨i, f, ps, hf, hi, rfl, rfl, hsp, ho, hpl, hbr⟩ := hrel
    have hzr := hbr.size
    have Hsp := Lib.hid hsp
    have Ho := Lib.hid ho
    clear hsp ho
    by_cases hlt : i < s.size
    · have Hd := Lib.hid (drop_at' s i hlt)
      by_cases hc : s[i] = b
      · have Hn := Lib.hid (split_hit Hsp.out Hd.out hc)
        have hcc : (((s[i]).toNat : Int) == bi) = true := by rw [HB.out, hc]; simp
        have Hx := Lib.hid (ext_list s f i)
        clear hc
        go_wp2_with (at_builtin; refine wpList_appS _ (o := ⟨some 25, _, _, _, _, _⟩) rfl _ _ rfl rfl (OwnS.below Ho.out ((Below.refl _ _).alloc (Nat.le_refl _) _)) wr.heap.size 1 ((s.data.toList.drop f).take (i - f)) rfl (by simp [Hx.out]) (by omega) (by simp; omega) ?_; intro v4 w4 ho4 hb4)
        go_roundw
        case rel => exact ⟨i + 1, i + 1, ps ++ [(s.data.toList.drop f).take (i - f)], Nat.le_refl _, by omega, by go_num, by go_num, by simpa using Hn.out, ho4, by simp; omega, by (repeat' (first | (with_reducible exact Below.refl _ _) | (with_reducible assumption) | (with_reducible refine Below.drew ?_) | (with_reducible refine belowDrewN ?_ _) | (with_reducible refine Below.alloc ?_ ?_ _) | (with_reducible refine Below.setCell ?_ ?_ _) | (with_reducible refine belowStep (by assumption) ?_ ?_) | (with_reducible exact Below.size (by assumption)) | go_size))⟩
        case measure => simp [intOf]; omega
      · have Hn := Lib.hid (split_miss Hsp.out Hd.out hc)
        have hcc : (((s[i]).toNat : Int) == bi) = false := by
          have : (s[i]).toNat ≠ b.toNat := fun e => hc (UInt8.toNat_inj.1 e)
          rw [HB.out]; simp; omega
        have Ht := Lib.hid (take_more hf Hd.out)
        clear hc
        go_wp2
        go_roundw
        case rel => exact ⟨i + 1, f, ps, by omega, by omega, by go_num, rfl, by rw [Ht.out]; exact Hn.out, Ho.out, by omega, hbr⟩
        case measure => simp [intOf]; omega
    · obtain rfl : i = s.size := by omega
      have Hn : Hid (splitL b s.data.toList = ps ++ [(s.data.toList.drop f).take (s.size - f)]) := by
        show splitL b s.data.toList = _
        have h1 := Hsp.out
        rw [show s.data.toList.drop s.size = [] from by rw [← HL.out, List.drop_length], glue_one] at h1
        exact h1
      have Hx := Lib.hid (ext_list s f s.size)
      go_wp2_with (at_builtin; refine wpList_appS _ (o := ⟨some 33, _, _, _, _, _⟩) rfl _ _ rfl rfl (OwnS.below Ho.out ((Below.refl _ _).alloc (Nat.le_refl _) _)) wr.heap.size 1 ((s.data.toList.drop f).take (s.size - f)) rfl (by simp [Hx.out]) (by omega) (by simp; omega) ?_; intro v4 w4 ho4 hb4)
      go_ret
      exact ⟨_, rfl, by rw [Hn.out]; exact ho4, by (repeat' (first | (with_reducible exact Below.refl _ _) | (with_reducible assumption) | (with_reducible refine Below.drew ?_) | (with_reducible refine belowDrewN ?_ _) | (with_reducible refine Below.alloc ?_ ?_ _) | (with_reducible refine Below.setCell ?_ ?_ _) | (with_reducible refine belowStep (by assumption) ?_ ?_) | (with_reducible exact Below.size (by assumption)) | go_size))⟩
end Go.Proofs.YtbjblkfibinenabDoor
