
/-
  Contracts of the law's helpers on lists of fractions: comparison, marks, and the look for marks.
-/
import Derived.Test.YtocnjfbcblbjeaaWalk
import Derived.Test.YtocnjfbcblbjeaaOps
import Derived.Test.YtocnjfbcblbjeaaMark
namespace Go.Proofs.Ytocnjfbcblbjeaa
open Go.RowKit
theorem fcells_at {fs : List (Int × Int)} : ∀ {k : Nat} {p : Int × Int}, fs[k]? = some p → (fcells fs)[k * 2]? = some (.int .i64 p.1) ∧ (fcells fs)[k * 2 + 1]? = some (.int .i64 p.2) := by
  induction fs with
  | nil => intro k p h; simp at h
  | cons q fs ih =>
    intro k p h
    have e : fcells (q :: fs) = .int .i64 q.1 :: .int .i64 q.2 :: fcells fs := rfl
    cases k with
    | zero => simp at h; subst h; exact ⟨rfl, rfl⟩
    | succ k =>
      have := ih (k := k) (p := p) (by simpa using h)
      rw [e, show (k + 1) * 2 = k * 2 + 1 + 1 from by omega]
      simpa using this
/-- a slice of fractions that reads so -/
def ReadsF (w : World) (A : Option Addr) (fs : List (Int × Int)) : Prop :=
  0 < fs.length → ∃ b, A = some ⟨b, 0, none⟩ ∧ b < w.heap.size ∧ ∀ k p, fs[k]? = some p → w.cell? ⟨b, k * 2, none⟩ = some (.int .i64 p.1) ∧ w.cell? ⟨b, k * 2 + 1, none⟩ = some (.int .i64 p.2)
section
variable {w w' : World} {base : Nat} {v : Value} {A : Option Addr} {fs : List (Int × Int)}
theorem ReadsF.below (h : ReadsF w A fs) (hb : Below w.heap.size w w') : ReadsF w' A fs := fun h0 => by
  obtain ⟨b, e, hlt, hc⟩ := h h0
  refine ⟨b, e, Nat.lt_of_lt_of_le hlt hb.size, fun k p hp => ?_⟩
  obtain ⟨c1, c2⟩ := hc k p hp
  exact ⟨(hb.cell (p := ⟨b, _, none⟩) hlt).trans c1, (hb.cell (p := ⟨b, _, none⟩) hlt).trans c2⟩
theorem ReadsF.drewN (h : ReadsF w A fs) (k : Nat) : ReadsF (w.drewN k) A fs := h
theorem ReadsF.at_ (h : ReadsF w A fs) {k : Nat} (hk : k < fs.length) : ∃ b n d, A = some ⟨b, 0, none⟩ ∧ b < w.heap.size ∧ fs[k]? = some (n, d) ∧ w.cell? ⟨b, k * 2, none⟩ = some (.int .i64 n) ∧ w.cell? ⟨b, k * 2 + 1, none⟩ = some (.int .i64 d) := by
  obtain ⟨b, e, hlt, hc⟩ := h (by omega)
  have hx := List.getElem?_eq_getElem hk
  obtain ⟨c1, c2⟩ := hc k _ hx
  exact ⟨b, fs[k].1, fs[k].2, e, hlt, hx, c1, c2⟩
theorem OwnF.reads (h : OwnF w base v fs) : ∃ A c, v = .slice A fs.length c ∧ ReadsF w A fs := by
  have hl := fcells_len fs
  rcases h.2 with ⟨hv, h0⟩ | ⟨g, cap, cur, hv, hb, hg, r⟩
  · exact ⟨none, 0, by rw [hv, h0], fun h1 => by omega⟩
  · subst hv
    refine ⟨some ⟨g, 0, none⟩, cap, rfl, fun _ => ⟨g, rfl, (h.block g rfl).2, fun k p hp => ?_⟩⟩
    have hlt : k < fs.length := (List.getElem?_eq_some_iff.1 hp).1
    refine ⟨?_, ?_⟩
    · rw [World.ownsRow.cellAt (h : w.ownsRow _ _ _ _ _ _) (k * 2) (by omega)]; exact (fcells_at hp).1
    · rw [World.ownsRow.cellAt (h : w.ownsRow _ _ _ _ _ _) (k * 2 + 1) (by omega)]; exact (fcells_at hp).2
theorem rowBelow {e : TypeId} {sz n : Nat} {cs : List Value} (h : w.ownsRow base e sz v n cs) (hb : Below w.heap.size w w') : w'.ownsRow base e sz v n cs := by
  refine ⟨h.1, ?_⟩
  rcases h.2 with h0 | ⟨g, cap, cur, hv, hbg, hg, r⟩
  · exact .inl h0
  · refine .inr ⟨g, cap, cur, hv, hbg, ?_, r⟩
    have hlt := (World.ownsRow.lt h g (by rw [hv]; rfl)).2
    rw [hb.block g hlt]
    exact hg
theorem OwnF.empty (w : World) (base : Nat) : OwnF w base (.slice none 0 0) [] := World.ownsRow_nil w base _ 2
theorem OwnF.mono {base' : Nat} (h : OwnF w base v fs) (hb : base' ≤ base) : OwnF w base' v fs := by
  refine ⟨h.1, ?_⟩
  rcases h.2 with h0 | ⟨g, cap, cur, hv, hbg, r⟩
  · exact .inl h0
  · exact .inr ⟨g, cap, cur, hv, Nat.le_trans hb hbg, r⟩
theorem wpList_appF {ops : Array Oper} {rest : List Oper} {o : Oper} {a : Act} {Q : Exit → Act → World → Prop} (hgd : o.guard = none) (s x : Operand)
    (ho : o.op = .call { callee := .builtin .append, args := #[s, x], argTypes := #[33, 33] })
    (hs : a.eval s = v) (hown : OwnF w base v fs) (g : Nat) (n d : Int) (hx : a.eval x = .slice (some ⟨g, 0, none⟩) 1 1) (h0 : w.cell? ⟨g, 0, none⟩ = some (.int .i64 n)) (h1 : w.cell? ⟨g, 1, none⟩ = some (.int .i64 d)) (hlen : fs.length ≤ 16777216) (hbase : base ≤ w.heap.size)
    (h : ∀ v' w', OwnF w' base v' (fs ++ [(n, d)]) → w.grownBy w' v.ownBlock → (v'.ownBlock = v.ownBlock ∨ v'.ownBlock = some w.heap.size) → wpList Try.prog ops Q rest (a.put o.dst v') w') :
    wpList Try.prog ops Q (o :: rest) a w := by
  refine wpList_plain hgd fun K hK => ?_
  obtain ⟨v', w', hrun, h2, h3, h4⟩ := run_appF o.type hown g n d h0 h1 hlen hbase
  unfold Oper.wp execOp
  simp only [ho, resolve, invoke, builtin, Sem.run_bind, Sem.run_pure, Result.andThen_ok, List.map_toArray, List.map_cons, List.map_nil, hs, hx, hrun]
  exact hK _ _ (h v' w' h2 h3 h4)
end
set_option maxHeartbeats 2000000 in
theorem eqFractionS_same (w : World) (A B : Option Addr) (c d : Nat) (fs : List (Int × Int)) (ha : ReadsF w A fs) (hb : ReadsF w B fs) (hl : fs.length ≤ 1000) :
    Calls Try.prog 19 #[.slice A fs.length c, .slice B fs.length d] w (Ret (.bool true) w) := by
  have Ha := Lib.hid ha
  have Hb := Lib.hid hb
  clear ha hb
  go_enter Try.func19, Try.ntmps19
  go_wp2
  go_loopw [5] (fun v5 wr => ∃ k : Nat, k ≤ fs.length ∧ v5 = .int .i64 k ∧ Below w.heap.size w wr) (fun v5 _ => fs.length - (intOf v5).toNat)
  case atStart => exact ⟨0, Nat.zero_le _, rfl, by (repeat' (first | (with_reducible exact Below.refl _ _) | (with_reducible assumption) | (with_reducible refine Below.drew ?_) | (with_reducible refine belowDrewN ?_ _) | (with_reducible refine Below.alloc ?_ ?_ _) | (with_reducible refine Below.setCell ?_ ?_ _) | (with_reducible refine belowStep (by assumption) ?_ ?_) | (with_reducible exact Below.size (by assumption)) | go_size))⟩
  case round =>
    obtain ⟨k, hk, rfl, hbr⟩ := hrel
    have hzr := hbr.size
    by_cases hlt : k < fs.length
    · obtain ⟨b, x, y, rfl, hbb, hx, c1, c2⟩ := (Ha.out.below hbr).at_ hlt
      obtain ⟨b', x', y', rfl, hbb', hx', c1', c2'⟩ := (Hb.out.below hbr).at_ hlt
      rw [hx] at hx'
      injection hx' with hx'
      injection hx' with e1 e2
      subst e1 e2
      clear hx
      go_wp2_with fail
      go_region_with (first | (go_at_call 16; refine (eqFraction_same _ _ _).mono ?_; rintro e w1 ⟨rfl, hb1⟩; obtain ⟨hc1, hf1⟩ := bcellB hb1; have hz1 := hb1.size; (try simp only [World.size_alloc, World.size_setCell, World.size_drew, World.heap_drewN] at hc1 hf1 hz1); (try have hy1_00 : w.heap.size < w1.heap.size := by omega); (try have hn1_00 : w.heap.size ≠ w1.heap.size := by omega); (try have hm1_00 : w1.heap.size ≠ w.heap.size := by omega); (try have hp1_00 : w.heap.size < w1.heap.size + 1 := by omega); (try have hy1_01 : w.heap.size + 1 < w1.heap.size := by omega); (try have hn1_01 : w.heap.size + 1 ≠ w1.heap.size := by omega); (try have hm1_01 : w1.heap.size ≠ w.heap.size + 1 := by omega); (try have hp1_01 : w.heap.size + 1 < w1.heap.size + 1 := by omega)))
      all_goals
        go_wp2
        go_roundw
        case rel => exact ⟨k + 1, by omega, by go_num, by (repeat' (first | (with_reducible exact Below.refl _ _) | (with_reducible assumption) | (with_reducible refine Below.drew ?_) | (with_reducible refine belowDrewN ?_ _) | (with_reducible refine Below.alloc ?_ ?_ _) | (with_reducible refine Below.setCell ?_ ?_ _) | (with_reducible refine belowStep (by assumption) ?_ ?_) | (with_reducible exact Below.size (by assumption)) | go_size))⟩
        case measure => simp [intOf]; omega
    · obtain rfl : k = fs.length := by omega
      go_wp2
      go_ret
      exact ⟨rfl, hbr⟩
/-- the cells after the first j of them have been marked -/
def cmarked (cs : List Value) (k : Int) (j : Nat) : List Value := (marks k j).map (Value.int .i64) ++ cs.drop j
theorem cmarked_len (cs : List Value) (k : Int) (j : Nat) (h : j ≤ cs.length) : (cmarked cs k j).length = cs.length := by simp [cmarked, marks_len]; omega
theorem cmarked_set (cs : List Value) (k : Int) (j : Nat) (h : j < cs.length) : (cmarked cs k j).set j (.int .i64 (k + j)) = cmarked cs k (j + 1) := by
  unfold cmarked
  rw [List.set_append_right _ _ (by rw [List.length_map, marks_len]; exact Nat.le_refl _), List.length_map, marks_len, Nat.sub_self, List.drop_eq_getElem_cons h, List.set_cons_zero, marks_snoc, List.map_append, List.append_assoc]
  rfl
theorem cmarked_all (cs : List Value) (k : Int) : cmarked cs k cs.length = (marks k cs.length).map (Value.int .i64) := by simp [cmarked]
/-- what markFractionS leaves -/
def MarkedF (v : Value) (n : Nat) (base : Nat) (k : Int) (w : World) (e : Ending) (w' : World) : Prop :=
  e = .returned (.int .i64 (k + 2 * n)) ∧ w'.ownsRow base 27 2 v n ((marks k (n * 2)).map (Value.int .i64)) ∧ w.grownBy w' v.ownBlock
set_option maxHeartbeats 2000000 in
theorem markFractionS_any (w : World) (v : Value) (fs : List (Int × Int)) (base : Nat) (k : Int) (hown : OwnF w base v fs) (hl : fs.length ≤ 1000) (k1 : 0 ≤ k) (k2 : k ≤ 2097154) :
    Calls Try.prog 20 #[v, .int .i64 k] w (MarkedF v fs.length base k w) := by
  have hcl := fcells_len fs
  rcases hown.2 with ⟨rfl, h0⟩ | ⟨g, c, cur, rfl, hbg, hgg, r⟩
  · have Hown : Hid (w.ownsRow base 27 2 (.slice none 0 0) fs.length ((marks k (fs.length * 2)).map (Value.int .i64))) := Lib.hid (by
      rw [h0]; exact World.ownsRow_nil w base _ 2)
    have h0' : (fs.length : Int) = 0 := by omega
    clear hown
    go_enter Try.func20, Try.ntmps20
    go_wp2
    refine wp_loop_rounds 1 ?_
    rw [rounds_succ]
    go_wp2
    go_ret
    exact ⟨ret_int (by omega), Hown.out, World.grownBy.refl w _⟩
  · have hgw : g < w.heap.size := (hown.block g rfl).2
    have Hown : Hid (w.ownsRow base 27 2 (.slice (some ⟨g, 0, none⟩) fs.length c) fs.length (cmarked (fcells fs) k 0)) := Lib.hid (by
      have : cmarked (fcells fs) k 0 = fcells fs := by simp [cmarked, marks]
      rw [this]; exact hown)
    clear hown r hgg
    go_enter Try.func20, Try.ntmps20
    go_wp2
    go_loopw [1, 5] (fun v1 v5 wr => ∃ j : Nat, j ≤ fs.length ∧ v1 = .int .i64 (k + 2 * j) ∧ v5 = .int .i64 j ∧ wr.ownsRow base 27 2 (.slice (some ⟨g, 0, none⟩) fs.length c) fs.length (cmarked (fcells fs) k (j * 2)) ∧ w.grownBy wr (some g)) (fun _ v5 _ => fs.length - (intOf v5).toNat)
    case atStart => exact ⟨0, Nat.zero_le _, by simp, rfl, by simpa using Hown.out, World.grownBy.refl w _⟩
    case round =>
      obtain ⟨j, hj, rfl, rfl, ho, hg⟩ := hrel
      by_cases hlt : j < fs.length
      · have hC : ∃ u, wr.cell? ⟨g, j * 2, none⟩ = some u := by
          rw [ho.cellAt (j * 2) (by omega)]
          exact ⟨_, List.getElem?_eq_getElem (by rw [cmarked_len _ _ _ (by omega)]; omega)⟩
        have hC2 : ∃ u, wr.cell? ⟨g, j * 2 + 1, none⟩ = some u := by
          rw [ho.cellAt (j * 2 + 1) (by omega)]
          exact ⟨_, List.getElem?_eq_getElem (by rw [cmarked_len _ _ _ (by omega)]; omega)⟩
        obtain ⟨u1, hC⟩ := hC
        obtain ⟨u2, hC2⟩ := hC2
        have hF := ho.frozenAt (j * 2)
        have hF2 := ho.frozenAt (j * 2 + 1)
        have hne : j * 2 ≠ j * 2 + 1 := by omega
        have O1 := (ho.stored (j * 2) (.int .i64 (k + 2 * j))).1
        have e0 : k + 2 * (j : Int) = k + ((j * 2 : Nat) : Int) := by omega
        rw [e0, cmarked_set _ _ _ (by omega)] at O1
        have O2 := (O1.stored (j * 2 + 1) (.int .i64 (k + ((j * 2 + 1 : Nat) : Int)))).1
        rw [cmarked_set _ _ _ (by omega)] at O2
        have e1 : k + ((j * 2 + 1 : Nat) : Int) = k + 2 * (j : Int) + 1 := by omega
        rw [← e0, e1] at O2
        have HO := Lib.hid O2
        have Hg := Lib.hid hg
        clear ho hg O1 O2 e0 e1
        go_wp2
        go_roundw
        case rel => exact ⟨j + 1, by omega, by go_num, by go_num, by rw [show (j + 1) * 2 = j * 2 + 1 + 1 from by omega]; exact HO.out, grownSet (grownSet Hg.out rfl _ _) rfl _ _⟩
        case measure => simp [intOf]; omega
      · obtain rfl : j = fs.length := by omega
        rw [← hcl, cmarked_all, hcl] at ho
        have Ho := Lib.hid ho
        have Hg := Lib.hid hg
        clear ho hg
        go_wp2
        go_ret
        exact ⟨rfl, Ho.out, Hg.out⟩
set_option maxHeartbeats 2000000 in
theorem heldFractionS_any (w : World) (v : Value) (base n : Nat) (k : Int) (ho : w.ownsRow base 27 2 v n ((marks k (n * 2)).map (Value.int .i64))) (hl : n ≤ 1000) (k1 : 0 ≤ k) (k2 : k ≤ 2097154) :
    Calls Try.prog 21 #[v, .int .i64 k] w (RetQ (.int .i64 (k + 2 * n)) w) := by
  have hcells : ∃ A c, v = .slice A n c ∧ ∀ i, i < n * 2 → ∃ b, A = some ⟨b, 0, none⟩ ∧ b < w.heap.size ∧ w.cell? ⟨b, i, none⟩ = some (.int .i64 (k + i)) := by
    have ho' := ho
    rcases ho'.2 with ⟨rfl, h0⟩ | ⟨g, c, cur, rfl, hbg, hgg, r⟩
    · exact ⟨none, 0, by rw [h0], fun i hi => by omega⟩
    · refine ⟨_, c, rfl, fun i hi => ⟨g, rfl, (World.ownsRow.lt ho g rfl).2, ?_⟩⟩
      rw [ho.cellAt i hi, List.getElem?_map, marks_at k (n * 2) i hi]
      rfl
  obtain ⟨A, c, rfl, hc⟩ := hcells
  have Hc := Lib.hid hc
  clear hc ho
  go_enter Try.func21, Try.ntmps21
  go_wp2
  go_loopw [1, 5] (fun v1 v5 wr => ∃ j : Nat, j ≤ n ∧ v1 = .int .i64 (k + 2 * j) ∧ v5 = .int .i64 j ∧ ∃ m, wr = w.drewN m) (fun _ v5 _ => n - (intOf v5).toNat)
  case atStart => exact ⟨0, Nat.zero_le _, by simp, rfl, 0, rfl⟩
  case round =>
    obtain ⟨j, hj, rfl, rfl, m, rfl⟩ := hrel
    by_cases hlt : j < n
    · obtain ⟨b, rfl, hb, c1⟩ := Hc.out (j * 2) (by omega)
      obtain ⟨b', e, _, c2⟩ := Hc.out (j * 2 + 1) (by omega)
      injection e with e
      injection e with e
      subst e
      have e1 : k + ((j * 2 : Nat) : Int) = k + 2 * (j : Int) := by omega
      have e2 : k + ((j * 2 + 1 : Nat) : Int) = k + 2 * (j : Int) + 1 := by omega
      rw [e1] at c1
      rw [e2] at c2
      clear e1 e2
      go_wp2
      go_roundw
      case rel => exact ⟨j + 1, by omega, by go_num, by go_num, m, rfl⟩
      case measure => simp [intOf]; omega
    · obtain rfl : j = n := by omega
      go_wp2
      go_ret
      exact ⟨rfl, m, rfl⟩
end Go.Proofs.Ytocnjfbcblbjeaa
