import Derived.Test.YtbjblkfibinenadGreatDoorPk11
import Derived.Test.YtbjblkfibinenadGreatDoorPk4
import Derived.Test.YtbjblkfibinenadGreatDoorPk1
import Derived.Test.YtbjblkfibinenadGreatDoorPk17
import Derived.Test.YtbjblkfibinenadGreatDoorPk3
import Derived.Test.YtbjblkfibinenadGreatDoorPk15

/-
  Contracts of the law's helpers on lists of fractions: comparison, marks, and the look for marks.
-/
namespace Go.Proofs.YtbjblkfibinenadGreatDoor
open Go.RowKit
theorem fcells_at {fs : List (Int × Int)} : ∀ {k : Nat} {p : Int × Int}, fs[k]? = some p → (fcells fs)[k * 2]? = some (.int .i64 p.1) ∧ (fcells fs)[k * 2 + 1]? = some (.int .i64 p.2) := by
  induction fs with
  | nil => intro k p h; simp at h
  | cons q fs ih =>
    intro k p h
    have e : fcells (q :: fs) = .int .i64 q.1 :: .int .i64 q.2 :: fcells fs := rfl
    cases k with
    | zero => simp at h; subst h; exact ⟨rfl, rfl⟩
    | succ k =>
      have := ih (k := k) (p := p) (by simpa using h)
      rw [e, show (k + 1) * 2 = k * 2 + 1 + 1 from by omega]
      simpa using this
/-- a slice of fractions that reads so -/
def ReadsF (w : World) (A : Option Addr) (fs : List (Int × Int)) : Prop :=
  0 < fs.length → ∃ b, A = some ⟨b, 0, none⟩ ∧ b < w.heap.size ∧ ∀ k p, fs[k]? = some p → w.cell? ⟨b, k * 2, none⟩ = some (.int .i64 p.1) ∧ w.cell? ⟨b, k * 2 + 1, none⟩ = some (.int .i64 p.2)
section
variable {w w' : World} {base : Nat} {v : Value} {A : Option Addr} {fs : List (Int × Int)}
theorem ReadsF.below (h : ReadsF w A fs) (hb : Below w.heap.size w w') : ReadsF w' A fs := fun h0 => by
  obtain ⟨b, e, hlt, hc⟩ := h h0
  refine ⟨b, e, Nat.lt_of_lt_of_le hlt hb.size, fun k p hp => ?_⟩
  obtain ⟨c1, c2⟩ := hc k p hp
  exact ⟨(hb.cell (p := ⟨b, _, none⟩) hlt).trans c1, (hb.cell (p := ⟨b, _, none⟩) hlt).trans c2⟩
theorem ReadsF.drewN (h : ReadsF w A fs) (k : Nat) : ReadsF (w.drewN k) A fs := h
theorem ReadsF.at_ (h : ReadsF w A fs) {k : Nat} (hk : k < fs.length) : ∃ b n d, A = some ⟨b, 0, none⟩ ∧ b < w.heap.size ∧ fs[k]? = some (n, d) ∧ w.cell? ⟨b, k * 2, none⟩ = some (.int .i64 n) ∧ w.cell? ⟨b, k * 2 + 1, none⟩ = some (.int .i64 d) := by
  obtain ⟨b, e, hlt, hc⟩ := h (by omega)
  have hx := List.getElem?_eq_getElem hk
  obtain ⟨c1, c2⟩ := hc k _ hx
  exact ⟨b, fs[k].1, fs[k].2, e, hlt, hx, c1, c2⟩
theorem OwnF.reads (h : OwnF w base v fs) : ∃ A c, v = .slice A fs.length c ∧ ReadsF w A fs := by
  have hl := fcells_len fs
  rcases h.2 with ⟨hv, h0⟩ | ⟨g, cap, cur, hv, hb, hg, r⟩
  · exact ⟨none, 0, by rw [hv, h0], fun h1 => by omega⟩
  · subst hv
    refine ⟨some ⟨g, 0, none⟩, cap, rfl, fun _ => ⟨g, rfl, (h.block g rfl).2, fun k p hp => ?_⟩⟩
    have hlt : k < fs.length := (List.getElem?_eq_some_iff.1 hp).1
    refine ⟨?_, ?_⟩
    · rw [World.ownsRow.cellAt (h : w.ownsRow _ _ _ _ _ _) (k * 2) (by omega)]; exact (fcells_at hp).1
    · rw [World.ownsRow.cellAt (h : w.ownsRow _ _ _ _ _ _) (k * 2 + 1) (by omega)]; exact (fcells_at hp).2
theorem rowBelow {e : TypeId} {sz n : Nat} {cs : List Value} (h : w.ownsRow base e sz v n cs) (hb : Below w.heap.size w w') : w'.ownsRow base e sz v n cs := by
  refine ⟨h.1, ?_⟩
  rcases h.2 with h0 | ⟨g, cap, cur, hv, hbg, hg, r⟩
  · exact .inl h0
  · refine .inr ⟨g, cap, cur, hv, hbg, ?_, r⟩
    have hlt := (World.ownsRow.lt h g (by rw [hv]; rfl)).2
    rw [hb.block g hlt]
    exact hg
theorem OwnF.empty (w : World) (base : Nat) : OwnF w base (.slice none 0 0) [] := World.ownsRow_nil w base _ 2
theorem OwnF.mono {base' : Nat} (h : OwnF w base v fs) (hb : base' ≤ base) : OwnF w base' v fs := by
  refine ⟨h.1, ?_⟩
  rcases h.2 with h0 | ⟨g, cap, cur, hv, hbg, r⟩
  · exact .inl h0
  · exact .inr ⟨g, cap, cur, hv, Nat.le_trans hb hbg, r⟩
theorem wpList_appF {ops : Array Oper} {rest : List Oper} {o : Oper} {a : Act} {Q : Exit → Act → World → Prop} (hgd : o.guard = none) (s x : Operand)
    (ho : o.op = .call { callee := .builtin .append, args := #[s, x], argTypes := #[61, 61] })
    (hs : a.eval s = v) (hown : OwnF w base v fs) (g : Nat) (n d : Int) (hx : a.eval x = .slice (some ⟨g, 0, none⟩) 1 1) (h0 : w.cell? ⟨g, 0, none⟩ = some (.int .i64 n)) (h1 : w.cell? ⟨g, 1, none⟩ = some (.int .i64 d)) (hlen : fs.length ≤ 16777216) (hbase : base ≤ w.heap.size)
    (h : ∀ v' w', OwnF w' base v' (fs ++ [(n, d)]) → w.grownBy w' v.ownBlock → (v'.ownBlock = v.ownBlock ∨ v'.ownBlock = some w.heap.size) → wpList Tryz.prog ops Q rest (a.put o.dst v') w') :
    wpList Tryz.prog ops Q (o :: rest) a w := by
  refine wpList_plain hgd fun K hK => ?_
  obtain ⟨v', w', hrun, h2, h3, h4⟩ := run_appF o.type hown g n d h0 h1 hlen hbase
  unfold Oper.wp execOp
  simp only [ho, resolve, invoke, builtin, Sem.run_bind, Sem.run_pure, Result.andThen_ok, List.map_toArray, List.map_cons, List.map_nil, hs, hx, hrun]
  exact hK _ _ (h v' w' h2 h3 h4)
end
/-- the cells after the first j of them have been marked -/
def cmarked (cs : List Value) (k : Int) (j : Nat) : List Value := (marks k j).map (Value.int .i64) ++ cs.drop j
theorem cmarked_len (cs : List Value) (k : Int) (j : Nat) (h : j ≤ cs.length) : (cmarked cs k j).length = cs.length := by simp [cmarked, marks_len]; omega
theorem cmarked_set (cs : List Value) (k : Int) (j : Nat) (h : j < cs.length) : (cmarked cs k j).set j (.int .i64 (k + j)) = cmarked cs k (j + 1) := by
  unfold cmarked
  rw [List.set_append_right _ _ (by rw [List.length_map, marks_len]; exact Nat.le_refl _), List.length_map, marks_len, Nat.sub_self, List.drop_eq_getElem_cons h, List.set_cons_zero, marks_snoc, List.map_append, List.append_assoc]
  rfl
theorem cmarked_all (cs : List Value) (k : Int) : cmarked cs k cs.length = (marks k cs.length).map (Value.int .i64) := by simp [cmarked]
/-- what markFractionS leaves -/
def MarkedF (v : Value) (n : Nat) (base : Nat) (k : Int) (w : World) (e : Ending) (w' : World) : Prop :=
  e = .returned (.int .i64 (k + 2 * n)) ∧ w'.ownsRow base 27 2 v n ((marks k (n * 2)).map (Value.int .i64)) ∧ w.grownBy w' v.ownBlock
end Go.Proofs.YtbjblkfibinenadGreatDoor


/-
  Contracts of what the steps by inverses leave, in the program and in the model.
-/
namespace Go.Proofs.YtbjblkfibinenadGreatDoor
open Go.RowKit
/-- the step from a proper fraction leaves a proper one, or 0 -/
theorem goN_small {n d : Int} (h : proB n d = true) : goodB (goN n d) (goD n d) = true ∧ goN n d < goD n d ∧ goN n d < n ∧ goD n d < d ∧ 0 ≤ goN n d ∧ 1 ≤ goD n d ∧ 0 ≤ goT n d ∧ goT n d ≤ 1000000000000000000 := by
  obtain ⟨n1, n2, d1, d2, hnd, hg, hgc, hi⟩ := proB_bounds h
  have G := gol h
  obtain ⟨e1, e2, e3⟩ := goR h
  rw [e1, e2, e3]
  have p2 := mul_bounds (a := d) (b := invI n d) (by omega) d2 (by have := G.s1; omega) (by have := G.sd; omega)
  exact ⟨G.gd, G.rs, G.rn, G.sd, G.r0, G.s1, p2.1, p2.2⟩
/-- of the program and of the model: the rests, if there are so few -/
def grsO (n d : Int) : Option (List (Int × Int)) := if proB n d = true then (walkR stI 300 0 n d).map fun es => (n, d) :: es.map (·.2) else none
theorem walkR_len {st : Stp} : ∀ (k : Nat) {l n d : Int} {es : List (Int × Int × Int)}, walkR st k l n d = some es → es.length ≤ k
  | 0, l, n, d, es, h => by
    by_cases h0 : n ≤ 0
    · rw [walkR_end h0] at h; injection h with h; subst h; simp
    · rw [walkR_out (by omega)] at h; cases h
  | k + 1, l, n, d, es, h => by
    by_cases h0 : n ≤ 0
    · rw [walkR_end h0] at h; injection h with h; subst h; simp
    · cases hs : st l n d with
      | none => rw [walkR_none (by omega) hs] at h; cases h
      | some p =>
        obtain ⟨t, n', d'⟩ := p
        rw [walkR_some (by omega) hs] at h
        cases hr : walkR st k (t + 1) n' d' with
        | none => rw [hr] at h; cases h
        | some es' =>
          rw [hr] at h
          injection h with h
          subst h
          have := walkR_len k hr
          simp; omega
theorem grsO_len (n d : Int) : ((grsO n d).getD []).length ≤ 301 := by
  unfold grsO
  split
  · cases h : walkR stI 300 0 n d with
    | none => simp
    | some es =>
      have := walkR_len 300 h
      simp
      omega
  · simp
theorem golombStep_R (I : Int → World → Prop) (hI : ∀ l w1 w2, I l w1 → Below w1.heap.size w1 w2 → ∀ l', I l' w2) (l n d : Int) (w : World) (hg : goodB n d = true) (hn : 1 ≤ n) (hi : I l w) : Calls Tryz.prog 130 (#[.agg #[.int .i64 n, .int .i64 d]] ++ #[]) w (StepB 1000000000000000000 stI I none l n d w) := by
  obtain ⟨b1, b2, b3, b4⟩ := good_bounds hg
  refine (golombStep_any n d w ⟨by omega, by omega⟩ ⟨by omega, by omega⟩).mono ?_
  rintro e w' ⟨rfl, hb⟩
  refine ⟨⟨hb.os, hb.tape, hb.output, hb.size, fun k hk _ => hb.block k hk⟩, _, _, _, _, rfl, fun h => ?_, fun h => stI_no h⟩
  have G := goN_small h
  exact ⟨stI_yes h, hI _ _ _ hi hb _, G.1, G.2.2.2.2.2.2.1, G.2.2.2.2.2.2.2⟩
def RetFO (o : Option (List (Int × Int))) (w : World) (e : Ending) (w' : World) : Prop := ∃ v, e = .returned (.tuple #[v, .bool o.isSome]) ∧ OwnF w' w.heap.size v (o.getD []) ∧ Below w.heap.size w w'
/-- what the model's steps leave: the numbers, put in order, and the rests -/
def TermsP (m : Nat) (n d : Int) (w : World) (e : Ending) (w' : World) : Prop :=
  Below w.heap.size w w' ∧ ((∃ es v1 v2, walkR stI m 0 n d = some es ∧ e = .returned (.tuple #[v1, v2, .bool true]) ∧ OwnI w' w.heap.size v1 (putAll [] (takenOf es)) ∧ OwnF w' w.heap.size v2 ((n, d) :: es.map (·.2))) ∨ (walkR stI m 0 n d = none ∧ e = .returned (.tuple #[.slice none 0 0, .slice none 0 0, .bool false])))
/-- the numbers that are taken fall -/
theorem goT_less {n d : Int} (h : proB n d = true) : goT n d < d * d ∧ goD n d * goD n d < goT n d ∧ goD n d * goD n d < d * d := by
  obtain ⟨n1, n2, d1, d2, hnd, hg, hgc, hi⟩ := proB_bounds h
  have G := gol h
  obtain ⟨e1, e2, e3⟩ := goR h
  rw [e1, e3]
  have s1 := G.s1
  have sd := G.sd
  generalize invI n d = s at *
  have h1 : d * s < d * d := Int.mul_lt_mul_of_pos_left sd (by omega)
  have h2 : s * s < d * s := Int.mul_lt_mul_of_pos_right sd (by omega)
  exact ⟨h1, h2, by omega⟩
theorem has_no {xs : List Int} {v b : Int} (h : ∀ x ∈ xs, b < x) (hv : v < b) : ¬ hasB xs v = true := fun hh => by
  have := h v ((hasB_iff xs v).1 hh)
  omega
theorem put_more {xs : List Int} {v b c : Int} (h : ∀ x ∈ xs, b < x) (hc : c < b) (hv : c < v) : ∀ x ∈ putL xs v, c < x := fun x hx => by
  unfold putL at hx
  split at hx
  · have := h x hx; omega
  · rcases ins_mem.1 hx with h1 | h1
    · omega
    · have := h x h1; omega
set_option maxRecDepth 100000 in
set_option maxHeartbeats 8000000 in
theorem meTerms_any (m : Nat) (hm : m ≤ 1000) (n0 d0 : Int) (w : World) (h : proB n0 d0 = true) : Calls Tryz.prog 60 #[.agg #[.int .i64 n0, .int .i64 d0], .int .i64 (m : Int)] w (TermsP m n0 d0 w) := by
  have H := Lib.hid h
  clear h
  have F0 := Lib.hid (OwnF.one (w.alloc (.cells #[.int .i64 n0, .int .i64 d0] 27)) (w.heap.size + 1) n0 d0 (by simp))
  have T0 := Lib.hid (TwoAt.new w n0 d0 27)
  go_enter Tryz.func60, Tryz.ntmps60
  go_wp2
  go_loopw [7, 8] (fun v7 v8 wr => ∃ (es : List (Int × Int × Int)) (xs : List Int) (l n d : Int) (A7 A8 : Option Addr) (c7 c8 : Nat), v7 = .slice A7 xs.length c7 ∧ v8 = .slice A8 (es.length + 1) c8 ∧ putAll [] (takenOf es) = xs ∧ xs.length ≤ es.length ∧ es.length ≤ xs.length ∧ (∀ x ∈ xs, d * d < x) ∧ Rising xs ∧ Walked stI m 0 n0 d0 es l n d ∧ goodB n d = true ∧ n < d ∧ OwnI wr (w.heap.size + 1) (.slice A7 xs.length c7) xs ∧ OwnF wr (w.heap.size + 1) (.slice A8 (es.length + 1) c8) ((n0, d0) :: es.map (·.2)) ∧ TwoAt wr w.heap.size n d ∧ Below w.heap.size w wr) (fun _ v8 _ => m + 1 - slen v8)
  case atStart =>
    have hp := (proB_iff n0 d0).1 H.out
    exact ⟨[], [], 0, n0, d0, none, some ⟨w.heap.size + 1, 0, none⟩, 0, 1, rfl, (by simp), rfl, by simp, by simp, (by simp), List.Pairwise.nil, Walked.start _ _ _ _ _, hp.1, hp.2.2, OwnI.empty _ _, (by simpa using F0.out), (by (refine ⟨?_, ?_, ?_, ?_, ?_⟩ <;> first | (simp only [World.size_alloc]; omega) | (first | (simp [*, World.cell?_alloc_some]; done) | (simp [go_sem, *]; done)))), by (repeat' (first | (with_reducible exact Below.refl _ _) | (with_reducible assumption) | (with_reducible refine Below.drew ?_) | (with_reducible refine belowDrewN ?_ _) | (with_reducible refine Below.alloc ?_ ?_ _) | (with_reducible refine Below.setCell ?_ ?_ _) | (with_reducible refine belowStep (by assumption) ?_ ?_) | (with_reducible exact Below.size (by assumption)) | go_size))⟩
  case round =>
    obtain ⟨es, xs, l, n, d, A7, A8, c7, c8, rfl, rfl, hxs, hl1, hl2, hbig, hri, hwk, hgd, hnd, ho7, ho8, hq, hbr⟩ := hrel
    have Hxs := Lib.hid hxs
    have Hbig := Lib.hid hbig
    have Hri := Lib.hid hri
    have Hwk := Lib.hid hwk
    have Hgd := Lib.hid hgd
    have Ho7 := Lib.hid ho7
    have Ho8 := Lib.hid ho8
    have Hq := Lib.hid hq
    have hzr := hbr.size
    have hle : es.length ≤ m := hwk.1
    obtain ⟨n1, n2, d1, d2⟩ := good_bounds hgd
    clear hxs hbig hri hwk hgd ho7 ho8
    obtain ⟨q1, q2, q3, q4, q5⟩ := hq
    by_cases hn : 0 < n
    · have hp : proB n d = true := (proB_iff n d).2 ⟨Hgd.out, by omega, hnd⟩
      by_cases hfull : xs.length = m
      · have hfi : ((xs.length : Nat) : Int) = (m : Int) := by omega
        go_wp2
        go_ret3
        exact ⟨by (repeat' (first | (with_reducible exact Below.refl _ _) | (with_reducible assumption) | (with_reducible refine Below.drew ?_) | (with_reducible refine belowDrewN ?_ _) | (with_reducible refine Below.alloc ?_ ?_ _) | (with_reducible refine Below.setCell ?_ ?_ _) | (with_reducible refine belowStep (by assumption) ?_ ?_) | (with_reducible exact Below.size (by assumption)) | go_size)), .inr ⟨Hwk.out.full hn (by omega), rfl⟩⟩
      · have hfi : (((xs.length : Nat) : Int) == (m : Int)) = false := by simp; omega
        have hfd : ((xs.length : Nat) : Int) ≠ (m : Int) := by omega
        have G := Lib.hid (goN_small hp)
        have L := Lib.hid (goT_less hp)
        have Hst := Lib.hid (Hwk.out.step (by omega) hn (stI_yes (l := l) hp))
        have HM := Lib.hid fun (w : World) => meGolomb_any n d w hp
        have Hput : Hid (Rising (putL xs (goT n d)) ∧ (putL xs (goT n d)).length = xs.length + 1 ∧ ∀ x ∈ putL xs (goT n d), goD n d * goD n d < x) := Lib.hid ⟨Hri.out.put _, by
          rw [put_no Hri.out (has_no Hbig.out L.out.1), ins_len _ _ _ (pos_le _ _)], put_more Hbig.out L.out.2.2 L.out.2.1⟩
        have g0 := G.out.2.2.2.2.2.2.1
        clear hp
        generalize goT n d = t at *
        generalize goN n d = N at *
        generalize goD n d = D at *
        go_wp2_with fail
        refine (HM.out _).mono ?_; rintro e w2 ⟨rfl, hb2⟩; obtain ⟨hc2, hf2⟩ := bcellB hb2; have hz2 := hb2.size; (try simp only [World.size_alloc, World.size_setCell, World.size_drew, World.heap_drewN] at hc2 hf2 hz2); (try have hy2_00 : w.heap.size < w2.heap.size := by omega); (try have hn2_00 : w.heap.size ≠ w2.heap.size := by omega); (try have hm2_00 : w2.heap.size ≠ w.heap.size := by omega); (try have hp2_00 : w.heap.size < w2.heap.size + 1 := by omega); (try have hy2_01 : w.heap.size + 1 < w2.heap.size := by omega); (try have hn2_01 : w.heap.size + 1 ≠ w2.heap.size := by omega); (try have hm2_01 : w2.heap.size ≠ w.heap.size + 1 := by omega); (try have hp2_01 : w.heap.size + 1 < w2.heap.size + 1 := by omega)
        have Ho7b := Lib.hid (Ho7.out.below hb2)
        have Ho8b := Lib.hid (Ho8.out.below hb2)
        go_wp2_with fail
        refine (l1Put_own _ t (w.heap.size + 1) A7 c7 xs (Ho7b.out.below (by (repeat' (first | (with_reducible exact Below.refl _ _) | (with_reducible assumption) | (with_reducible refine Below.drew ?_) | (with_reducible refine belowDrewN ?_ _) | (with_reducible refine Below.alloc ?_ ?_ _) | (with_reducible refine Below.setCell ?_ ?_ _) | (with_reducible refine belowStep (by assumption) ?_ ?_) | (with_reducible exact Below.size (by assumption)) | go_size)))) (by omega) (by (first | (go_size; done) | ((try simp only [World.size_alloc, World.size_setCell, World.size_drew, World.heap_drewN]); omega)))).mono ?_; rintro e w3 ⟨v3, rfl, ho3, hb3⟩; obtain ⟨hc3, hf3⟩ := bcellB hb3; have hz3 := hb3.size; (try simp only [World.size_alloc] at hc3 hf3 hz3); (try have hy3_00 : w.heap.size < w3.heap.size := by omega); (try have hn3_00 : w.heap.size ≠ w3.heap.size := by omega); (try have hm3_00 : w3.heap.size ≠ w.heap.size := by omega); (try have hp3_00 : w.heap.size < w3.heap.size + 1 := by omega); (try have hy3_01 : w.heap.size + 1 < w3.heap.size := by omega); (try have hn3_01 : w.heap.size + 1 ≠ w3.heap.size := by omega); (try have hm3_01 : w3.heap.size ≠ w.heap.size + 1 := by omega); (try have hp3_01 : w.heap.size + 1 < w3.heap.size + 1 := by omega); (try have hy3_10 : w2.heap.size < w3.heap.size := by omega); (try have hn3_10 : w2.heap.size ≠ w3.heap.size := by omega); (try have hm3_10 : w3.heap.size ≠ w2.heap.size := by omega); (try have hp3_10 : w2.heap.size < w3.heap.size + 1 := by omega); (try have hy3_11 : w2.heap.size + 1 < w3.heap.size := by omega); (try have hn3_11 : w2.heap.size + 1 ≠ w3.heap.size := by omega); (try have hm3_11 : w3.heap.size ≠ w2.heap.size + 1 := by omega); (try have hp3_11 : w2.heap.size + 1 < w3.heap.size + 1 := by omega)
        have Ho3 := Lib.hid ho3
        have Ho8c := Lib.hid (Ho8b.out.below (show Below w2.heap.size w2 w3 by (repeat' (first | (with_reducible exact Below.refl _ _) | (with_reducible assumption) | (with_reducible refine Below.drew ?_) | (with_reducible refine belowDrewN ?_ _) | (with_reducible refine Below.alloc ?_ ?_ _) | (with_reducible refine Below.setCell ?_ ?_ _) | (with_reducible refine belowStep (by assumption) ?_ ?_) | (with_reducible exact Below.size (by assumption)) | go_size))))
        clear ho3
        have TR := Lib.hid (((TwoAt.new w2 N D 27).below hb3).below ((Below.refl _ _).alloc (Nat.le_refl _) (.cells #[.int .i64 N, .int .i64 D] 27)))
        have TA := Lib.hid ((((Hq.out.below hb2).below ((Below.refl _ _).alloc (Nat.le_refl _) (.cells #[.int .i64 N, .int .i64 D] 27))).below hb3).below ((Below.refl _ _).alloc (Nat.le_refl _) (.cells #[.int .i64 N, .int .i64 D] 27)))
        obtain ⟨r1, r2, r3, r4, r5⟩ := (TwoAt.new w2 N D 27).below hb3
        have Hb8 := Lib.hid fun k hk => Ho8.out.block k hk
        have hne2 : w2.heap.size ≠ w.heap.size := by omega
        have hne2' : w.heap.size ≠ w2.heap.size := by omega
        have Hne3 : Hid (v3.ownBlock ≠ some w.heap.size) := Lib.hid fun e => by have := (Ho3.out.block _ e).1; omega
        go_wp2_with (at_builtin; refine wpList_appF rfl _ _ rfl rfl (OwnF.below Ho8c.out (by (repeat' (first | (with_reducible exact Below.refl _ _) | (with_reducible assumption) | (with_reducible refine Below.drew ?_) | (with_reducible refine belowDrewN ?_ _) | (with_reducible refine Below.alloc ?_ ?_ _) | (with_reducible refine Below.setCell ?_ ?_ _) | (with_reducible refine belowStep (by assumption) ?_ ?_) | (with_reducible exact Below.size (by assumption)) | go_size)))) w3.heap.size N D rfl (by (first | (simp [*]; done) | (simp [go_sem, *]; done))) (by (first | (simp [*]; done) | (simp [go_sem, *]; done))) (by simp; omega) (by (first | (go_size; done) | ((try simp only [World.size_alloc, World.size_setCell, World.size_drew, World.heap_drewN]); omega))) ?_; intro v5 w5 ho5 hg5 ht5; obtain ⟨s1, s2, s3, s4, s5⟩ := keptAt hg5 (fun e => by have := Hb8.out _ e; omega) TR.out; obtain ⟨p1, p2, p3, p4, p5⟩ := keptAt hg5 (fun e => by have := Hb8.out _ e; omega) TA.out)
        have Ho5 := Lib.hid ho5
        have Ho35 := Lib.hid (OwnI.keptF (OwnI.below Ho3.out ((Below.refl _ _).alloc (Nat.le_refl _) _)) (OwnF.below Ho8c.out ((Below.refl _ _).alloc (Nat.le_refl _) _)) hg5)
        have hb5 : Below w.heap.size w w5 := Below.trans (show Below w.heap.size w (w3.alloc (.cells #[.int .i64 N, .int .i64 D] 27)) by (repeat' (first | (with_reducible exact Below.refl _ _) | (with_reducible assumption) | (with_reducible refine Below.drew ?_) | (with_reducible refine belowDrewN ?_ _) | (with_reducible refine Below.alloc ?_ ?_ _) | (with_reducible refine Below.setCell ?_ ?_ _) | (with_reducible refine belowStep (by assumption) ?_ ?_) | (with_reducible exact Below.size (by assumption)) | go_size))) (belowOf hg5 (by (first | (go_size; done) | ((try simp only [World.size_alloc, World.size_setCell, World.size_drew, World.heap_drewN]); omega))) (fun k hk => by have := (Hb8.out k hk).1; omega))
        have hz5 := hg5.size
        simp only [World.size_alloc] at hz5
        have Hne5 : Hid (v5.ownBlock ≠ some w.heap.size) := Lib.hid fun e => by have := (Ho5.out.block _ e).1; omega
        clear ho5 hg5 ht5
        obtain ⟨A3, c3, e3, _⟩ := Ho3.out.form
        obtain ⟨A5, c5, e5⟩ := Ho5.out.form
        have hl5 : (((n0, d0) :: es.map (·.2)) ++ [(N, D)]).length = es.length + 1 + 1 := by simp
        rw [hl5] at e5
        subst e3 e5
        go_wp2
        go_roundw
        case rel =>
          have hle5 : (es ++ [(t, N, D)]).length = es.length + 1 := by simp
          refine ⟨es ++ [(t, N, D)], putL xs t, t + 1, N, D, A3, A5, c3, c5, rfl, by rw [hle5], by rw [takenOf_snoc, putAll_snoc, Hxs.out], by rw [Hput.out.2.1]; omega, by rw [Hput.out.2.1]; omega, Hput.out.2.2, Hput.out.1, Hst.out, G.out.1, G.out.2.1, ?_, ?_, ?_, ?_⟩
          · exact (Ho35.out.setO _ 0 _ Hne3.out).setO _ 1 _ Hne3.out
          · rw [hle5, List.map_append]
            exact (Ho5.out.setO _ 0 _ Hne5.out).setO _ 1 _ Hne5.out
          · (refine ⟨?_, ?_, ?_, ?_, ?_⟩ <;> first | (first | (simp [*]; done) | (simp [go_sem, *]; done)) | (first | (go_size; done) | ((try simp only [World.size_alloc, World.size_setCell, World.size_drew, World.heap_drewN]); omega)))
          · (repeat' (first | (with_reducible exact Below.refl _ _) | (with_reducible assumption) | (with_reducible refine Below.drew ?_) | (with_reducible refine belowDrewN ?_ _) | (with_reducible refine Below.alloc ?_ ?_ _) | (with_reducible refine Below.setCell ?_ ?_ _) | (with_reducible refine belowStep (by assumption) ?_ ?_) | (with_reducible exact Below.size (by assumption)) | go_size))
        case measure => simp [slen]; omega
    · have hn0 : n = 0 := by omega
      have hdn := Hwk.out.done (by omega)
      go_wp2
      go_ret3
      exact ⟨by (repeat' (first | (with_reducible exact Below.refl _ _) | (with_reducible assumption) | (with_reducible refine Below.drew ?_) | (with_reducible refine belowDrewN ?_ _) | (with_reducible refine Below.alloc ?_ ?_ _) | (with_reducible refine Below.setCell ?_ ?_ _) | (with_reducible refine belowStep (by assumption) ?_ ?_) | (with_reducible exact Below.size (by assumption)) | go_size)), .inl ⟨es, _, _, hdn, rfl, by rw [Hxs.out]; exact Ho7.out.mono (by omega), Ho8.out.mono (by omega)⟩⟩
end Go.Proofs.YtbjblkfibinenadGreatDoor


/-
  Contracts of the expansion by inverses, in the program and in the model.
-/
namespace Go.Proofs.YtbjblkfibinenadGreatDoor
open Go.RowKit
open Go.Maps Go.WideMaps
/-- the terms of the method by inverses -/
def golO (n d : Int) : Option (List Int) := (walkR stI 24 0 n d).map takenOf
def gxO (n d : Int) : Option (List Int) := pexO n d (golO n d)
/-- the numbers that are taken fall -/
theorem gol_falls : ∀ (k : Nat) {l n d : Int} {es : List (Int × Int × Int)}, goodB n d = true → n < d → walkR stI k l n d = some es → (takenOf es).Pairwise (fun a b => b < a) ∧ ∀ x ∈ takenOf es, 0 ≤ x ∧ x < d * d
  | 0, l, n, d, es, hg, hd, h => by
    by_cases h0 : n ≤ 0
    · rw [walkR_end h0] at h; injection h with h; subst h; simp [takenOf]
    · rw [walkR_out (by omega)] at h; cases h
  | k + 1, l, n, d, es, hg, hd, h => by
    by_cases h0 : n ≤ 0
    · rw [walkR_end h0] at h; injection h with h; subst h; simp [takenOf]
    · have hp : proB n d = true := (proB_iff n d).2 ⟨hg, by omega, hd⟩
      have G := goN_small hp
      have L := goT_less hp
      rw [walkR_some (by omega) (stI_yes (l := l) hp)] at h
      cases hr : walkR stI k (goT n d + 1) (goN n d) (goD n d) with
      | none => rw [hr] at h; cases h
      | some es' =>
        rw [hr] at h
        injection h with h
        subst h
        obtain ⟨i1, i2⟩ := gol_falls k G.1 G.2.1 hr
        refine ⟨List.pairwise_cons.2 ⟨fun x hx => ?_, i1⟩, fun x hx => ?_⟩
        · have := i2 x hx
          show x < goT n d
          omega
        · rcases List.mem_cons.1 hx with h1 | h1
          · rw [h1]; exact ⟨G.2.2.2.2.2.2.1, L.1⟩
          · have := i2 x h1; omega
theorem golO_facts {n d : Int} (hp : proB n d = true) {xs : List Int} (h : golO n d = some xs) : xs ≠ [] ∧ xs.length ≤ 1000 ∧ In64 xs ∧ xs.Nodup := by
  unfold golO at h
  cases hw : walkR stI 24 0 n d with
  | none => rw [hw] at h; cases h
  | some es =>
    rw [hw] at h
    injection h with h
    subst h
    obtain ⟨hg, hn, hd⟩ := (proB_iff n d).1 hp
    obtain ⟨f1, f2⟩ := gol_falls 24 hg hd hw
    have hl := walkR_len 24 hw
    obtain ⟨_, _, d1, d2⟩ := good_bounds hg
    have hdd := mul_bounds (a := d) (b := d) (by omega) d2 (by omega) d2
    refine ⟨fun e => ?_, by rw [takenOf_len]; omega, In64.of_mem fun x hx => by have := f2 x hx; omega, falling_nodup f1⟩
    have : es = [] := List.eq_nil_of_length_eq_zero (by rw [← takenOf_len, e]; rfl)
    subst this
    rw [walkR_some (k := 23) (by omega) (stI_yes (l := 0) hp)] at hw
    cases hr : walkR stI 23 (goT n d + 1) (goN n d) (goD n d) with
    | none => rw [hr] at hw; cases hw
    | some es' => rw [hr] at hw; cases hw
set_option maxRecDepth 100000 in
set_option maxHeartbeats 2000000 in
theorem golTerms_any (n d : Int) (w : World) (hp : proB n d = true) : Calls Tryz.prog 129 #[.agg #[], .agg #[.int .i64 n, .int .i64 d]] w (RetM (golO n d) w) := by
  have hg := ((proB_iff n d).1 hp).1
  have HW := Lib.hid fun (w : World) => walkM_any 1000000000000000000 24 (by omega) (by omega) 130 #[] stI (fun _ _ => True) none 0 n d w (by simp) (fun _ _ _ _ _ => trivial) (fun _ _ => rfl) (fun l n d w1 hg hn _ _ _ => golombStep_R (fun _ _ => True) (fun _ _ _ _ _ _ => trivial) l n d w1 hg hn trivial) hg (by omega) (by omega) trivial
  have EN : Hid (walkR stI 24 0 n d = none → golO n d = none) := Lib.hid (fun hw => by unfold golO; rw [hw]; rfl)
  have ES : Hid (∀ es, walkR stI 24 0 n d = some es → golO n d = some (takenOf es)) := Lib.hid (fun es hw => by unfold golO; rw [hw]; rfl)
  go_enter Tryz.func129, Tryz.ntmps129
  go_wp2_with fail
  refine (HW.out _).mono ?_
  rintro e w2 ⟨hg2, h2⟩
  have hb2 : Below w.heap.size w w2 := (show Below w.heap.size w ((w.alloc (.cells #[] 79)).alloc (.cells #[.int .i64 n, .int .i64 d] 27)) by (repeat' (first | (with_reducible exact Below.refl _ _) | (with_reducible assumption) | (with_reducible refine Below.drew ?_) | (with_reducible refine belowDrewN ?_ _) | (with_reducible refine Below.alloc ?_ ?_ _) | (with_reducible refine Below.setCell ?_ ?_ _) | (with_reducible refine belowStep (by assumption) ?_ ?_) | (with_reducible exact Below.size (by assumption)) | go_size))).trans ((Below.refl _ _).grown hg2 (by (first | (go_size; done) | ((try simp only [World.size_alloc, World.size_setCell, World.size_drew, World.heap_drewN]); omega))) (by simp))
  have hz2 := hg2.size
  simp only [World.size_alloc] at hz2
  clear hg2
  rcases h2 with ⟨es, v1, v2, hw, hl, rfl, ho1, ho2⟩ | ⟨hw, rfl⟩
  · have E := Lib.hid (ES.out es hw)
    have Ho1 := Lib.hid ho1
    clear ho1 ho2 hw
    go_wp2
    go_ret2
    rw [E.out]
    exact ⟨_, _, rfl, rfl, fun xs hx => by injection hx with hx; subst hx; exact Ho1.out.mono (by (first | (go_size; done) | ((try simp only [World.size_alloc, World.size_setCell, World.size_drew, World.heap_drewN]); omega))), hb2⟩
  · have E := Lib.hid (EN.out hw)
    go_wp2
    go_ret2
    rw [E.out]
    exact ⟨_, _, rfl, rfl, fun xs hx => by (cases hx), hb2⟩
set_option maxRecDepth 100000 in
theorem golMethod (j : Nat) (w : World) : (method (j + 1) 79 (.agg #[]) "loop.example/g01107/impl.termsOf").run Tryz.prog w = .ok (129, .agg #[]) w := by kernel_rfl
set_option maxRecDepth 100000 in
theorem golD (zd : DataW Unit) : mD.atKey (.string [103, 111, 108, 111, 109, 98]) zd = .lit (.int .i64 ((79 : Nat) : Int)) := by kernel_rfl
set_option maxRecDepth 100000 in
set_option maxHeartbeats 2000000 in
theorem golombExp_any (n d : Int) (w : World) (rn : -9223372036854775808 ≤ n ∧ n ≤ 9223372036854775807) (rd : -9223372036854775808 ≤ d ∧ d ≤ 9223372036854775807) : Calls Tryz.prog 18 #[.agg #[.int .i64 n, .int .i64 d]] w (RetLB ((gxO n d).getD []) (gxO n d).isSome w) := by
  have HX := Lib.hid fun (w : World) => expandBy_any ⟨#[103, 111, 108, 111, 109, 98]⟩ (by decide) 79 129 golD n d (if proB n d = true then golO n d else none) w rn rd golMethod (fun _ _ => rfl) (fun hp w => by rw [if_pos hp]; exact golTerms_any n d w hp) (fun xs hx => by
    split at hx
    · rename_i hp
      have := golO_facts hp hx
      exact ⟨this.1, this.2.1, this.2.2.1⟩
    · cases hx)
  have E : Hid (pexO n d (if proB n d = true then golO n d else none) = gxO n d) := Lib.hid (by unfold gxO pexO; cases proB n d <;> rfl)
  go_enter Tryz.func18, Tryz.ntmps18
  go_wp2_with fail
  refine (HX.out _).mono ?_; rintro e w2 ⟨v2, rfl, ho2, hb2⟩
  rw [E.out] at ho2 ⊢
  have Ho2 := Lib.hid ho2
  have hz2 := hb2.size
  clear ho2
  go_wp2
  go_ret2
  exact ⟨_, rfl, Ho2.out.mono (by (first | (go_size; done) | ((try simp only [World.size_alloc, World.size_setCell, World.size_drew, World.heap_drewN]); omega))), by (repeat' (first | (with_reducible exact Below.refl _ _) | (with_reducible assumption) | (with_reducible refine Below.drew ?_) | (with_reducible refine belowDrewN ?_ _) | (with_reducible refine Below.alloc ?_ ?_ _) | (with_reducible refine Below.setCell ?_ ?_ _) | (with_reducible refine belowStep (by assumption) ?_ ?_) | (with_reducible exact Below.size (by assumption)) | go_size))⟩
end Go.Proofs.YtbjblkfibinenadGreatDoor
