import Derived.Test.YtleookfdngnphaaPk16
import Derived.Test.YtleookfdngnphaaPk9

/-
  The contract of the model's search for nearest sums: a list that goes on.
-/
namespace Go.Proofs.Ytleookfdngnphaa
open Go.RowKit
/-- what the operations of the test leave: e and f tell which guards hold -/
def G7 (b6 m : Nat) (A : Option Addr) (c : Nat) (k' t g1 g2 p1 p2 x0 y0 : Int) (e f h : Bool) : Nat → Value → World → Prop
  | 0, v, _ => v = .pointer (some ⟨b6, 0, none⟩)
  | 1, v, _ => v = .slice A m c
  | 2, v, _ => v = .int .i64 m
  | 3, v, _ => v = .bool e
  | 4, v, _ => v = .bool e
  | 5, v, _ => e = true → v = .agg #[.int .i64 k', .int .i64 t]
  | 6, v, _ => e = true → v = .agg #[.int .i64 g1, .int .i64 g2]
  | 7, v, _ => e = true → v = .bool f
  | 8, v, _ => v = .bool (e && f)
  | 9, v, _ => v = .bool (e && f)
  | 10, v, _ => (e && f) = true → v = .agg #[.int .i64 g1, .int .i64 g2]
  | 11, v, _ => (e && f) = true → v = .agg #[.int .i64 k', .int .i64 t]
  | 12, v, _ => (e && f) = true → v = .agg #[.int .i64 p1, .int .i64 p2]
  | 13, v, _ => (e && f) = true → v = .pointer (some ⟨b6, 1, none⟩)
  | 14, v, _ => (e && f) = true → v = .agg #[.int .i64 x0, .int .i64 y0]
  | 15, v, _ => (e && f) = true → v = .bool h
  | 16, v, _ => (e && f) = true → v = .bool (!h)
  | 17, v, _ => v = .bool (e && f && !h)
  | _, _, _ => True
theorem G7.mono {b6 m : Nat} {A : Option Addr} {c : Nat} {k' t g1 g2 p1 p2 x0 y0 : Int} {e f h : Bool} (k : Nat) (v : Value) (w w' : World) (hg : G7 b6 m A c k' t g1 g2 p1 p2 x0 y0 e f h k v w) (_ : Below w.heap.size w w') : G7 b6 m A c k' t g1 g2 p1 p2 x0 y0 e f h k v w' := by
  unfold G7 at hg ⊢
  split at hg <;> exact hg
/-- what the operations of the step leave -/
def G12 (base m : Nat) (A : Option Addr) (c : Nat) (Al : Option Addr) (cl : Nat) (l : List Int) (t g1 g2 p q k' k'' nx x0 y0 : Int) (b : Bool) (bad : Nat → Prop) (r : Best) : Nat → Value → World → Prop
  | 0, v, _ => v = .agg #[.slice A m c, .int .i64 x0, .int .i64 y0]
  | 1, v, _ => v = .slice Al l.length cl
  | 2, v, w => OwnI w base v l
  | 3, v, _ => v = .int .i64 t
  | 4, v, w => ∃ g, v = .slice (some ⟨g, 0, none⟩) 1 1 ∧ Reads w (some ⟨g, 0, none⟩) [t]
  | 5, v, w => OwnI w base v (l ++ [t])
  | 6, v, _ => v = .agg #[.int .i64 g1, .int .i64 g2]
  | 7, v, _ => v = .int .i64 t
  | 8, v, _ => v = .agg #[.int .i64 1, .int .i64 t]
  | 9, v, _ => v = .agg #[.int .i64 p, .int .i64 q]
  | 10, v, _ => v = .int .i64 k'
  | 11, v, _ => v = .int .i64 k''
  | 12, v, _ => v = .int .i64 nx
  | 13, v, _ => v = .bool b
  | 14, v, w => ∃ A c, v = .agg #[.slice A r.1.length c, .int .i64 r.2.1, .int .i64 r.2.2] ∧ Reads w A r.1 ∧ ClearB bad r.1 A
  | _, _, _ => True
theorem G12.mono {base m : Nat} {A : Option Addr} {c : Nat} {Al : Option Addr} {cl : Nat} {l : List Int} {t g1 g2 p q k' k'' nx x0 y0 : Int} {b : Bool} {bad : Nat → Prop} {r : Best} (k : Nat) (v : Value) (w w' : World) (hg : G12 base m A c Al cl l t g1 g2 p q k' k'' nx x0 y0 b bad r k v w) (hb : Below w.heap.size w w') : G12 base m A c Al cl l t g1 g2 p q k' k'' nx x0 y0 b bad r k v w' := by
  unfold G12 at hg ⊢
  split at hg <;> first
    | exact hg
    | exact OwnI.below hg hb
    | (obtain ⟨g, h1, h2⟩ := hg; exact ⟨g, h1, h2.below hb⟩)
    | (obtain ⟨A, c, h1, h2, h3⟩ := hg; exact ⟨A, c, h1, h2.below hb, h3⟩)
def soft12 (i : Nat) : Bool := i == 5
def kill12 (i k : Nat) : Bool := i == 5 && (k == 2 || k == 4)
set_option maxRecDepth 100000 in
set_option maxHeartbeats 16000000 in
theorem neBelow_any (b : Int) (hb01 : b = 0 ∨ b = 1) : ∀ (f k : Nat) (best : Best) (l : List Int) (g1 g2 least : Int) (r : Best) (bad : Nat → Prop) (w : World) (A Al : Option Addr) (c cl m : Nat),
    bel f (k + 1) b best l (g1, g2) (max least (g2 / g1 + 1)) = some r → goodB g1 g2 = true → 1 ≤ g1 → 1 ≤ least → least ≤ 1000001 → k + 1 ≤ 4 → (best.1 = [] ∨ goodB best.2.1 best.2.2 = true) → l.length + (k + 1) ≤ 100 → m = best.1.length → Reads w A best.1 → Reads w Al l → (∀ x, bad x → x < w.heap.size) → ClearB bad best.1 A →
    Calls Try.prog 185 #[.agg #[.slice A m c, .int .i64 best.2.1, .int .i64 best.2.2], .slice Al l.length cl, .agg #[.int .i64 g1, .int .i64 g2], .int .i64 ((k : Int) + 1), .int .i64 least, .bool (decide (b = 1))] w (RetBestB bad r w) := by
  intro f
  induction f using Nat.strongRecOn with
  | _ f IH =>
  intro k best l g1 g2 least r bad w A Al c cl m hbel hg hg1 hls1 hls2 hk4 hbst hll hm hrA hrl hbad hcl
  obtain ⟨_, a2, a3, a4⟩ := good_bounds hg
  obtain ⟨q0, q2, q3⟩ := div_in hg1 (by omega : 0 ≤ g2)
  have o1 : IntKind.i64.wrap (g2 / g1) = g2 / g1 := IntWalk.i64_in _ (by omega)
  have o2 : IntKind.i64.wrap (g2 / g1 + 1) = g2 / g1 + 1 := IntWalk.i64_in _ (by omega)
  have hne : g1 ≠ 0 := by omega
  have HM := Lib.hid fun (w : World) => l1Most_any least (g2 / g1 + 1) w
  obtain ⟨t0, ht0⟩ : ∃ t0, t0 = max least (g2 / g1 + 1) := ⟨_, rfl⟩
  rw [← ht0] at hbel HM
  have HIH := Lib.hid IH
  have Hbad := Lib.hid hbad
  have T6 := Lib.hid (BAt.new w (.slice A m c) best.2.1 best.2.2 114)
  have T8 := Lib.hid (TwoAt.new (w.alloc (.cells #[.slice A m c, .int .i64 best.2.1, .int .i64 best.2.2] 114)) g1 g2 38)
  rw [World.size_alloc] at T8
  have hk1 : ¬ (k : Int) + 1 = 0 := by omega
  have hk2 : ((k : Int) + 1 == 0) = false := by simp; omega
  have T12 := Lib.hid (BAt.new ((w.alloc (.cells #[.slice A m c, .int .i64 best.2.1, .int .i64 best.2.2] 114)).alloc (.cells #[.int .i64 g1, .int .i64 g2] 38)) (.slice none 0 0) 0 0 114)
  rw [World.size_alloc, World.size_alloc] at T12
  have hcl2 : ClearB (fun x => bad x ∨ (w.heap.size ≤ x ∧ x < w.heap.size + 1 + 1 + 1)) best.1 A := by
    by_cases he : best.1 = []
    · exact .inl he
    · refine .inr fun a ha hx => ?_
      obtain ⟨b', o', hb', hlt, _⟩ := hrA (List.length_pos_iff.2 he)
      rw [hb'] at ha
      injection ha with ha
      subst ha
      rcases hx with hx | hx
      · exact (hcl.resolve_left he) _ hb' hx
      · have hx : w.heap.size ≤ b' ∧ b' < w.heap.size + 1 + 1 + 1 := hx
        omega
  have HST : Hid (∀ w', Below (w.heap.size + 1 + 1 + 1) (((w.alloc (.cells #[.slice A m c, .int .i64 best.2.1, .int .i64 best.2.2] 114)).alloc (.cells #[.int .i64 g1, .int .i64 g2] 38)).alloc (.cells #[.slice none 0 0, .int .i64 0, .int .i64 0] 114)) w' → NR bad k b l g1 g2 r w Al f (.int .i64 t0) w') := Lib.hid fun w' h => by
    have h' : Below w.heap.size w w' := ((((Below.refl _ _).alloc (Nat.le_refl _) _).alloc (by simp) _).alloc (by simp; omega) _).trans (h.mono (by omega))
    refine ⟨best, A, m, c, t0, rfl, hbel, hm, hbst, T6.out.below ?_, hrA.below h', hcl2, hrl.below h', T8.out.below ?_, T12.out.below ?_, h', ?_⟩
    · exact (((Below.refl _ _).alloc (Nat.le_refl _) _).alloc (by simp) _).trans (h.mono (by simp))
    · exact ((Below.refl _ _).alloc (Nat.le_refl _) _).trans (h.mono (by simp))
    · exact h.mono (by simp)
    · have := h.size; simpa using this
  have Hrl0 := Lib.hid hrl
  clear IH hbel hbst hm hrA hrl ht0 hcl hcl2 hbad T6 T8 T12
  go_enter Try.func185, Try.ntmps185
  go_wp2_with fail
  refine (HM.out _).mono ?_; rintro e w1 ⟨rfl, k1, rfl⟩
  go_wp2
  go_loopg [13] f (fun g v13 wr => NR bad k b l g1 g2 r w Al g v13 wr ∧ g ≤ f)
  case atStart => exact ⟨HST.out _ (by (repeat' (first | (with_reducible exact Below.refl _ _) | (with_reducible assumption) | (with_reducible refine Below.drew ?_) | (with_reducible refine belowDrewN ?_ _) | (with_reducible refine Below.alloc ?_ ?_ _) | (with_reducible refine Below.setCell ?_ ?_ _) | (with_reducible refine belowStep (by assumption) ?_ ?_) | (with_reducible exact Below.size (by assumption)) | go_size))), Nat.le_refl _⟩
  case round =>
    clear HST HM
    obtain ⟨⟨best, A, m, c, t, rfl, hb, hm, hbst, h6, hrA, hcl, hrl, h8, h12, hbr, hzr⟩, hgk⟩ := hrel
    obtain ⟨f', hf', ht1, ht2, ht3, ht4⟩ := bel_in hb
    subst hf'
    obtain ⟨b1, b2, b3, b4, b5, b6, b7⟩ := h6
    obtain ⟨c1, c2, f1, f2, z1⟩ := h8
    obtain ⟨e1, e2, e3, e4, e5, e6, e7⟩ := h12
    have y1 : w.heap.size < wr.heap.size + 1 := by omega
    have y2 : w.heap.size + 1 < wr.heap.size + 1 := by omega
    have y3 : w.heap.size ≠ wr.heap.size := by omega
    have y4 : w.heap.size + 1 ≠ wr.heap.size := by omega
    -- what the test gives
    have HL1 := Lib.hid fun (w : World) => unLess_raw ((k : Int) + 1) t g1 g2 w (by omega) (by omega) ht1 (by omega) (by omega) a2 a3 a4
    have he : decide ((0 : Int) < (m : Int)) = decide (best.1 ≠ []) := by
      rw [hm]
      cases hx : best.1 with
      | nil => simp
      | cons z0 zs =>
        have h0 : (0 : Int) < (((z0 :: zs).length : Nat) : Int) := by rw [List.length_cons]; omega
        rw [decide_eq_true h0]
        simp
    have HMn : Hid (decide (((k : Int) + 1) * g2 < g1 * t) = true → ∀ w, Calls Try.prog 143 #[.agg #[.int .i64 g1, .int .i64 g2], .agg #[.int .i64 ((k : Int) + 1), .int .i64 t]] w (Ret (.agg #[.int .i64 ((g1 * t - ((k : Int) + 1) * g2) / gcdI (g1 * t - ((k : Int) + 1) * g2) (g2 * t)), .int .i64 ((g2 * t) / gcdI (g1 * t - ((k : Int) + 1) * g2) (g2 * t))]) w)) := Lib.hid fun h w => by
      have h := of_decide_eq_true h
      exact unMinus_raw g1 g2 ((k : Int) + 1) t w (by omega) a2 a3 a4 (by omega) (by omega) ht1 (by omega) (by omega)
    have HL2 : Hid (decide ((0 : Int) < (m : Int)) = true → decide (((k : Int) + 1) * g2 < g1 * t) = true → ∀ w, Calls Try.prog 152 #[.agg #[.int .i64 ((g1 * t - ((k : Int) + 1) * g2) / gcdI (g1 * t - ((k : Int) + 1) * g2) (g2 * t)), .int .i64 ((g2 * t) / gcdI (g1 * t - ((k : Int) + 1) * g2) (g2 * t))], .agg #[.int .i64 best.2.1, .int .i64 best.2.2]] w (Ret (.bool (decide (((g1 * t - ((k : Int) + 1) * g2) / gcdI (g1 * t - ((k : Int) + 1) * g2) (g2 * t)) * best.2.2 < best.2.1 * ((g2 * t) / gcdI (g1 * t - ((k : Int) + 1) * g2) (g2 * t))))) w)) := Lib.hid fun he' h w => by
      have h := of_decide_eq_true h
      rw [he] at he'
      have he' := of_decide_eq_true he'
      obtain ⟨s1, s2, s3, s4⟩ := good_bounds (hbst.resolve_left he')
      have hgp := gcdI_pos (g1 * t - ((k : Int) + 1) * g2) (g2 * t) (by have := mul_pos1 a3 ht1; omega)
      have u1 := Int.ediv_le_self (gcdI (g1 * t - ((k : Int) + 1) * g2) (g2 * t)) (show 0 ≤ g1 * t - ((k : Int) + 1) * g2 by omega)
      have u2 := Int.ediv_le_self (gcdI (g1 * t - ((k : Int) + 1) * g2) (g2 * t)) (show 0 ≤ g2 * t by have := mul_pos1 a3 ht1; omega)
      have u3 := div_pos1 (a := g1 * t - ((k : Int) + 1) * g2) (b := gcdI (g1 * t - ((k : Int) + 1) * g2) (g2 * t)) (by omega) (by omega) (gcdI_dvdL _ _)
      have u4 := div_pos1 (a := g2 * t) (b := gcdI (g1 * t - ((k : Int) + 1) * g2) (g2 * t)) (mul_pos1 a3 ht1) (by omega) (gcdI_dvdR _ _)
      have u5 : 0 ≤ ((k : Int) + 1) * g2 := Int.mul_nonneg (by omega) (by omega)
      exact unLess_raw _ _ best.2.1 best.2.2 w (by omega) (by omega) (by omega) (by omega) s1 s2 s3 s4
    have HE : ∃ eb : Bool, (decide ((0 : Int) < (m : Int)) && decide (((k : Int) + 1) * g2 < g1 * t) && !decide (((g1 * t - ((k : Int) + 1) * g2) / gcdI (g1 * t - ((k : Int) + 1) * g2) (g2 * t)) * best.2.2 < best.2.1 * ((g2 * t) / gcdI (g1 * t - ((k : Int) + 1) * g2) (g2 * t)))) = eb ∧ (eb = true ↔ belEnd k best g1 g2 t) := ⟨_, rfl, by
      rw [he]
      unfold belEnd
      simp only [Bool.and_eq_true, Bool.not_eq_true', decide_eq_true_eq, decide_eq_false_iff_not, and_assoc]⟩
    obtain ⟨eb, hE, HEI⟩ := HE
    have Hb := Lib.hid hb
    have Hm := Lib.hid hm
    have Hbst := Lib.hid hbst
    have HrA := Lib.hid hrA
    have Hcl := Lib.hid hcl
    have Hrl := Lib.hid hrl
    clear hb hm hbst hrA hrl hcl he
    go_wp2
    obtain ⟨wq, hwq⟩ : ∃ wq, wq = wr.alloc (.cells #[.int .i64 ((k : Int) + 1), .int .i64 t] 38) := ⟨_, rfl⟩
    have hb0 : Below wr.heap.size wr wq := by rw [hwq]; (repeat' (first | (with_reducible exact Below.refl _ _) | (with_reducible assumption) | (with_reducible refine Below.drew ?_) | (with_reducible refine belowDrewN ?_ _) | (with_reducible refine Below.alloc ?_ ?_ _) | (with_reducible refine Below.setCell ?_ ?_ _) | (with_reducible refine belowStep (by assumption) ?_ ?_) | (with_reducible exact Below.size (by assumption)) | go_size))
    have hzq := hb0.size
    have T14 : Hid (TwoAt wq wr.heap.size ((k : Int) + 1) t) := Lib.hid (by rw [hwq]; exact TwoAt.new _ _ _ _)
    rw [← hwq]
    have B6 := Lib.hid (BAt.below (w := wr) ⟨b1, b2, b3, b4, b5, b6, b7⟩ hb0)
    have B12 := Lib.hid (BAt.below (w := wr) ⟨e1, e2, e3, e4, e5, e6, e7⟩ hb0)
    have B8 := Lib.hid (TwoAt.below (w := wr) ⟨c1, c2, f1, f2, z1⟩ hb0)
    have HCD : Hid (∀ w', Below wq.heap.size wq w' → w'.cell? ⟨w.heap.size, 0, none⟩ = some (.slice A m c) ∧ w'.cell? ⟨w.heap.size, 1, none⟩ = some (.int .i64 best.2.1) ∧ w'.cell? ⟨w.heap.size, 2, none⟩ = some (.int .i64 best.2.2) ∧ w'.cell? ⟨w.heap.size + 1, 0, none⟩ = some (.int .i64 g1) ∧ w'.cell? ⟨w.heap.size + 1, 1, none⟩ = some (.int .i64 g2) ∧ w'.cell? ⟨wr.heap.size, 0, none⟩ = some (.int .i64 ((k : Int) + 1)) ∧ w'.cell? ⟨wr.heap.size, 1, none⟩ = some (.int .i64 t)) := Lib.hid fun w' h => ⟨(B6.out.below h).1, (B6.out.below h).2.1, (B6.out.below h).2.2.1, (B8.out.below h).1, (B8.out.below h).2.1, (T14.out.below h).1, (T14.out.below h).2.1⟩
    clear b1 b2 b3 b4 b5 b6 b7 c1 c2 f1 f2 z1 e1 e2 e3 e4 e5 e6 e7 y1 y2 y3 y4 hwq
    go_cut [61] (fun s61 wx => s61 = .bool eb ∧ Below wq.heap.size wq wx)
    case first =>
      subst hE
      clear HEI Hb Hbst
      have E : ∀ e, e = decide ((0 : Int) < (m : Int)) → decide ((0 : Int) < (m : Int)) = e := fun e h => h.symm
      generalize hee : decide ((0 : Int) < (m : Int)) = e at *
      generalize decide (((k : Int) + 1) * g2 < g1 * t) = f0 at *
      generalize (g1 * t - ((k : Int) + 1) * g2) / gcdI (g1 * t - ((k : Int) + 1) * g2) (g2 * t) = p1 at *
      generalize (g2 * t) / gcdI (g1 * t - ((k : Int) + 1) * g2) (g2 * t) = p2 at *
      generalize best.2.1 = x0 at *
      generalize best.2.2 = y0 at *
      generalize decide (p1 * y0 < x0 * p2) = h0 at *
      have hee2 : decide ((m : Int) > 0) = e := hee
      generalize (k : Int) + 1 = k' at *
      clear E
      refine region_facts (by kernel_rfl) 18 rfl (fun i => 44 + i) (fun i j _ _ h => by have : 44 + i = 44 + j := h; omega) (fun i hi => by show 44 + i < 87; omega) (G7 w.heap.size m A c k' t g1 g2 p1 p2 x0 y0 e f0 h0) G7.mono (by kernel_rfl) (fun i hi a wx hfr hbx hdep => ?_) (fun a wx hfr hbx hall => ?_)
      · have f6 := hfr.slot 6 (.pointer (some ⟨w.heap.size, 0, none⟩)) (fun j _ h => by have : 44 + j = 6 := h; omega) (by show 6 < 87; omega) rfl
        have f8 := hfr.slot 8 (.pointer (some ⟨w.heap.size + 1, 0, none⟩)) (fun j _ h => by have : 44 + j = 8 := h; omega) (by show 8 < 87; omega) rfl
        have f14 := hfr.slot 14 (.pointer (some ⟨wr.heap.size, 0, none⟩)) (fun j _ h => by have : 44 + j = 14 := h; omega) (by show 14 < 87; omega) rfl
        have hsz : a.tmps.size = 87 := hfr.1
        obtain ⟨c1, c2, c3, c4, c5, c6, c7⟩ := HCD.out wx hbx
        clear hfr HIH T14 HCD B6 B8 B12 Hbad HrA Hrl Hrl0 Hcl Hm
        match i, hi with
        | 0, _ => (refine wpOp_step rfl (fun K' hK => ?_); clear hsz; go_simp; refine hK _ _ ⟨Below.refl _ _, _, .inl rfl, ?_⟩; exact rfl)
        | 1, _ => have d0 := slotR (hdep 0 (by omega) (by kernel_rfl)) (show _ < _ by rw [hsz]; omega); (refine wpOp_step rfl (fun K' hK => ?_); clear hsz; go_simp; refine hK _ _ ⟨Below.refl _ _, _, .inl rfl, ?_⟩; exact rfl)
        | 2, _ => have d1 := slotR (hdep 1 (by omega) (by kernel_rfl)) (show _ < _ by rw [hsz]; omega); (refine wpOp_step rfl (fun K' hK => ?_); clear hsz; go_simp; refine hK _ _ ⟨Below.refl _ _, _, .inl rfl, ?_⟩; exact rfl)
        | 3, _ => have d2 := slotR (hdep 2 (by omega) (by kernel_rfl)) (show _ < _ by rw [hsz]; omega); (refine wpOp_step rfl (fun K' hK => ?_); clear hsz; go_simp; refine hK _ _ ⟨Below.refl _ _, _, .inl rfl, ?_⟩; (refine congrArg Value.bool ?_; rw [← hee]; simp))
        | 4, _ => have d3 := slotR (hdep 3 (by omega) (by kernel_rfl)) (show _ < _ by rw [hsz]; omega); (refine wpOp_step rfl (fun K' hK => ?_); clear hsz; go_simp; refine hK _ _ ⟨Below.refl _ _, _, .inl rfl, ?_⟩; exact rfl)
        | 5, _ => have d4 := slotR (hdep 4 (by omega) (by kernel_rfl)) (show _ < _ by rw [hsz]; omega); cases e <;> (refine wpOp_step rfl (fun K' hK => ?_); clear hsz; go_simp; refine hK _ _ ⟨Below.refl _ _, _, .inl rfl, ?_⟩; first | exact fun _ => rfl | exact fun h => (by cases h))
        | 6, _ => have d4 := slotR (hdep 4 (by omega) (by kernel_rfl)) (show _ < _ by rw [hsz]; omega); cases e <;> (refine wpOp_step rfl (fun K' hK => ?_); clear hsz; go_simp; refine hK _ _ ⟨Below.refl _ _, _, .inl rfl, ?_⟩; first | exact fun _ => rfl | exact fun h => (by cases h))
        | 7, _ =>
          have d4 := slotR (hdep 4 (by omega) (by kernel_rfl)) (show _ < _ by rw [hsz]; omega)
          cases e with
          | false => (refine wpOp_step rfl (fun K' hK => ?_); clear hsz; go_simp; refine hK _ _ ⟨Below.refl _ _, _, .inl rfl, ?_⟩; exact fun h => (by cases h))
          | true =>
            have d5 := slotR (hdep 5 (by omega) (by kernel_rfl) rfl) (show _ < _ by rw [hsz]; omega)
            have d6 := slotR (hdep 6 (by omega) (by kernel_rfl) rfl) (show _ < _ by rw [hsz]; omega)
            refine wpOp_step rfl (fun K' hK => ?_)
            clear hsz
            go_simp
            refine (HL1.out _).mono ?_; rintro e w21 ⟨rfl, hb21⟩
            exact hK _ _ ⟨hb21, _, .inl rfl, fun _ => rfl⟩
        | 8, _ =>
          have d4 := slotR (hdep 4 (by omega) (by kernel_rfl)) (show _ < _ by rw [hsz]; omega)
          cases e with
          | false => (refine wpOp_step rfl (fun K' hK => ?_); clear hsz; go_simp; refine hK _ _ ⟨Below.refl _ _, _, .inl rfl, ?_⟩; exact rfl)
          | true => have d7 := slotR (hdep 7 (by omega) (by kernel_rfl) rfl) (show _ < _ by rw [hsz]; omega); (refine wpOp_step rfl (fun K' hK => ?_); clear hsz; go_simp; refine hK _ _ ⟨Below.refl _ _, _, .inl rfl, ?_⟩; exact rfl)
        | 9, _ => have d8 := slotR (hdep 8 (by omega) (by kernel_rfl)) (show _ < _ by rw [hsz]; omega); (refine wpOp_step rfl (fun K' hK => ?_); clear hsz; go_simp; refine hK _ _ ⟨Below.refl _ _, _, .inl rfl, ?_⟩; exact rfl)
        | 10, _ => have d9 := slotR (hdep 9 (by omega) (by kernel_rfl)) (show _ < _ by rw [hsz]; omega); cases e <;> cases f0 <;> (refine wpOp_step rfl (fun K' hK => ?_); clear hsz; go_simp; refine hK _ _ ⟨Below.refl _ _, _, .inl rfl, ?_⟩; first | exact fun _ => rfl | exact fun h => (by cases h))
        | 11, _ => have d9 := slotR (hdep 9 (by omega) (by kernel_rfl)) (show _ < _ by rw [hsz]; omega); cases e <;> cases f0 <;> (refine wpOp_step rfl (fun K' hK => ?_); clear hsz; go_simp; refine hK _ _ ⟨Below.refl _ _, _, .inl rfl, ?_⟩; first | exact fun _ => rfl | exact fun h => (by cases h))
        | 12, _ =>
          have d9 := slotR (hdep 9 (by omega) (by kernel_rfl)) (show _ < _ by rw [hsz]; omega)
          by_cases hef : (e && f0) = true
          · obtain ⟨he1, hf1⟩ := Bool.and_eq_true_iff.1 hef
            have d10 := slotR (hdep 10 (by omega) (by kernel_rfl) hef) (show _ < _ by rw [hsz]; omega)
            have d11 := slotR (hdep 11 (by omega) (by kernel_rfl) hef) (show _ < _ by rw [hsz]; omega)
            have HMx := HMn.out hf1
            subst he1 hf1
            refine wpOp_step rfl (fun K' hK => ?_)
            clear hsz
            go_simp
            refine (HMx _).mono ?_; rintro e w21 ⟨rfl, hb21⟩
            exact hK _ _ ⟨hb21, _, .inl rfl, fun _ => rfl⟩
          · have hef2 : (e && f0) = false := by simpa using hef
            rw [hef2] at d9
            (refine wpOp_step rfl (fun K' hK => ?_); clear hsz; go_simp; refine hK _ _ ⟨Below.refl _ _, _, .inl rfl, ?_⟩; exact fun h => absurd h hef)
        | 13, _ => have d9 := slotR (hdep 9 (by omega) (by kernel_rfl)) (show _ < _ by rw [hsz]; omega); cases e <;> cases f0 <;> (refine wpOp_step rfl (fun K' hK => ?_); clear hsz; go_simp; refine hK _ _ ⟨Below.refl _ _, _, .inl rfl, ?_⟩; first | exact fun _ => rfl | exact fun h => (by cases h))
        | 14, _ =>
          have d9 := slotR (hdep 9 (by omega) (by kernel_rfl)) (show _ < _ by rw [hsz]; omega)
          by_cases hef : (e && f0) = true
          · have d13 := slotR (hdep 13 (by omega) (by kernel_rfl) hef) (show _ < _ by rw [hsz]; omega)
            rw [hef] at d9
            (refine wpOp_step rfl (fun K' hK => ?_); clear hsz; go_simp; refine hK _ _ ⟨Below.refl _ _, _, .inl rfl, ?_⟩; exact fun _ => rfl)
          · have hef2 : (e && f0) = false := by simpa using hef
            rw [hef2] at d9
            (refine wpOp_step rfl (fun K' hK => ?_); clear hsz; go_simp; refine hK _ _ ⟨Below.refl _ _, _, .inl rfl, ?_⟩; exact fun h => absurd h hef)
        | 15, _ =>
          have d9 := slotR (hdep 9 (by omega) (by kernel_rfl)) (show _ < _ by rw [hsz]; omega)
          by_cases hef : (e && f0) = true
          · obtain ⟨he1, hf1⟩ := Bool.and_eq_true_iff.1 hef
            have d12 := slotR (hdep 12 (by omega) (by kernel_rfl) hef) (show _ < _ by rw [hsz]; omega)
            have d14 := slotR (hdep 14 (by omega) (by kernel_rfl) hef) (show _ < _ by rw [hsz]; omega)
            have HLx := HL2.out he1 hf1
            rw [hef] at d9
            refine wpOp_step rfl (fun K' hK => ?_)
            clear hsz
            go_simp
            refine (HLx _).mono ?_; rintro e w21 ⟨rfl, hb21⟩
            exact hK _ _ ⟨hb21, _, .inl rfl, fun _ => rfl⟩
          · have hef2 : (e && f0) = false := by simpa using hef
            rw [hef2] at d9
            (refine wpOp_step rfl (fun K' hK => ?_); clear hsz; go_simp; refine hK _ _ ⟨Below.refl _ _, _, .inl rfl, ?_⟩; exact fun h => absurd h hef)
        | 16, _ =>
          have d9 := slotR (hdep 9 (by omega) (by kernel_rfl)) (show _ < _ by rw [hsz]; omega)
          by_cases hef : (e && f0) = true
          · have d15 := slotR (hdep 15 (by omega) (by kernel_rfl) hef) (show _ < _ by rw [hsz]; omega)
            rw [hef] at d9
            (refine wpOp_step rfl (fun K' hK => ?_); clear hsz; go_simp; refine hK _ _ ⟨Below.refl _ _, _, .inl rfl, ?_⟩; exact fun _ => rfl)
          · have hef2 : (e && f0) = false := by simpa using hef
            rw [hef2] at d9
            (refine wpOp_step rfl (fun K' hK => ?_); clear hsz; go_simp; refine hK _ _ ⟨Below.refl _ _, _, .inl rfl, ?_⟩; exact fun h => absurd h hef)
        | 17, _ =>
          have d9 := slotR (hdep 9 (by omega) (by kernel_rfl)) (show _ < _ by rw [hsz]; omega)
          by_cases hef : (e && f0) = true
          · have d16 := slotR (hdep 16 (by omega) (by kernel_rfl) hef) (show _ < _ by rw [hsz]; omega)
            rw [hef] at d9
            (refine wpOp_step rfl (fun K' hK => ?_); clear hsz; go_simp; refine hK _ _ ⟨Below.refl _ _, _, .inl rfl, ?_⟩; (show _ = Value.bool (e && f0 && !h0); rw [hef, Bool.true_and]))
          · have hef2 : (e && f0) = false := by simpa using hef
            rw [hef2] at d9
            (refine wpOp_step rfl (fun K' hK => ?_); clear hsz; go_simp; refine hK _ _ ⟨Below.refl _ _, _, .inl rfl, ?_⟩; (show _ = Value.bool (e && f0 && !h0); rw [hef2, Bool.false_and]))
        | i + 18, h => exact absurd h (by omega)
      · have e61 : a.tmps.getD 61 undef = .bool (e && f0 && !h0) := hall 17 (by omega)
        rw [hfr.form (by show 62 ≤ 87; omega)]
        rw [show (List.range 18).map (fun i => a.tmps.getD (44 + i) undef) = [a.tmps.getD 44 undef, a.tmps.getD 45 undef, a.tmps.getD 46 undef, a.tmps.getD 47 undef, a.tmps.getD 48 undef, a.tmps.getD 49 undef, a.tmps.getD 50 undef, a.tmps.getD 51 undef, a.tmps.getD 52 undef, a.tmps.getD 53 undef, a.tmps.getD 54 undef, a.tmps.getD 55 undef, a.tmps.getD 56 undef, a.tmps.getD 57 undef, a.tmps.getD 58 undef, a.tmps.getD 59 undef, a.tmps.getD 60 undef, a.tmps.getD 61 undef] from rfl]
        simp only [setsFrom]
        generalize a.tmps.getD 44 undef = v44
        generalize a.tmps.getD 45 undef = v45
        generalize a.tmps.getD 46 undef = v46
        generalize a.tmps.getD 47 undef = v47
        generalize a.tmps.getD 48 undef = v48
        generalize a.tmps.getD 49 undef = v49
        generalize a.tmps.getD 50 undef = v50
        generalize a.tmps.getD 51 undef = v51
        generalize a.tmps.getD 52 undef = v52
        generalize a.tmps.getD 53 undef = v53
        generalize a.tmps.getD 54 undef = v54
        generalize a.tmps.getD 55 undef = v55
        generalize a.tmps.getD 56 undef = v56
        generalize a.tmps.getD 57 undef = v57
        generalize a.tmps.getD 58 undef = v58
        generalize a.tmps.getD 59 undef = v59
        generalize a.tmps.getD 60 undef = v60
        rw [e61]
        simp only [List.setIfInBounds_toArray, List.set_cons_succ, List.set_cons_zero]
        go_wp2_with fail
        go_meet
        exact ⟨rfl, hbx⟩
    case rest =>
      obtain ⟨w24, rfl⟩ : ∃ w24 : World, w24 = wc := ⟨_, rfl⟩
      obtain ⟨rfl, hb24⟩ := hcut
      have hz24 := hb24.size
      have hbw24 : Below w.heap.size w w24 := by (repeat' (first | (with_reducible exact Below.refl _ _) | (with_reducible assumption) | (with_reducible refine Below.drew ?_) | (with_reducible refine belowDrewN ?_ _) | (with_reducible refine Below.alloc ?_ ?_ _) | (with_reducible refine Below.setCell ?_ ?_ _) | (with_reducible refine belowStep (by assumption) ?_ ?_) | (with_reducible exact Below.size (by assumption)) | go_size))
      clear HL1 HMn HL2 hE HCD
      cases eb with
      | true =>
        have hr := bel_end Hb.out (HEI.1 rfl)
        subst hr
        obtain ⟨b1, b2, b3, b4, b5, b6, b7⟩ := (B6.out.below hb24)
        obtain ⟨e1, e2, e3, e4, e5, e6, e7⟩ := (B12.out.below hb24)
        clear B6 B12 B8 T14
        go_wp2
        have PB := BAt.put (w := w24) ⟨e1, e2, e3, e4, e5, e6, e7⟩ (.slice A m c) r.2.1 r.2.2
        have PR : Reads (((w24.setCell ⟨w.heap.size + 1 + 1, 0, none⟩ (.slice A m c)).setCell ⟨w.heap.size + 1 + 1, 1, none⟩ (.int .i64 r.2.1)).setCell ⟨w.heap.size + 1 + 1, 2, none⟩ (.int .i64 r.2.2)) A r.1 := by
          refine Reads.offB (g := w.heap.size + 1 + 1) (Reads.offB (g := w.heap.size + 1 + 1) (Reads.offB (g := w.heap.size + 1 + 1) ((HrA.out.below hb0).below hb24) ?_ rfl _) ?_ rfl _) ?_ rfl _ <;>
            exact Hcl.out.imp id (fun h a ha e => h a ha (.inr (by omega)))
        have PW : Below w.heap.size w (((w24.setCell ⟨w.heap.size + 1 + 1, 0, none⟩ (.slice A m c)).setCell ⟨w.heap.size + 1 + 1, 1, none⟩ (.int .i64 r.2.1)).setCell ⟨w.heap.size + 1 + 1, 2, none⟩ (.int .i64 r.2.2)) := by (repeat' (first | (with_reducible exact Below.refl _ _) | (with_reducible assumption) | (with_reducible refine Below.drew ?_) | (with_reducible refine belowDrewN ?_ _) | (with_reducible refine Below.alloc ?_ ?_ _) | (with_reducible refine Below.setCell ?_ ?_ _) | (with_reducible refine belowStep (by assumption) ?_ ?_) | (with_reducible exact Below.size (by assumption)) | go_size))
        generalize ((w24.setCell ⟨w.heap.size + 1 + 1, 0, none⟩ (.slice A m c)).setCell ⟨w.heap.size + 1 + 1, 1, none⟩ (.int .i64 r.2.1)).setCell ⟨w.heap.size + 1 + 1, 2, none⟩ (.int .i64 r.2.2) = W at PB PR PW ⊢
        clear e1 e2 e3 e4 e5 e6 e7 b1 b2 b3 b4 b5 b6 b7
        obtain ⟨q1, q2, q3, _, _, _, _⟩ := PB
        refine bodyPost_ret (by simp [results, Try.results185, go_sem, q1, q2, q3]; try rfl) rfl ?_
        exact ⟨A, c, by rw [Hm.out], PR, PW, Hcl.out.imp id (fun h a ha e => h a ha (.inl e))⟩
      | false =>
        obtain ⟨htb, hk0, hkS⟩ := bel_go Hb.out (fun h => by cases HEI.2 h)
        have hgt := tB_good a3 ht1 htb
        obtain ⟨n1, n2, n3, n4⟩ := good_bounds hgt
        obtain ⟨p1, p2, p3, p4, p5, p6⟩ := tB_parts htb
        have hb5 : 0 ≤ b ∧ b ≤ 1 := by rcases hb01 with h | h <;> omega
        have otb : IntKind.i64.wrap (t + 1) = t + 1 := IntWalk.i64_in _ (by omega)
        have okk : IntKind.i64.wrap ((k : Int) + 1 - 1) = (k : Int) := by rw [show (k : Int) + 1 - 1 = (k : Int) by omega]; exact IntWalk.i64_in _ (by omega)
        have HMU : Hid (∀ w, Calls Try.prog 143 #[.agg #[.int .i64 g1, .int .i64 g2], .agg #[.int .i64 1, .int .i64 t]] w (Ret (.agg #[.int .i64 (tN g1 g2 t), .int .i64 (tD g1 g2 t)]) w)) := Lib.hid fun w => by
          have h := minusUnit_any g1 g2 t w hg ht1 p1 p2
          rwa [show (g1 * t - g2) / gcdI (g1 * t - g2) (g2 * t) = tN g1 g2 t by rw [p5, redN, if_pos p3], show (g2 * t) / gcdI (g1 * t - g2) (g2 * t) = tD g1 g2 t by rw [p6, redD, if_pos p3]] at h
        have HO : Hid (∀ w', Reads w' Al l → Calls Try.prog 191 #[.slice Al l.length cl] w' (RetL l w')) := Lib.hid fun w' h => l1Own_any w' Al cl l h (by omega)
        -- the recursion
        have HS : ∃ s : Best, (k = 0 → r = s) ∧ (k ≠ 0 → bel f' (k + 1) b s l (g1, g2) (t + 1) = some r) ∧ (s.1 = [] ∨ goodB s.2.1 s.2.2 = true) ∧ Hid (∀ w' A2 c2 n2, n2 = (l ++ [t]).length → Below w24.heap.size w24 w' → Reads w' A2 (l ++ [t]) → Calls Try.prog 185 #[.agg #[.slice A m c, .int .i64 best.2.1, .int .i64 best.2.2], .slice A2 n2 c2, .agg #[.int .i64 (tN g1 g2 t), .int .i64 (tD g1 g2 t)], .int .i64 (k : Int), .int .i64 (t + b), .bool (decide (b = 1))] w' (RetBestB (fun x => bad x ∨ (w.heap.size ≤ x ∧ x < w.heap.size + 1 + 1 + 1)) s w')) := by
          have hbd : ∀ w', Below w24.heap.size w24 w' → ∀ x, (bad x ∨ (w.heap.size ≤ x ∧ x < w.heap.size + 1 + 1 + 1)) → x < w'.heap.size := fun w' h x hx => by
            have := h.size
            rcases hx with hx | hx
            · have := Hbad.out x hx; omega
            · omega
          have hrA : ∀ w', Below w24.heap.size w24 w' → Reads w' A best.1 := fun w' h => ((HrA.out.below hb0).below hb24).below h
          rcases Nat.eq_zero_or_pos k with hk | hk
          · subst hk
            by_cases hnew : best.1 = [] ∨ tN g1 g2 t * best.2.2 < best.2.1 * tD g1 g2 t
            · have es : btr best (l ++ [t]) (tN g1 g2 t, tD g1 g2 t) = (l ++ [t], tN g1 g2 t, tD g1 g2 t) := by
                rcases hnew with h | h
                · exact btr_empty h
                · exact btr_less h
              refine ⟨(l ++ [t], tN g1 g2 t, tD g1 g2 t), fun _ => (hk0 rfl).trans es, fun h => absurd rfl h, .inr hgt, Lib.hid fun w' A2 c2 n2 hn2 hw hr => ?_⟩
              subst hn2
              refine neBelow_new (fun x => bad x ∨ (w.heap.size ≤ x ∧ x < w.heap.size + 1 + 1 + 1)) w' (hbd w' hw) A A2 c c2 m (l ++ [t]) _ _ _ _ (t + b) (decide (b = 1)) hr (by rw [List.length_append, List.length_singleton]; omega) ?_
              by_cases hm0 : m = 0
              · exact .inl hm0
              · have hne2 : best.1 ≠ [] := fun e => hm0 (by rw [Hm.out, e]; rfl)
                obtain ⟨s1, s2, s3, s4⟩ := good_bounds (Hbst.out.resolve_left hne2)
                refine .inr fun w' => ?_
                have h := unLess_raw (tN g1 g2 t) (tD g1 g2 t) best.2.1 best.2.2 w' n1 n2 n3 n4 s1 s2 s3 s4
                rwa [decide_eq_true (hnew.resolve_left hne2)] at h
            · have hne2 : best.1 ≠ [] := fun e => hnew (.inl e)
              have hnl : ¬ tN g1 g2 t * best.2.2 < best.2.1 * tD g1 g2 t := fun e => hnew (.inr e)
              obtain ⟨s1, s2, s3, s4⟩ := good_bounds (Hbst.out.resolve_left hne2)
              refine ⟨best, fun _ => (hk0 rfl).trans (btr_old hne2 hnl), fun h => absurd rfl h, Hbst.out, Lib.hid fun w' A2 c2 n2 hn2 hw hr => ?_⟩
              subst hn2
              exact neBelow_old (fun x => bad x ∨ (w.heap.size ≤ x ∧ x < w.heap.size + 1 + 1 + 1)) w' A A2 c c2 m best.1 (l ++ [t]) _ _ _ _ (t + b) (decide (b = 1)) (hrA w' hw) Hm.out (by rw [Hm.out]; exact List.length_pos_iff.2 hne2) Hcl.out (fun w' => by
                have h := unLess_raw (tN g1 g2 t) (tD g1 g2 t) best.2.1 best.2.2 w' n1 n2 n3 n4 s1 s2 s3 s4
                rwa [decide_eq_false hnl] at h)
          · obtain ⟨h1n, s, hs, hr⟩ := hkS (by omega)
            obtain ⟨k0, rfl⟩ : ∃ k0, k = k0 + 1 := ⟨k - 1, by omega⟩
            refine ⟨s, fun h => absurd h (by omega), fun _ => hr, bel_good f' k0 best _ _ _ _ s hs Hbst.out hgt, Lib.hid fun w' A2 c2 n2 hn2 hw hr2 => ?_⟩
            subst hn2
            have h := HIH.out f' (by omega) k0 best (l ++ [t]) (tN g1 g2 t) (tD g1 g2 t) (t + b) s (fun x => bad x ∨ (w.heap.size ≤ x ∧ x < w.heap.size + 1 + 1 + 1)) w' A A2 c c2 m hs hgt h1n (by omega) (by omega) (by omega) Hbst.out (by rw [List.length_append, List.length_singleton]; omega) Hm.out (hrA w' hw) hr2 (hbd w' hw) Hcl.out
            rwa [show ((k0 : Int) + 1) = ((k0 + 1 : Nat) : Int) by omega] at h
        obtain ⟨s, hs0, hsS, hsg, HREC⟩ := HS
        have HCD : Hid (∀ w', Below w24.heap.size w24 w' → w'.cell? ⟨w.heap.size, 0, none⟩ = some (.slice A m c) ∧ w'.cell? ⟨w.heap.size, 1, none⟩ = some (.int .i64 best.2.1) ∧ w'.cell? ⟨w.heap.size, 2, none⟩ = some (.int .i64 best.2.2) ∧ w'.cell? ⟨w.heap.size + 1, 0, none⟩ = some (.int .i64 g1) ∧ w'.cell? ⟨w.heap.size + 1, 1, none⟩ = some (.int .i64 g2)) := Lib.hid fun w' h => ⟨((B6.out.below hb24).below h).1, ((B6.out.below hb24).below h).2.1, ((B6.out.below hb24).below h).2.2.1, ((B8.out.below hb24).below h).1, ((B8.out.below hb24).below h).2.1⟩
        have B6 := Lib.hid (B6.out.below hb24)
        have B8 := Lib.hid (B8.out.below hb24)
        have B12 := Lib.hid (B12.out.below hb24)
        clear HIH hk0 hkS Hb HEI p1 p2 p3 p4 p5 p6 n1 n2 n3 n4 hgt T14
        go_upto_if 64 with fail
        go_cut [15] (fun s15 wx => s15 = .int .i64 (t + b) ∧ wx = w24)
        case first =>
          rcases hb01 with rfl | rfl
          · go_wp2_with fail
            go_meet
            exact ⟨by go_num, rfl⟩
          · go_wp2_with fail
            go_meet
            exact ⟨by go_num, rfl⟩
        case rest =>
          obtain ⟨rfl, hwe⟩ := hcut
          rw [hwe]
          clear hwe
          go_upto_region 12 with fail
          go_cut [] (fun wx => ∃ A' c', BAt wx w.heap.size (.slice A' s.1.length c') s.2.1 s.2.2 ∧ Reads wx A' s.1 ∧ ClearB (fun x => bad x ∨ (w.heap.size ≤ x ∧ x < w.heap.size + 1 + 1 + 1)) s.1 A' ∧ TwoAt wx (w.heap.size + 1) g1 g2 ∧ BAt wx (w.heap.size + 1 + 1) (.slice none 0 0) 0 0 ∧ Below w.heap.size w wx ∧ w24.heap.size ≤ wx.heap.size)
          case first =>
            clear hs0 hsS hsg
            have hzw24 : w.heap.size + 1 + 1 + 1 ≤ w24.heap.size := by omega
            have okk2 : IntKind.i64.wrap (k : Int) = (k : Int) := IntWalk.i64_in _ (by omega)
            generalize best.2.1 = x0 at *
            generalize best.2.2 = y0 at *
            generalize tN g1 g2 t = p1 at *
            generalize tD g1 g2 t = p2 at *
            generalize decide (b = 1) = bb at *
            refine region_facts_last (by kernel_rfl) 15 rfl (fun i => 67 + i) (fun i j _ _ h => by have : 67 + i = 67 + j := h; omega) (fun i hi => by show 67 + i < 87; omega) soft12 kill12 (G12 w24.heap.size m A c Al cl l t g1 g2 p1 p2 ((k : Int) + 1) (k : Int) (t + b) x0 y0 bb (fun x => bad x ∨ (w.heap.size ≤ x ∧ x < w.heap.size + 1 + 1 + 1)) s) G12.mono (fun i k' hi hk hne hs hkl hd v wa wb hg _ _ => ?_) (by kernel_rfl) (by kernel_rfl) (fun i hi a wx hfr hbx hdep => ?_) (fun a wx hfr hbx hall => ?_)
            · have hi5 : i = 5 := by simpa [soft12] using hs
              subst hi5
              match k', hk with
              | 0, _ => exact hg
              | 1, _ => exact hg
              | 2, _ => cases hkl
              | 3, _ => exact hg
              | 4, _ => cases hkl
              | 5, _ => exact absurd rfl hne
              | 6, _ => exact hg
              | 7, _ => exact hg
              | 8, _ => exact hg
              | 9, _ => exact hg
              | 10, _ => exact hg
              | 11, _ => exact hg
              | 12, _ => exact hg
              | 13, _ => exact hg
              | 14, _ => exact absurd hd (by rw [show depR _ 14 5 = true by kernel_rfl]; simp)
              | n + 15, h => exact absurd h (by omega)
            · have f1 := hfr.slot 1 (.slice Al l.length cl) (fun j _ h => by have : 67 + j = 1 := h; omega) (by show 1 < 87; omega) rfl
              have f3 := hfr.slot 3 (.int .i64 ((k : Int) + 1)) (fun j _ h => by have : 67 + j = 3 := h; omega) (by show 3 < 87; omega) rfl
              have f5 := hfr.slot 5 (.bool bb) (fun j _ h => by have : 67 + j = 5 := h; omega) (by show 5 < 87; omega) rfl
              have f6 := hfr.slot 6 (.pointer (some ⟨w.heap.size, 0, none⟩)) (fun j _ h => by have : 67 + j = 6 := h; omega) (by show 6 < 87; omega) rfl
              have f8 := hfr.slot 8 (.pointer (some ⟨w.heap.size + 1, 0, none⟩)) (fun j _ h => by have : 67 + j = 8 := h; omega) (by show 8 < 87; omega) rfl
              have f13 := hfr.slot 13 (.int .i64 t) (fun j _ h => by have : 67 + j = 13 := h; omega) (by show 13 < 87; omega) rfl
              have f15 := hfr.slot 15 (.int .i64 (t + b)) (fun j _ h => by have : 67 + j = 15 := h; omega) (by show 15 < 87; omega) rfl
              have hsz : a.tmps.size = 87 := hfr.1
              have hle := hbx.size
              obtain ⟨c1, c2, c3, c4, c5⟩ := HCD.out wx hbx
              have HRl := Lib.hid (Hrl0.out.below (hbw24.trans (hbx.mono hbw24.size)))
              clear hfr HCD B6 B8 B12 Hbad HrA Hrl Hrl0 Hcl Hm
              match i, hi with
              | 0, _ => (refine wpOp_step rfl (fun K' hK => ?_); clear hsz; go_simp; refine hK _ _ (SoftR.of hle (Below.refl _ _) ?_); exact rfl)
              | 1, _ => (refine wpOp_step rfl (fun K' hK => ?_); clear hsz; go_simp; refine hK _ _ (SoftR.of hle (Below.refl _ _) ?_); exact rfl)
              | 2, _ =>
                have d1 := slotR (hdep 1 (by omega) (by kernel_rfl) (fun q _ => by unfold kill12; cases q == 5 <;> rfl)) (show _ < _ by rw [hsz]; omega)
                refine wpOp_step rfl (fun K' hK => ?_)
                clear hsz
                go_simp
                refine (HO.out _ HRl.out).mono ?_; rintro e w21 ⟨v21, rfl, ho21, hb21⟩
                exact hK _ _ (SoftR.of hle hb21 (ho21.mono hle))
              | 3, _ => (refine wpOp_step rfl (fun K' hK => ?_); clear hsz; go_simp; refine hK _ _ (SoftR.of hle (Below.refl _ _) ?_); exact rfl)
              | 4, _ =>
                have d3 := slotR (hdep 3 (by omega) (by kernel_rfl) (fun q _ => by unfold kill12; cases q == 5 <;> rfl)) (show _ < _ by rw [hsz]; omega)
                refine wpOp_step rfl (fun K' hK => ?_)
                clear hsz
                go_simp
                exact hK _ _ (SoftR.of hle ((Below.refl _ _).alloc (Nat.le_refl _) _) ⟨wx.heap.size, rfl, Reads.one _ _⟩)
              | 5, _ =>
                have d2 : OwnI wx w24.heap.size (a.tmps.getD 69 undef) l := hdep 2 (by omega) (by kernel_rfl) (fun q hq => by simp [kill12, hq])
                obtain ⟨g4, d4, hr4⟩ := hdep 4 (by omega) (by kernel_rfl) (fun q hq => by simp [kill12, hq])
                have d4 : a.tmps.getD 71 undef = .slice (some ⟨g4, 0, none⟩) 1 1 := d4
                refine wpOp_step rfl (fun K' hK => ?_)
                refine step_app wx (o := ⟨some 72, _, _, _, _, _⟩) (ys := [t]) rfl _ _ rfl rfl d2 1 1 rfl d4 hr4 (by rw [List.length_singleton]; omega) hle ?_
                intro v' w' ho hb hg ht
                exact hK _ _ ⟨hb, (fun h => by cases h), v', .inl rfl, ho⟩
              | 6, _ => (refine wpOp_step rfl (fun K' hK => ?_); clear hsz; go_simp; refine hK _ _ (SoftR.of hle (Below.refl _ _) ?_); exact rfl)
              | 7, _ => (refine wpOp_step rfl (fun K' hK => ?_); clear hsz; go_simp; refine hK _ _ (SoftR.of hle (Below.refl _ _) ?_); exact rfl)
              | 8, _ =>
                have d7 := slotR (hdep 7 (by omega) (by kernel_rfl) (fun q _ => by unfold kill12; cases q == 5 <;> rfl)) (show _ < _ by rw [hsz]; omega)
                refine wpOp_step rfl (fun K' hK => ?_)
                clear hsz
                go_simp
                refine (unUnit_any _ _).mono ?_; rintro e w21 ⟨rfl, hb21⟩
                exact hK _ _ (SoftR.of hle hb21 rfl)
              | 9, _ =>
                have d6 := slotR (hdep 6 (by omega) (by kernel_rfl) (fun q _ => by unfold kill12; cases q == 5 <;> rfl)) (show _ < _ by rw [hsz]; omega)
                have d8 := slotR (hdep 8 (by omega) (by kernel_rfl) (fun q _ => by unfold kill12; cases q == 5 <;> rfl)) (show _ < _ by rw [hsz]; omega)
                refine wpOp_step rfl (fun K' hK => ?_)
                clear hsz
                go_simp
                refine (HMU.out _).mono ?_; rintro e w21 ⟨rfl, hb21⟩
                exact hK _ _ (SoftR.of hle hb21 rfl)
              | 10, _ => (refine wpOp_step rfl (fun K' hK => ?_); clear hsz; go_simp; refine hK _ _ (SoftR.of hle (Below.refl _ _) ?_); exact rfl)
              | 11, _ => have d10 := slotR (hdep 10 (by omega) (by kernel_rfl) (fun q _ => by unfold kill12; cases q == 5 <;> rfl)) (show _ < _ by rw [hsz]; omega); (refine wpOp_step rfl (fun K' hK => ?_); clear hsz; go_simp; refine hK _ _ (SoftR.of hle (Below.refl _ _) ?_); exact rfl)
              | 12, _ => (refine wpOp_step rfl (fun K' hK => ?_); clear hsz; go_simp; refine hK _ _ (SoftR.of hle (Below.refl _ _) ?_); exact rfl)
              | 13, _ => (refine wpOp_step rfl (fun K' hK => ?_); clear hsz; go_simp; refine hK _ _ (SoftR.of hle (Below.refl _ _) ?_); exact rfl)
              | 14, _ =>
                have d0 := slotR (hdep 0 (by omega) (by kernel_rfl) (fun q _ => by unfold kill12; cases q == 5 <;> rfl)) (show _ < _ by rw [hsz]; omega)
                have d9 := slotR (hdep 9 (by omega) (by kernel_rfl) (fun q _ => by unfold kill12; cases q == 5 <;> rfl)) (show _ < _ by rw [hsz]; omega)
                have d11 := slotR (hdep 11 (by omega) (by kernel_rfl) (fun q _ => by unfold kill12; cases q == 5 <;> rfl)) (show _ < _ by rw [hsz]; omega)
                have d12 := slotR (hdep 12 (by omega) (by kernel_rfl) (fun q _ => by unfold kill12; cases q == 5 <;> rfl)) (show _ < _ by rw [hsz]; omega)
                have d13 := slotR (hdep 13 (by omega) (by kernel_rfl) (fun q _ => by unfold kill12; cases q == 5 <;> rfl)) (show _ < _ by rw [hsz]; omega)
                have o5 : OwnI wx w24.heap.size (a.tmps.getD 72 undef) (l ++ [t]) := hdep 5 (by omega) (by kernel_rfl) (fun q _ => by unfold kill12; cases q == 5 <;> rfl)
                obtain ⟨A5, c5', e5, hr5⟩ := o5.form
                obtain ⟨n5, hn5⟩ : ∃ n, n = (l ++ [t]).length := ⟨_, rfl⟩
                rw [← hn5] at e5
                have d5 := slotR e5 (show _ < _ by rw [hsz]; omega)
                have HN5 := Lib.hid hn5
                clear o5 e5 hn5
                refine wpOp_step rfl (fun K' hK => ?_)
                clear hsz
                go_simp
                refine (HREC.out _ A5 c5' n5 HN5.out hbx hr5).mono ?_; rintro e w21 ⟨A6, c6, rfl, hr6, hb21, hcl6⟩
                exact hK _ _ (SoftR.of hle hb21 ⟨A6, c6, rfl, hr6, hcl6⟩)
              | n + 15, h => exact absurd h (by omega)
            · obtain ⟨A', c', e81, hrs, hcs⟩ := hall 14 (by omega) (fun i => by unfold kill12; cases h : i == 5 <;> rfl)
              have e81 : a.tmps.getD 81 undef = .agg #[.slice A' s.1.length c', .int .i64 s.2.1, .int .i64 s.2.2] := e81
              have Q6 := B6.out.below hbx
              have Q8 := B8.out.below hbx
              have Q12 := B12.out.below hbx
              have hzx := hbx.size
              have hbwx : Below w.heap.size w wx := hbw24.trans (hbx.mono hbw24.size)
              have PB := BAt.put Q6 (.slice A' s.1.length c') s.2.1 s.2.2
              have P8 := TwoAt.off (p := ⟨w.heap.size, 2, none⟩) (TwoAt.off (p := ⟨w.heap.size, 1, none⟩) (TwoAt.off (p := ⟨w.heap.size, 0, none⟩) Q8 (by show w.heap.size ≠ _; omega) (.slice A' s.1.length c')) (by show w.heap.size ≠ _; omega) (.int .i64 s.2.1)) (by show w.heap.size ≠ _; omega) (.int .i64 s.2.2)
              have P12 := BAt.off (p := ⟨w.heap.size, 2, none⟩) (BAt.off (p := ⟨w.heap.size, 1, none⟩) (BAt.off (p := ⟨w.heap.size, 0, none⟩) Q12 (by show w.heap.size ≠ _; omega) (.slice A' s.1.length c')) (by show w.heap.size ≠ _; omega) (.int .i64 s.2.1)) (by show w.heap.size ≠ _; omega) (.int .i64 s.2.2)
              have PR : Reads (((wx.setCell ⟨w.heap.size, 0, none⟩ (.slice A' s.1.length c')).setCell ⟨w.heap.size, 1, none⟩ (.int .i64 s.2.1)).setCell ⟨w.heap.size, 2, none⟩ (.int .i64 s.2.2)) A' s.1 := by
                refine Reads.offB (g := w.heap.size) (Reads.offB (g := w.heap.size) (Reads.offB (g := w.heap.size) hrs ?_ rfl _) ?_ rfl _) ?_ rfl _ <;>
                  exact hcs.imp id (fun h a ha e => h a ha (.inr (by omega)))
              have PW : Below w.heap.size w (((wx.setCell ⟨w.heap.size, 0, none⟩ (.slice A' s.1.length c')).setCell ⟨w.heap.size, 1, none⟩ (.int .i64 s.2.1)).setCell ⟨w.heap.size, 2, none⟩ (.int .i64 s.2.2)) := by (repeat' (first | (with_reducible exact Below.refl _ _) | (with_reducible assumption) | (with_reducible refine Below.drew ?_) | (with_reducible refine belowDrewN ?_ _) | (with_reducible refine Below.alloc ?_ ?_ _) | (with_reducible refine Below.setCell ?_ ?_ _) | (with_reducible refine belowStep (by assumption) ?_ ?_) | (with_reducible exact Below.size (by assumption)) | go_size))
              have Pall := Lib.hid (And.intro PB (And.intro P8 (And.intro P12 (And.intro PR PW))))
              obtain ⟨q1, q2, q3, q4, q5, q6, q7⟩ := Q6
              clear PB P8 P12 PR PW Q8 Q12 hrs
              rw [hfr.form (by show 82 ≤ 87; omega)]
              rw [show (List.range 15).map (fun i => a.tmps.getD (67 + i) undef) = [a.tmps.getD 67 undef, a.tmps.getD 68 undef, a.tmps.getD 69 undef, a.tmps.getD 70 undef, a.tmps.getD 71 undef, a.tmps.getD 72 undef, a.tmps.getD 73 undef, a.tmps.getD 74 undef, a.tmps.getD 75 undef, a.tmps.getD 76 undef, a.tmps.getD 77 undef, a.tmps.getD 78 undef, a.tmps.getD 79 undef, a.tmps.getD 80 undef, a.tmps.getD 81 undef] from rfl]
              simp only [setsFrom]
              generalize a.tmps.getD 67 undef = v67
              generalize a.tmps.getD 68 undef = v68
              generalize a.tmps.getD 69 undef = v69
              generalize a.tmps.getD 70 undef = v70
              generalize a.tmps.getD 71 undef = v71
              generalize a.tmps.getD 72 undef = v72
              generalize a.tmps.getD 73 undef = v73
              generalize a.tmps.getD 74 undef = v74
              generalize a.tmps.getD 75 undef = v75
              generalize a.tmps.getD 76 undef = v76
              generalize a.tmps.getD 77 undef = v77
              generalize a.tmps.getD 78 undef = v78
              generalize a.tmps.getD 79 undef = v79
              generalize a.tmps.getD 80 undef = v80
              rw [e81]
              simp only [List.setIfInBounds_toArray, List.set_cons_succ, List.set_cons_zero]
              refine wpOp_step rfl (fun K' hK => ?_)
              go_simp
              refine hK _ _ ?_
              go_wp2_with fail
              go_meet
              exact ⟨A', c', Pall.out.1, Pall.out.2.2.2.1, hcs, Pall.out.2.1, Pall.out.2.2.1, Pall.out.2.2.2.2, by (first | (go_size; done) | ((try simp only [World.size_alloc, World.size_setCell, World.size_drew, World.heap_drewN]); omega))⟩
          case rest =>
            obtain ⟨A', c', hB6, hrs, hcs, hB8, hB12, hbc, hzc⟩ := hcut
            obtain ⟨w25, rfl⟩ : ∃ w25 : World, w25 = wc := ⟨_, rfl⟩
            clear HREC HCD HMU HO B6 B8 B12 HrA Hrl Hcl
            by_cases hk0 : k = 0
            · have hr := hs0 hk0
              subst hr
              have hk1' : (k : Int) + 1 = 1 := by omega
              have hk1b : ((k : Int) + 1 == 1) = true := by simp; omega
              obtain ⟨b1, b2, b3, b4, b5, b6, b7⟩ := hB6
              obtain ⟨e1, e2, e3, e4, e5, e6, e7⟩ := hB12
              go_wp2
              have PB := BAt.put (w := w25) ⟨e1, e2, e3, e4, e5, e6, e7⟩ (.slice A' r.1.length c') r.2.1 r.2.2
              have PR : Reads (((w25.setCell ⟨w.heap.size + 1 + 1, 0, none⟩ (.slice A' r.1.length c')).setCell ⟨w.heap.size + 1 + 1, 1, none⟩ (.int .i64 r.2.1)).setCell ⟨w.heap.size + 1 + 1, 2, none⟩ (.int .i64 r.2.2)) A' r.1 := by
                refine Reads.offB (g := w.heap.size + 1 + 1) (Reads.offB (g := w.heap.size + 1 + 1) (Reads.offB (g := w.heap.size + 1 + 1) hrs ?_ rfl _) ?_ rfl _) ?_ rfl _ <;>
                  exact hcs.imp id (fun h a ha e => h a ha (.inr (by omega)))
              have PW : Below w.heap.size w (((w25.setCell ⟨w.heap.size + 1 + 1, 0, none⟩ (.slice A' r.1.length c')).setCell ⟨w.heap.size + 1 + 1, 1, none⟩ (.int .i64 r.2.1)).setCell ⟨w.heap.size + 1 + 1, 2, none⟩ (.int .i64 r.2.2)) := by (repeat' (first | (with_reducible exact Below.refl _ _) | (with_reducible assumption) | (with_reducible refine Below.drew ?_) | (with_reducible refine belowDrewN ?_ _) | (with_reducible refine Below.alloc ?_ ?_ _) | (with_reducible refine Below.setCell ?_ ?_ _) | (with_reducible refine belowStep (by assumption) ?_ ?_) | (with_reducible exact Below.size (by assumption)) | go_size))
              generalize ((w25.setCell ⟨w.heap.size + 1 + 1, 0, none⟩ (.slice A' r.1.length c')).setCell ⟨w.heap.size + 1 + 1, 1, none⟩ (.int .i64 r.2.1)).setCell ⟨w.heap.size + 1 + 1, 2, none⟩ (.int .i64 r.2.2) = W at PB PR PW ⊢
              clear e1 e2 e3 e4 e5 e6 e7 b1 b2 b3 b4 b5 b6 b7
              obtain ⟨q1, q2, q3, _, _, _, _⟩ := PB
              refine bodyPost_ret (by simp [results, Try.results185, go_sem, q1, q2, q3]; try rfl) rfl ?_
              exact ⟨A', c', rfl, PR, PW, hcs.imp id (fun h a ha e => h a ha (.inl e))⟩
            · have hr := hsS hk0
              have hk1' : ¬ (k : Int) + 1 = 1 := by omega
              have hk1b : ((k : Int) + 1 == 1) = false := by simp; omega
              have HN : Hid (NR bad k b l g1 g2 r w Al f' (.int .i64 (t + 1)) w25) := Lib.hid ⟨s, A', s.1.length, c', t + 1, rfl, hr, rfl, hsg, hB6, hrs, hcs, Hrl0.out.below hbc, hB8, hB12, hbc, by omega⟩
              clear hB6 hrs hcs hB8 hB12
              go_wp2
              go_roundg f'
              case rel => exact ⟨HN.out, by omega⟩
              case measure => omega
end Go.Proofs.Ytleookfdngnphaa
