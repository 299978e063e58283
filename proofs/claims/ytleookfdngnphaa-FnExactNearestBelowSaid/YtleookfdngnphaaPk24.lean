import Derived.Test.YtleookfdngnphaaPk21
import Derived.Test.YtleookfdngnphaaPk10
import Derived.Test.YtleookfdngnphaaPk23
import Derived.Test.YtleookfdngnphaaPk22

/-
  Contracts of the closures that a search for nearest sums is made of.
-/
namespace Go.Proofs.Ytleookfdngnphaa
open Go.RowKit
set_option maxHeartbeats 1000000 in
theorem compareWith_any (p q t n d : Int) (more : Nat) (w : World) (hm : more ≤ 4) (hp : goodB p q = true) (ha : goodB n d = true) (ht : 1 ≤ t) (ht2 : t ≤ 1000000) (hx : (p * t + (more : Int) * q) * d ≤ 1000000000000000000) (hy : n * q * t ≤ 1000000000000000000) :
    Calls Try.prog 164 #[.agg #[.int .i64 p, .int .i64 q], .int .i64 (more : Int), .int .i64 t, .agg #[.int .i64 n, .int .i64 d]] w (Ret (.int .i64 (cmpI ((p * t + (more : Int) * q) * d) (n * q * t))) w) := by
  obtain ⟨p1, p2, q1, q2⟩ := good_bounds hp
  obtain ⟨n1, n2, d1, d2⟩ := good_bounds ha
  have a1 := mul_bounds p1 p2 (by omega : 0 ≤ t) (by omega)
  have a2 : 0 ≤ (more : Int) * q := Int.mul_nonneg (by omega) (by omega)
  have a3 : (more : Int) * q ≤ 4 * q := Int.mul_le_mul_of_nonneg_right (by omega) (by omega)
  have a4 := mul_bounds n1 n2 (by omega : 0 ≤ q) q2
  have a5 : 0 ≤ (p * t + (more : Int) * q) * d := Int.mul_nonneg (by omega) (by omega)
  have a6 : 0 ≤ n * q * t := Int.mul_nonneg a4.1 (by omega)
  have o1 : IntKind.i64.wrap (p * t) = p * t := IntWalk.i64_in _ (by omega)
  have o2 : IntKind.i64.wrap ((more : Int) * q) = (more : Int) * q := IntWalk.i64_in _ (by omega)
  have o3 : IntKind.i64.wrap (p * t + (more : Int) * q) = p * t + (more : Int) * q := IntWalk.i64_in _ (by omega)
  have o4 : IntKind.i64.wrap ((p * t + (more : Int) * q) * d) = (p * t + (more : Int) * q) * d := IntWalk.i64_in _ (by omega)
  have o5 : IntKind.i64.wrap (n * q) = n * q := IntWalk.i64_in _ (by omega)
  have o6 : IntKind.i64.wrap (n * q * t) = n * q * t := IntWalk.i64_in _ (by omega)
  have hlt : w.heap.size < w.heap.size + 1 + 1 := by omega
  have hne : w.heap.size ≠ w.heap.size + 1 := by omega
  clear a1 a2 a3 a4 a5 a6 hx hy
  go_enter Try.func164, Try.ntmps164
  go_wp2_with (go_at_call 147; refine (compare_any _ _ _).mono ?_; rintro e w1 ⟨rfl, k1, rfl⟩)
  go_returns
  exact ⟨rfl, by (repeat' (first | (with_reducible exact Below.refl _ _) | (with_reducible assumption) | (with_reducible refine Below.drew ?_) | (with_reducible refine belowDrewN ?_ _) | (with_reducible refine Below.alloc ?_ ?_ _) | (with_reducible refine Below.setCell ?_ ?_ _) | (with_reducible refine belowStep (by assumption) ?_ ?_) | (with_reducible exact Below.size (by assumption)) | go_size))⟩
/-- what the closures of a search for nearest sums have captured: the fraction, how far apart, the best list and its sum -/
structure NbI (n d b : Int) (ga gb g8 g9 B : Nat) (s : Best) (gl gs : Nat) (w : World) : Prop where
  a : TwoAt w ga n d
  by_ : w.cell? ⟨gb, 0, none⟩ = some (.int .i64 b) ∧ gb < w.heap.size
  best : ∃ v, w.cell? ⟨g8, 0, none⟩ = some v ∧ w.frozen? ⟨g8, 0, none⟩ = false ∧ g8 < w.heap.size ∧ OwnI w B v s.1 ∧ v.ownBlock ≠ some gl ∧ v.ownBlock ≠ some gs ∧ (s.1 = [] → v = .slice none 0 0)
  sum : TwoAt w g9 s.2.1 s.2.2
  low : B ≤ gl ∧ B ≤ gs
  sz : B ≤ w.heap.size
theorem NbI.step {n d b : Int} {ga gb g8 g9 B gl gl' gs : Nat} {s : Best} {w w' : World} (hB : ga < B ∧ gb < B ∧ g8 < B ∧ g9 < B) (h : NbI n d b ga gb g8 g9 B s gl gs w) (hz : w.heap.size ≤ w'.heap.size) (hb : ∀ k, k < w.heap.size → k ≠ gl → k ≠ gs → w'.heap[k]? = w.heap[k]?) (hgl : gl' = gl ∨ w.heap.size ≤ gl') : NbI n d b ga gb g8 g9 B s gl' gs w' := by
  obtain ⟨v, h1, h2, h3, h4, h5, h6, h7⟩ := h.best
  obtain ⟨l1, l2⟩ := h.low
  have hBs := h.sz
  have e : ∀ k, k < B → k < w.heap.size → w'.heap[k]? = w.heap[k]? := fun k hk hk2 => hb k hk2 (by omega) (by omega)
  have two : ∀ g x y, g < B → TwoAt w g x y → TwoAt w' g x y := fun g x y hg hq => by
    have eb := e g hg hq.2.2.2.2
    exact ⟨(World.cell?_of_block (a := ⟨g, 0, none⟩) eb).trans hq.1, (World.cell?_of_block (a := ⟨g, 1, none⟩) eb).trans hq.2.1, (World.frozen?_of_block (a := ⟨g, 0, none⟩) eb).trans hq.2.2.1, (World.frozen?_of_block (a := ⟨g, 1, none⟩) eb).trans hq.2.2.2.1, Nat.lt_of_lt_of_le hq.2.2.2.2 hz⟩
  refine ⟨two _ _ _ hB.1 h.a, ⟨(World.cell?_of_block (a := ⟨gb, 0, none⟩) (e gb hB.2.1 h.by_.2)).trans h.by_.1, Nat.lt_of_lt_of_le h.by_.2 hz⟩, ⟨v, (World.cell?_of_block (a := ⟨g8, 0, none⟩) (e g8 hB.2.2.1 h3)).trans h1, (World.frozen?_of_block (a := ⟨g8, 0, none⟩) (e g8 hB.2.2.1 h3)).trans h2, Nat.lt_of_lt_of_le h3 hz, ?_, ?_, h6, h7⟩, two _ _ _ hB.2.2.2 h.sum, ⟨by rcases hgl with e | e <;> omega, l2⟩, Nat.le_trans hBs hz⟩
  · refine ⟨h4.1, ?_⟩
    rcases h4.2 with h0 | ⟨g, cap, cur, hv, hbg, hg, r⟩
    · exact .inl h0
    · have hgb := (h4.block g (by rw [hv]; rfl)).2
      refine .inr ⟨g, cap, cur, hv, hbg, ?_, r⟩
      rw [hb g hgb (fun e => h5 (by rw [hv, e]; rfl)) (fun e => h6 (by rw [hv, e]; rfl))]
      exact hg
  · rcases hgl with rfl | hgl
    · exact h5
    · intro e2
      have := (h4.block gl' e2).2
      omega
/-- what is left of the fraction -/
theorem nb_left {n d p q : Int} (ha : goodB n d = true) (hp : goodB p q = true) (h : p * d < n * q) (hr : redB (n * q - p * d) (d * q) = true) :
    1 ≤ redN (n * q - p * d) (d * q) ∧ redN (n * q - p * d) (d * q) ≤ 1000000000 ∧ 1 ≤ redD (n * q - p * d) (d * q) ∧ redD (n * q - p * d) (d * q) ≤ 1000000000 := by
  obtain ⟨n1, n2, d1, d2⟩ := good_bounds ha
  obtain ⟨p1, p2, q1, q2⟩ := good_bounds hp
  have hdq := mul_pos1 d1 q1
  have hg := good_bounds (good_of_redB (by omega) hdq hr)
  refine ⟨?_, hg.2.1, hg.2.2.1, hg.2.2.2⟩
  rw [redN, if_pos hr]
  have hgp := gcdI_pos (n * q - p * d) (d * q) (by omega)
  exact div_pos1 (by omega) (by omega) (gcdI_dvdL _ _)
set_option maxHeartbeats 1000000 in
theorem nb1_any (n d b : Int) (ga gb g8 g9 B : Nat) (s : Best) (gl gs : Nat) (last p q : Int) (more : Nat) (w : World) (h : NbI n d b ga gb g8 g9 B s gl gs w) (ha : goodB n d = true) (hp : goodB p q = true) (hc : p * d < n * q) (hr : redB (n * q - p * d) (d * q) = true) (l0 : 0 ≤ last) (l1 : last ≤ 1000000) (b0 : 0 ≤ b) (b1 : b ≤ 1) :
    Calls Try.prog 186 (#[.int .i64 last, .agg #[.int .i64 p, .int .i64 q], .int .i64 (more : Int)] ++ #[.pointer (some ⟨ga, 0, none⟩), .pointer (some ⟨gb, 0, none⟩)]) w (Ret (.int .i64 (max (last + b) (redD (n * q - p * d) (d * q) / redN (n * q - p * d) (d * q) + 1))) w) := by
  rw [show (#[.int .i64 last, .agg #[.int .i64 p, .int .i64 q], .int .i64 (more : Int)] ++ #[.pointer (some ⟨ga, 0, none⟩), .pointer (some ⟨gb, 0, none⟩)] : Array Value) = #[.int .i64 last, .agg #[.int .i64 p, .int .i64 q], .int .i64 (more : Int), .pointer (some ⟨ga, 0, none⟩), .pointer (some ⟨gb, 0, none⟩)] from rfl]
  obtain ⟨u1, u2, u3, u4⟩ := nb_left ha hp hc hr
  have HS := Lib.hid fun (w : World) => sub_yes n d p q w ha hp (by omega)
  rw [hr] at HS
  obtain ⟨c1, c2, f1, f2, z1⟩ := h.a
  obtain ⟨c3, z2⟩ := h.by_
  generalize redN (n * q - p * d) (d * q) = r1 at *
  generalize redD (n * q - p * d) (d * q) = r2 at *
  have HL := Lib.hid fun (w : World) => leastBelow_any r1 r2 w u1 u2 u3 u4
  have qq := (div_in u1 (by omega : 0 ≤ r2)).2
  generalize r2 / r1 = r3 at *
  have o1 : IntKind.i64.wrap (last + b) = last + b := IntWalk.i64_in _ (by omega)
  have Hmx : Hid ((if last + b < r3 + 1 then r3 + 1 else last + b) = max (last + b) (r3 + 1)) := Lib.hid (by split <;> omega)
  have z3 : ga < w.heap.size + 1 := by omega
  have z4 : gb < w.heap.size + 1 := by omega
  have n1 : ga ≠ w.heap.size := by omega
  have n2 : gb ≠ w.heap.size := by omega
  clear h ha hp hc hr u1 u2 u3 u4 qq
  go_enter Try.func186, Try.ntmps186
  go_wp2_with (go_at_call 60; refine (HS.out _).mono ?_; rintro e w1 ⟨rfl, hb1⟩; obtain ⟨hc1, hf1⟩ := bcellB hb1; have hz1 := hb1.size; (try simp only [World.size_alloc] at hc1 hf1 hz1); (have z5 : ga < w1.heap.size := by omega); (have z6 : gb < w1.heap.size := by omega))
  have z7 : gb < w1.heap.size + 1 := by omega
  have n3 : gb ≠ w1.heap.size := by omega
  go_region_with (go_at_call 146; refine (HL.out _).mono ?_; rintro e w2 ⟨rfl, hb2⟩; obtain ⟨hc2, hf2⟩ := bcellB hb2; have hz2 := hb2.size; (try simp only [World.size_alloc, World.size_drew] at hc2 hf2 hz2); (have z8 : gb < w2.heap.size := by omega))
  all_goals go_wp2
  all_goals go_ret
  all_goals exact ⟨ret_int (by omega), by (repeat' (first | (with_reducible exact Below.refl _ _) | (with_reducible assumption) | (with_reducible refine Below.drew ?_) | (with_reducible refine belowDrewN ?_ _) | (with_reducible refine Below.alloc ?_ ?_ _) | (with_reducible refine Below.setCell ?_ ?_ _) | (with_reducible refine belowStep (by assumption) ?_ ?_) | (with_reducible exact Below.size (by assumption)) | go_size))⟩
set_option maxHeartbeats 1000000 in
theorem nb2_any (n d b : Int) (ga gb g8 g9 B : Nat) (s : Best) (gl gs : Nat) (t p q : Int) (more : Nat) (w : World) (h : NbI n d b ga gb g8 g9 B s gl gs w) (hm : more ≤ 4) (hp : goodB p q = true) (ha : goodB s.2.1 s.2.2 = true) (ht : 1 ≤ t) (ht2 : t ≤ 1000000) (hx : (p * t + (more : Int) * q) * s.2.2 ≤ 1000000000000000000) (hy : s.2.1 * q * t ≤ 1000000000000000000) :
    Calls Try.prog 187 (#[.int .i64 t, .agg #[.int .i64 p, .int .i64 q], .int .i64 (more : Int)] ++ #[.pointer (some ⟨g9, 0, none⟩)]) w (Ret (.bool (decide (s.2.1 * q * t < (p * t + (more : Int) * q) * s.2.2))) w) := by
  rw [show (#[.int .i64 t, .agg #[.int .i64 p, .int .i64 q], .int .i64 (more : Int)] ++ #[.pointer (some ⟨g9, 0, none⟩)] : Array Value) = #[.int .i64 t, .agg #[.int .i64 p, .int .i64 q], .int .i64 (more : Int), .pointer (some ⟨g9, 0, none⟩)] from rfl]
  obtain ⟨c1, c2, f1, f2, z1⟩ := h.sum
  have HC := Lib.hid fun (w : World) => compareWith_any p q t s.2.1 s.2.2 more w hm hp ha ht ht2 hx hy
  generalize s.2.1 = g at *
  generalize s.2.2 = e at *
  have E := Lib.hid (show decide (0 < cmpI ((p * t + (more : Int) * q) * e) (g * q * t)) = decide (g * q * t < (p * t + (more : Int) * q) * e) by unfold cmpI; split <;> (try split) <;> simp <;> omega)
  generalize (p * t + (more : Int) * q) * e = x at *
  generalize g * q * t = y at *
  have z3 : g9 < w.heap.size + 1 := by omega
  have n1 : g9 ≠ w.heap.size := by omega
  clear h hp ha ht ht2 hx hy
  go_enter Try.func187, Try.ntmps187
  go_wp2_with (go_at_call 164; refine (HC.out _).mono ?_; rintro e w1 ⟨rfl, hb1⟩)
  go_ret
  exact ⟨ret_bool (by first | exact E.out | (simp; exact E.out)), by (repeat' (first | (with_reducible exact Below.refl _ _) | (with_reducible assumption) | (with_reducible refine Below.drew ?_) | (with_reducible refine belowDrewN ?_ _) | (with_reducible refine Below.alloc ?_ ?_ _) | (with_reducible refine Below.setCell ?_ ?_ _) | (with_reducible refine belowStep (by assumption) ?_ ?_) | (with_reducible exact Below.size (by assumption)) | go_size))⟩
set_option maxHeartbeats 1000000 in
theorem nb3_any (n d b : Int) (ga gb g8 g9 B B0 : Nat) (s : Best) (gl gs : Nat) (xs : List Int) (p q : Int) (v : Value) (w : World) (h : NbI n d b ga gb g8 g9 B s gl gs w) (hB : ga < B ∧ gb < B ∧ g8 < B ∧ g9 < B) (hne : g8 ≠ g9 ∧ ga ≠ g8 ∧ ga ≠ g9 ∧ gb ≠ g8 ∧ gb ≠ g9) (hB0 : B0 ≤ g8 ∧ B0 ≤ g9) (hBw : B ≤ w.heap.size) (hx : xs ≠ []) (ho : OwnI w B v xs) (h1 : v.ownBlock ≠ some gl) (h2 : v.ownBlock ≠ some gs) :
    Calls Try.prog 188 (#[v, .agg #[.int .i64 p, .int .i64 q]] ++ #[.pointer (some ⟨g8, 0, none⟩), .pointer (some ⟨g9, 0, none⟩)]) w (fun e w2 => e = .returned (.tuple #[]) ∧ NbI n d b ga gb g8 g9 B (xs, p, q) gl gs w2 ∧ Below B0 w w2 ∧ ∀ k, B ≤ k → k < w.heap.size → w2.heap[k]? = w.heap[k]?) := by
  rw [show (#[v, .agg #[.int .i64 p, .int .i64 q]] ++ #[.pointer (some ⟨g8, 0, none⟩), .pointer (some ⟨g9, 0, none⟩)] : Array Value) = #[v, .agg #[.int .i64 p, .int .i64 q], .pointer (some ⟨g8, 0, none⟩), .pointer (some ⟨g9, 0, none⟩)] from rfl]
  obtain ⟨v0, b1, b2, b3, b4, b5, b6⟩ := h.best
  obtain ⟨c1, c2, f1, f2, z1⟩ := h.sum
  obtain ⟨hB1, hB2, hB3, hB4⟩ := hB
  obtain ⟨hn1, hn2, hn3, hn4, hn5⟩ := hne
  obtain ⟨hB5, hB6⟩ := hB0
  have T0 := Lib.hid (TwoAt.new w p q 38)
  have H := Lib.hid h
  obtain ⟨Av, cv, rfl, -⟩ := ho.form
  have Ho := Lib.hid ho
  have H1 := Lib.hid h1
  have H2 := Lib.hid h2
  have n3 : g8 ≠ w.heap.size := by omega
  have n4 : g9 ≠ w.heap.size := by omega
  have n5 : w.heap.size ≠ g8 := by omega
  have n6 : w.heap.size ≠ g9 := by omega
  have n7 : g9 ≠ g8 := fun e => hn1 e.symm
  have z3 : g8 < w.heap.size + 1 := by omega
  have z4 : g9 < w.heap.size + 1 := by omega
  clear h ho h1 h2
  go_enter Try.func188, Try.ntmps188
  go_wp2
  go_region
  all_goals go_wp2
  all_goals go_end0
  all_goals
    have hblk : ∀ k, k < w.heap.size → k ≠ g8 → k ≠ g9 → ((((w.setCell ⟨g8, 0, none⟩ (.slice Av xs.length cv)).setCell ⟨g9, 0, none⟩ (.int .i64 p)).setCell ⟨g9, 1, none⟩ (.int .i64 q)).alloc (.cells #[.int .i64 p, .int .i64 q] 38)).drew.heap[k]? = w.heap[k]? := fun k hk k8 k9 => by
      have e1 := (grownSet (World.grownBy.refl w (some g8)) (a := w) (w := w) rfl 0 (Value.slice Av xs.length cv)).block k hk (by simpa using k8)
      have e2 := (grownSet (World.grownBy.refl (w.setCell ⟨g8, 0, none⟩ (.slice Av xs.length cv)) (some g9)) rfl 0 (.int .i64 p)).block k (by simpa using hk) (by simpa using k9)
      have e3 := (grownSet (World.grownBy.refl ((w.setCell ⟨g8, 0, none⟩ (.slice Av xs.length cv)).setCell ⟨g9, 0, none⟩ (.int .i64 p)) (some g9)) rfl 1 (.int .i64 q)).block k (by simpa using hk) (by simpa using k9)
      have e4 := (show Below (((w.setCell ⟨g8, 0, none⟩ (.slice Av xs.length cv)).setCell ⟨g9, 0, none⟩ (.int .i64 p)).setCell ⟨g9, 1, none⟩ (.int .i64 q)).heap.size (((w.setCell ⟨g8, 0, none⟩ (.slice Av xs.length cv)).setCell ⟨g9, 0, none⟩ (.int .i64 p)).setCell ⟨g9, 1, none⟩ (.int .i64 q)) _ from by (repeat' (first | (with_reducible exact Below.refl _ _) | (with_reducible assumption) | (with_reducible refine Below.drew ?_) | (with_reducible refine belowDrewN ?_ _) | (with_reducible refine Below.alloc ?_ ?_ _) | (with_reducible refine Below.setCell ?_ ?_ _) | (with_reducible refine belowStep (by assumption) ?_ ?_) | (with_reducible exact Below.size (by assumption)) | go_size)) : Below _ _ ((((w.setCell ⟨g8, 0, none⟩ (.slice Av xs.length cv)).setCell ⟨g9, 0, none⟩ (.int .i64 p)).setCell ⟨g9, 1, none⟩ (.int .i64 q)).alloc (.cells #[.int .i64 p, .int .i64 q] 38)).drew).block k (by simpa using hk)
      exact e4.trans (e3.trans (e2.trans e1))
    have two : ∀ g x y, g ≠ g8 → g ≠ g9 → TwoAt w g x y → TwoAt ((((w.setCell ⟨g8, 0, none⟩ (.slice Av xs.length cv)).setCell ⟨g9, 0, none⟩ (.int .i64 p)).setCell ⟨g9, 1, none⟩ (.int .i64 q)).alloc (.cells #[.int .i64 p, .int .i64 q] 38)).drew g x y := fun g x y h8 h9 hq => by
      have eb := hblk g hq.2.2.2.2 h8 h9
      exact ⟨(World.cell?_of_block (a := ⟨g, 0, none⟩) eb).trans hq.1, (World.cell?_of_block (a := ⟨g, 1, none⟩) eb).trans hq.2.1, (World.frozen?_of_block (a := ⟨g, 0, none⟩) eb).trans hq.2.2.1, (World.frozen?_of_block (a := ⟨g, 1, none⟩) eb).trans hq.2.2.2.1, Nat.lt_of_lt_of_le hq.2.2.2.2 (by simp)⟩
    refine ⟨rfl, ⟨two _ _ _ hn2 hn3 H.out.a, ⟨(World.cell?_of_block (a := ⟨gb, 0, none⟩) (hblk gb H.out.by_.2 hn4 hn5)).trans H.out.by_.1, Nat.lt_of_lt_of_le H.out.by_.2 (by simp)⟩, ⟨.slice Av xs.length cv, ?_, ?_, ?_, ?_, H1.out, H2.out, fun e => absurd e hx⟩, ?_, H.out.low, by (first | (go_size; done) | ((try simp only [World.size_alloc, World.size_setCell, World.size_drew, World.heap_drewN]); omega))⟩, ?_, fun k hk hk2 => hblk k hk2 (by omega) (by omega)⟩
    · (first | (simp [*]; done) | (simp [go_sem, *]; done))
    · (first | (simp [*]; done) | (simp [go_sem, *]; done))
    · (first | (go_size; done) | ((try simp only [World.size_alloc, World.size_setCell, World.size_drew, World.heap_drewN]); omega))
    · have g8n : (Value.slice Av xs.length cv).ownBlock ≠ some g8 := fun e => by have := (Ho.out.block _ e).1; omega
      have g9n : (Value.slice Av xs.length cv).ownBlock ≠ some g9 := fun e => by have := (Ho.out.block _ e).1; omega
      exact (((Ho.out.setO g8 0 _ g8n).setO g9 0 _ g9n).setO g9 1 _ g9n).below (by (repeat' (first | (with_reducible exact Below.refl _ _) | (with_reducible assumption) | (with_reducible refine Below.drew ?_) | (with_reducible refine belowDrewN ?_ _) | (with_reducible refine Below.alloc ?_ ?_ _) | (with_reducible refine Below.setCell ?_ ?_ _) | (with_reducible refine belowStep (by assumption) ?_ ?_) | (with_reducible exact Below.size (by assumption)) | go_size)))
    · (refine ⟨?_, ?_, ?_, ?_, ?_⟩ <;> first | (first | (simp [*]; done) | (simp [go_sem, *]; done)) | (first | (go_size; done) | ((try simp only [World.size_alloc, World.size_setCell, World.size_drew, World.heap_drewN]); omega)))
    · have bb1 : Below B0 w (w.setCell ⟨g8, 0, none⟩ (.slice Av xs.length cv)) := (Below.refl B0 w).setCell (show B0 ≤ (⟨g8, 0, none⟩ : Addr).block from hB5) _
      have bb2 : Below B0 w ((w.setCell ⟨g8, 0, none⟩ (.slice Av xs.length cv)).setCell ⟨g9, 0, none⟩ (.int .i64 p)) := bb1.setCell (show B0 ≤ (⟨g9, 0, none⟩ : Addr).block from hB6) _
      have bb3 : Below B0 w (((w.setCell ⟨g8, 0, none⟩ (.slice Av xs.length cv)).setCell ⟨g9, 0, none⟩ (.int .i64 p)).setCell ⟨g9, 1, none⟩ (.int .i64 q)) := bb2.setCell (show B0 ≤ (⟨g9, 1, none⟩ : Addr).block from hB6) _
      exact (bb3.alloc (by simp only [World.size_setCell]; omega) _).drew
end Go.Proofs.Ytleookfdngnphaa


/-
  The contract of the program's search for nearest sums.
-/
namespace Go.Proofs.Ytleookfdngnphaa
open Go.RowKit
/-- the list that the program's search finds -/
def nbO (n d k b : Int) : Option (List Int) := if nearB n d k = true then (nsO n d k b).map (·.1) else none
theorem nbO_no {n d k b : Int} (h : nearB n d k = false) : nbO n d k b = none := by rw [nbO, h]; rfl
theorem ns_found {n d k b : Int} (h : nearB n d k = true) (hb : b = 0 ∨ b = 1) : nsE n d k b = true := by
  rcases hb with rfl | rfl
  · exact (nsE_all h).1
  · exact (nsE_all h).2
theorem ns_some {n d k b : Int} (h : nsE n d k b = true) : ∃ (s : Best) (N : Nat), (nsS n d k.toNat b).Ends N [] ((nsS n d k.toNat b).fr 0 (0, 1) k.toNat) ([], 0, 1) s ∧ nsO n d k b = some s := by
  cases hn : nsO n d k b with
  | none => simp [nsE, hn] at h
  | some s =>
    unfold nsO at hn
    cases hr : (nsS n d k.toNat b).run 400 [] ((nsS n d k.toNat b).fr 0 (0, 1) k.toNat) ([], 0, 1) with
    | none => rw [hr] at hn; cases hn
    | some r =>
      obtain ⟨s', N⟩ := r
      rw [hr] at hn
      injection hn with hn
      subst hn
      exact ⟨s', N, Srch.run_ends _ hr, rfl⟩
theorem near_cf {n d b : Int} {k : Nat} (hg : goodB n d = true) (hn : 1 ≤ n) : (nsS n d k b).cf (0, 1) = true := by
  obtain ⟨a1, a2, a3, a4⟩ := good_bounds hg
  have hr : redB n d = true := by
    have h := (goodB_iff n d).1 hg
    exact redB_yes (by rw [(red_one h.2.2.2.2).1]; omega) (by rw [(red_one h.2.2.2.2).2]; omega)
  simp [nsS, hr]
  omega
set_option maxRecDepth 100000 in
set_option maxHeartbeats 4000000 in
theorem nearestBy_any (n d k b : Int) (w : World) (rn : -9223372036854775808 ≤ n ∧ n ≤ 9223372036854775807) (rd : -9223372036854775808 ≤ d ∧ d ≤ 9223372036854775807) (hb01 : b = 0 ∨ b = 1) : Calls Try.prog 157 #[.agg #[.int .i64 n, .int .i64 d], .int .i64 k, .int .i64 b] w (RetLB ((nbO n d k b).getD []) (nbO n d k b).isSome w) := by
  have HT := Lib.hid fun (w : World) => areForNear_any n d k w rn rd
  cases hk : nearB n d k with
  | false =>
    rw [hk] at HT
    have E := Lib.hid (nbO_no (b := b) hk)
    clear hk hb01
    go_enter Try.func157, Try.ntmps157
    go_wp2_with fail
    refine (HT.out _).mono ?_; rintro e w1 ⟨rfl, hb1⟩; have hz1 := hb1.size; (try simp only [World.size_alloc] at hz1)
    go_wp2
    go_ret2
    rw [E.out]
    exact ⟨_, rfl, OwnI.empty _ _, by (repeat' (first | (with_reducible exact Below.refl _ _) | (with_reducible assumption) | (with_reducible refine Below.drew ?_) | (with_reducible refine belowDrewN ?_ _) | (with_reducible refine Below.alloc ?_ ?_ _) | (with_reducible refine Below.setCell ?_ ?_ _) | (with_reducible refine belowStep (by assumption) ?_ ?_) | (with_reducible exact Below.size (by assumption)) | go_size))⟩
  | true =>
    rw [hk] at HT
    obtain ⟨s, N, hE, hs⟩ := ns_some (ns_found hk hb01)
    obtain ⟨hg0, n1, n2, d1, d2, nd, k1, k4⟩ := near_bounds hk
    have E : Hid (nbO n d k b = some s.1) := Lib.hid (by rw [nbO, if_pos hk, hs]; rfl)
    have hb0 : 0 ≤ b := by rcases hb01 with rfl | rfl <;> omega
    have hb1' : b ≤ 1 := by rcases hb01 with rfl | rfl <;> omega
    have HG := Lib.hid hg0
    have HE := Lib.hid hE
    clear hk hs hg0 hE hb01
    obtain ⟨K, rfl⟩ := Int.eq_ofNat_of_zero_le (show 0 ≤ k by omega)
    rw [Int.toNat_natCast] at HE
    have TA := Lib.hid (TwoAt.new w n d 38)
    go_enter Try.func157, Try.ntmps157
    go_wp2_with fail
    refine (HT.out _).mono ?_; rintro e w1 ⟨rfl, hb1⟩; have hz1 := hb1.size; (try simp only [World.size_alloc] at hz1)
    have hbc : w1.cell? ⟨w.heap.size + 1, 0, none⟩ = some (.int .i64 b) := ((bcellB hb1).1 (w.heap.size + 1) 0 (by simp)).trans (by simp)
    have TA := Lib.hid ((TA.out.below ((Below.refl _ _).alloc (Nat.le_refl _) (.cells #[.int .i64 b] 3))).below hb1)
    have Hbc := Lib.hid hbc
    clear hbc
    have HBs : Hid (w.heap.size < w1.heap.size + 1 + 1 ∧ w.heap.size + 1 < w1.heap.size + 1 + 1 ∧ w1.heap.size < w1.heap.size + 1 + 1 ∧ w1.heap.size + 1 < w1.heap.size + 1 + 1) := Lib.hid ⟨by omega, by omega, by omega, by omega⟩
    go_wp2_with fail
    refine (run_any (nsS n d K b) K (K : Int) rfl rfl (by omega) (by omega) 186 187 188 #[.pointer (some ⟨w.heap.size, 0, none⟩), .pointer (some ⟨w.heap.size + 1, 0, none⟩)] #[.pointer (some ⟨w1.heap.size + 1, 0, none⟩)] #[.pointer (some ⟨w1.heap.size, 0, none⟩), .pointer (some ⟨w1.heap.size + 1, 0, none⟩)] (NbI n d b w.heap.size (w.heap.size + 1) w1.heap.size (w1.heap.size + 1) (w1.heap.size + 1 + 1)) w1.heap.size _ ([], 0, 1) s N (by (first | (go_size; done) | ((try simp only [World.size_alloc, World.size_setCell, World.size_drew, World.heap_drewN]); omega))) (fun _ _ => rfl) (fun _ _ => rfl) (fun _ _ => rfl) ?_ ?_ ?_ ?_ ?_ ?_ ?_ ?_ HE.out).mono ?_
    case refine_1 => exact fun s gl gs w1 w2 h hb => h.step HBs.out hb.size (fun k hk _ _ => hb.block k hk) (.inl rfl)
    case refine_2 => exact fun s gl gl' gs w1 w2 h hg hgl => h.step HBs.out hg.size (fun k hk h1 _ => hg.block k hk (by simpa using h1)) hgl
    case refine_3 => exact fun s gl gs w1 w2 h hg => h.step HBs.out hg.size (fun k hk _ h2 => hg.block k hk (by simpa using h2)) (.inl rfl)
    case refine_4 =>
      intro gl gs w2 h1 h2 hb
      have hBW : Below w1.heap.size w1 w2 := (show Below w1.heap.size w1 _ by (repeat' (first | (with_reducible exact Below.refl _ _) | (with_reducible assumption) | (with_reducible refine Below.drew ?_) | (with_reducible refine belowDrewN ?_ _) | (with_reducible refine Below.alloc ?_ ?_ _) | (with_reducible refine Below.setCell ?_ ?_ _) | (with_reducible refine belowStep (by assumption) ?_ ?_) | (with_reducible exact Below.size (by assumption)) | go_size)) : Below w1.heap.size w1 ((w1.alloc (.cells #[.slice none 0 0] 26)).alloc (.cells #[.int .i64 0, .int .i64 1] 38))).trans (hb.mono (by simp only [World.size_alloc]; omega))
      have hlb : w.heap.size + 1 < w1.heap.size := by omega
      have hsz := hb.size
      have e8 := hb.block w1.heap.size (by simp only [World.size_alloc]; omega)
      have t9 := TwoAt.new (w1.alloc (.cells #[.slice none 0 0] 26)) 0 1 38
      have t9 := t9.below hb
      rw [World.size_alloc] at t9
      simp only [World.size_alloc] at h1 h2 hsz
      refine ⟨TA.out.below hBW, ⟨(World.cell?_of_block (a := ⟨w.heap.size + 1, 0, none⟩) (hBW.block _ hlb)).trans Hbc.out, Nat.lt_of_lt_of_le hlb hBW.size⟩, ⟨.slice none 0 0, (World.cell?_of_block (a := ⟨w1.heap.size, 0, none⟩) e8).trans ?_, (World.frozen?_of_block (a := ⟨w1.heap.size, 0, none⟩) e8).trans ?_, by omega, OwnI.empty _ _, by simp [Value.ownBlock], by simp [Value.ownBlock], fun _ => rfl⟩, t9, ⟨h1, h2⟩, hsz⟩
      · simp [World.cell?_alloc_some]
      · first | (simp; done) | (first | (simp [*, World.cell?_alloc_some, World.cell?_setCell_far]; done) | (simp [go_sem, *]; done))
    case refine_5 =>
      intro s gl gs last p q more w2 h hp hc l0 l1 hm
      have hc2 : p * d < n * q ∧ redB (n * q - p * d) (d * q) = true := by simpa [nsS] using hc
      exact nb1_any n d b _ _ _ _ _ s gl gs last p q more w2 h HG.out hp hc2.1 hc2.2 l0 l1 hb0 hb1'
    case refine_6 =>
      intro s gl gs t p q more w2 h hp hc hm
      have hc2 : (((1 ≤ t ∧ t ≤ 1000000) ∧ goodB s.2.1 s.2.2 = true) ∧ (p * t + (more : Int) * q) * s.2.2 ≤ 1000000000000000000) ∧ s.2.1 * q * t ≤ 1000000000000000000 := by simpa [nsS] using hc
      exact nb2_any n d b _ _ _ _ _ s gl gs t p q more w2 h hm hp hc2.1.1.2 hc2.1.1.1.1 hc2.1.1.1.2 hc2.1.2 hc2.2
    case refine_7 =>
      intro s gl gs xs p q v w2 h hp hx hsz ho h1 h2
      simp only [World.size_alloc] at hsz ho ⊢
      exact nb3_any n d b w.heap.size (w.heap.size + 1) w1.heap.size (w1.heap.size + 1) (w1.heap.size + 1 + 1) w1.heap.size s gl gs xs p q v w2 h HBs.out ⟨by omega, by omega, by omega, by omega, by omega⟩ ⟨by omega, by omega⟩ hsz hx ho h1 h2
    case refine_8 => exact near_cf HG.out n1
    case refine_9 =>
      rintro e w9 ⟨rfl, ⟨gl, gs, hi⟩, hb9⟩
      obtain ⟨v, c1, f1, z1, ho, -, -, -⟩ := hi.best
      obtain ⟨Av, cv, rfl, -⟩ := ho.form
      have Ho := Lib.hid ho
      clear ho hi
      go_wp2
      go_ret2
      rw [E.out]
      exact ⟨_, rfl, Ho.out.mono (by omega), by (repeat' (first | (with_reducible exact Below.refl _ _) | (with_reducible assumption) | (with_reducible refine Below.drew ?_) | (with_reducible refine belowDrewN ?_ _) | (with_reducible refine Below.alloc ?_ ?_ _) | (with_reducible refine Below.setCell ?_ ?_ _) | (with_reducible refine belowStep (by assumption) ?_ ?_) | (with_reducible exact Below.size (by assumption)) | go_size))⟩
end Go.Proofs.Ytleookfdngnphaa
