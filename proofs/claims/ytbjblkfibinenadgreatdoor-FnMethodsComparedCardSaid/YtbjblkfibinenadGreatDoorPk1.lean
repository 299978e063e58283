import Derived.Test.YtbjblkfibinenadGreatDoorRows
import Derived.WalkKit
import Derived.ProofKit
import Derived.OpenShut
import Derived.Below
import Derived.Handy
import Derived.Lib.Hide
import Derived.RegionTactic
import Derived.ChangeAlike
import Derived.BigRegion
import Derived.BigQuiet
import Derived.Deep.QuietTactic
import Derived.Deep.RegionHeld3
import Derived.Deep.DeepCutAuto
import Derived.Deep.DrawnRows
import Derived.JoinedOf
import Derived.KernelRfl
import Derived.OwnWalk
import Derived.Maps.AppendAt
import Derived.Deep.AppendLies
import Derived.Lib.SmallJoins
import Derived.Carry

/-
  Plain facts on integers, used by the walks of this seat.
-/
namespace Go.Proofs.YtbjblkfibinenadGreatDoor
open Go.RowKit

/-- What a call of these programs leaves: the value returned, and old memory as it was. -/
def Ret (v : Value) (w : World) (e : Ending) (w' : World) : Prop := e = .returned v ∧ Below w.heap.size w w'
/-- The same where no memory is made: the world has only been drawn from. -/
def RetQ (v : Value) (w : World) (e : Ending) (w' : World) : Prop := e = .returned v ∧ ∃ n, w' = w.drewN n
theorem RetQ.mk0 {v : Value} {w : World} : RetQ v w (.returned v) w := ⟨rfl, 0, rfl⟩
theorem bcell {W w1 : World} (hb : Below W.heap.size W w1) : (∀ b o, b < W.heap.size → w1.cell? ⟨b, o, none⟩ = W.cell? ⟨b, o, none⟩) ∧ (∀ b o, b < W.heap.size → w1.frozen? ⟨b, o, none⟩ = W.frozen? ⟨b, o, none⟩) :=
  ⟨fun b o h => hb.cell (p := ⟨b, o, none⟩) h, fun b o h => hb.frozen (p := ⟨b, o, none⟩) h⟩
theorem belowDrewN {B : Nat} {a w : World} (h : Below B a w) (n : Nat) : Below B a (w.drewN n) := h.trans ⟨rfl, rfl, rfl, Nat.le_refl _, fun _ _ => rfl⟩
theorem bcellB {B : Nat} {W w1 : World} (hb : Below B W w1) : (∀ b o, b < B → w1.cell? ⟨b, o, none⟩ = W.cell? ⟨b, o, none⟩) ∧ (∀ b o, b < B → w1.frozen? ⟨b, o, none⟩ = W.frozen? ⟨b, o, none⟩) :=
  ⟨fun b o h => hb.cell (p := ⟨b, o, none⟩) h, fun b o h => hb.frozen (p := ⟨b, o, none⟩) h⟩
theorem belowStep {B B' : Nat} {a m w : World} (h : Below B' m w) (hB : B ≤ B') (h0 : Below B a m) : Below B a w := h0.trans (h.mono hB)
theorem ret_fr {a b c d : Int} {x y : Bool} (h1 : a = c) (h2 : b = d) (h3 : x = y) : Ending.returned (.tuple #[.agg #[.int .i64 a, .int .i64 b], .bool x]) = .returned (.tuple #[.agg #[.int .i64 c, .int .i64 d], .bool y]) := by rw [h1, h2, h3]
theorem ltAll {m n : Nat} (h : m ≤ n) : ∀ j, j < m → j < n := fun _ hj => Nat.lt_of_lt_of_le hj h
theorem ret_ib {a b : Int} {x y : Bool} (h : a = b) (h2 : x = y) : Ending.returned (.tuple #[.int .i64 a, .bool x]) = .returned (.tuple #[.int .i64 b, .bool y]) := by rw [h, h2]
theorem ret_int {k : IntKind} {a b : Int} (h : a = b) : Ending.returned (.int k a) = .returned (.int k b) := by rw [h]
theorem ret_bool {a b : Bool} (h : a = b) : Ending.returned (.bool a) = .returned (.bool b) := by rw [h]
def gcdI (a b : Int) : Int := (Int.gcd a b : Int)
theorem gcdI_zero (a : Int) (h : 0 ≤ a) : gcdI a 0 = a := by unfold gcdI; rw [Int.gcd_zero_right]; omega
theorem gcdI_step (a b : Int) (ha : 0 ≤ a) (hb : 0 ≤ b) : gcdI b (a % b) = gcdI a b := by
  obtain ⟨m, rfl⟩ := Int.eq_ofNat_of_zero_le ha
  obtain ⟨n, rfl⟩ := Int.eq_ofNat_of_zero_le hb
  unfold gcdI
  rw [← Int.natCast_emod, Int.gcd_natCast_natCast, Int.gcd_natCast_natCast, Nat.gcd_comm n, ← Nat.gcd_rec, Nat.gcd_comm]
theorem gcdI_nonneg (a b : Int) : 0 ≤ gcdI a b := by unfold gcdI; omega
theorem gcdI_pos (a b : Int) (h : 0 < b) : 0 < gcdI a b := by
  have := Int.gcd_pos_of_ne_zero_right a (b := b) (by omega)
  unfold gcdI; omega
theorem gcdI_dvdL (a b : Int) : gcdI a b ∣ a := Int.gcd_dvd_left _ _
theorem gcdI_dvdR (a b : Int) : gcdI a b ∣ b := Int.gcd_dvd_right _ _
theorem gcdI_leR (a b : Int) (h : 0 < b) : gcdI a b ≤ b := Int.le_of_dvd h (gcdI_dvdR a b)

/-- a quotient in lowest terms: its parts, and whether they are small enough -/
def redB (n d : Int) : Bool := decide (n / gcdI n d ≤ 1000000000) && decide (d / gcdI n d ≤ 1000000000)
def redN (n d : Int) : Int := if redB n d = true then n / gcdI n d else 0
def redD (n d : Int) : Int := if redB n d = true then d / gcdI n d else 0
theorem redB_yes {n d : Int} (h1 : n / gcdI n d ≤ 1000000000) (h2 : d / gcdI n d ≤ 1000000000) : redB n d = true := by simp [redB, h1, h2]
theorem redB_no1 {n d : Int} (h1 : ¬ n / gcdI n d ≤ 1000000000) : redB n d = false := by simp [redB]; omega
theorem redB_no2 {n d : Int} (h1 : ¬ d / gcdI n d ≤ 1000000000) : redB n d = false := by simp [redB]; omega
/-- what a pair of numbers must be to be a fraction -/
def goodB (n d : Int) : Bool := decide (0 ≤ n) && decide (n ≤ 1000000000) && decide (1 ≤ d) && decide (d ≤ 1000000000) && decide (gcdI n d = 1)
theorem goodB_iff (n d : Int) : goodB n d = true ↔ 0 ≤ n ∧ n ≤ 1000000000 ∧ 1 ≤ d ∧ d ≤ 1000000000 ∧ gcdI n d = 1 := by
  simp [goodB, and_assoc]
theorem goodB_not {n d : Int} (h : ¬ (0 ≤ n ∧ n ≤ 1000000000 ∧ 1 ≤ d ∧ d ≤ 1000000000 ∧ gcdI n d = 1)) : goodB n d = false := by
  cases hg : goodB n d with
  | false => rfl
  | true => exact absurd ((goodB_iff n d).1 hg) h
theorem red_one {n d : Int} (h : gcdI n d = 1) : n / gcdI n d = n ∧ d / gcdI n d = d := by rw [h]; simp
/-- a number that has a common divisor greater than 1 gets less -/
theorem red_less {n d : Int} (hd : 1 ≤ d) (h : gcdI n d ≠ 1) : d / gcdI n d < d := by
  have h1 := gcdI_pos n d (by omega)
  exact Int.ediv_lt_self_of_pos_of_ne_one (by omega) h
theorem redB_iff (n d : Int) : redB n d = true ↔ n / gcdI n d ≤ 1000000000 ∧ d / gcdI n d ≤ 1000000000 := by simp [redB]
theorem good_of_red {n d : Int} (hn : 0 ≤ n) (hd : 1 ≤ d) (hr : redB n d = true) : goodB n d = (decide (n / gcdI n d = n) && decide (d / gcdI n d = d)) := by
  obtain ⟨r1, r2⟩ := (redB_iff n d).1 hr
  by_cases hg : gcdI n d = 1
  · obtain ⟨e1, e2⟩ := red_one hg
    rw [e1] at r1
    rw [e2] at r2
    rw [(goodB_iff n d).2 ⟨hn, r1, hd, r2, hg⟩, e1, e2]
    simp
  · have hl := red_less hd hg
    rw [goodB_not (fun h => hg h.2.2.2.2)]
    have : ¬ (d / gcdI n d = d) := by omega
    simp [this]
theorem good_bounds {n d : Int} (h : goodB n d = true) : 0 ≤ n ∧ n ≤ 1000000000 ∧ 1 ≤ d ∧ d ≤ 1000000000 := by
  have := (goodB_iff n d).1 h
  exact ⟨this.1, this.2.1, this.2.2.1, this.2.2.2.1⟩
/-- products of parts of fractions -/
theorem mul_bounds {a b : Int} (ha : 0 ≤ a) (ha2 : a ≤ 1000000000) (hb : 0 ≤ b) (hb2 : b ≤ 1000000000) : 0 ≤ a * b ∧ a * b ≤ 1000000000000000000 :=
  ⟨Int.mul_nonneg ha hb, by have := Int.mul_le_mul ha2 hb2 hb (by omega : (0 : Int) ≤ 1000000000); omega⟩
theorem mul_pos1 {a b : Int} (ha : 1 ≤ a) (hb : 1 ≤ b) : 1 ≤ a * b := by have := Int.mul_pos (a := a) (b := b) (by omega) (by omega); omega
theorem gcdI_red {n d : Int} (hd : 1 ≤ d) : gcdI (n / gcdI n d) (d / gcdI n d) = 1 := by
  have h1 := gcdI_pos n d (by omega)
  unfold gcdI at *
  rw [Int.gcd_ediv_gcd_ediv_gcd (by omega)]
  rfl
theorem div_pos1 {a b : Int} (ha : 1 ≤ a) (hb : 1 ≤ b) (h : b ∣ a) : 1 ≤ a / b := by
  have := Int.ediv_pos_of_pos_of_dvd (a := a) (b := b) (by omega) (by omega) h
  omega
theorem good_red {n d : Int} (hn : 0 ≤ n) (hd : 1 ≤ d) : goodB (n / gcdI n d) (d / gcdI n d) = redB n d := by
  have h1 := gcdI_pos n d (by omega)
  have q1 : 0 ≤ n / gcdI n d := Int.ediv_nonneg hn (by omega)
  have q2 : 1 ≤ d / gcdI n d := div_pos1 hd (by omega) (gcdI_dvdR n d)
  rw [Bool.eq_iff_iff, goodB_iff, redB_iff]
  exact ⟨fun h => ⟨h.2.1, h.2.2.2.1⟩, fun h => ⟨q1, h.1, q2, h.2, gcdI_red hd⟩⟩
def cmpI (x y : Int) : Int := if x < y then -1 else if y < x then 1 else 0
theorem cmpI_lt {x y : Int} (h : x < y) : cmpI x y = -1 := by simp [cmpI, h]
theorem cmpI_gt {x y : Int} (h : y < x) : cmpI x y = 1 := by simp [cmpI, h]; omega
theorem cmpI_eq {x y : Int} (h : x = y) : cmpI x y = 0 := by simp [cmpI, h]
end Go.Proofs.YtbjblkfibinenadGreatDoor


/-
  Closed facts on this seat's program, shared by all of its laws.
-/
namespace Go.Proofs.YtbjblkfibinenadGreatDoor
theorem mayEnter_eq : Tryz.prog.mayEnter = true := by kernel_rfl
theorem lifts_eq : Tryz.prog.liftsFinal = false := by kernel_rfl
theorem make_eq : Tryz.prog.make = some .cut := by kernel_rfl
end Go.Proofs.YtbjblkfibinenadGreatDoor


/-
  Words for slices of ints, and contracts of the law's helpers that copy and compare them.
-/
namespace Go.Proofs.YtbjblkfibinenadGreatDoor
open Go.RowKit
/-- a block of two ints that may be written -/
def TwoAt (w : World) (g : Nat) (a b : Int) : Prop :=
  w.cell? ⟨g, 0, none⟩ = some (.int .i64 a) ∧ w.cell? ⟨g, 1, none⟩ = some (.int .i64 b) ∧ w.frozen? ⟨g, 0, none⟩ = false ∧ w.frozen? ⟨g, 1, none⟩ = false ∧ g < w.heap.size
theorem TwoAt.below {w w' : World} {g : Nat} {a b : Int} (h : TwoAt w g a b) (hb : Below w.heap.size w w') : TwoAt w' g a b :=
  ⟨(hb.cell (p := ⟨g, 0, none⟩) h.2.2.2.2).trans h.1, (hb.cell (p := ⟨g, 1, none⟩) h.2.2.2.2).trans h.2.1, (hb.frozen (p := ⟨g, 0, none⟩) h.2.2.2.2).trans h.2.2.1, (hb.frozen (p := ⟨g, 1, none⟩) h.2.2.2.2).trans h.2.2.2.1, Nat.lt_of_lt_of_le h.2.2.2.2 hb.size⟩
theorem TwoAt.new (w : World) (x y : Int) (T : TypeId) : TwoAt (w.alloc (.cells #[.int .i64 x, .int .i64 y] T)) w.heap.size x y :=
  ⟨by simp, by simp, by simp [go_sem], by simp [go_sem], by simp⟩
/-- a slice (its address an option: nil is let in) that reads as the list xs -/
def Reads (w : World) (A : Option Addr) (xs : List Int) : Prop :=
  0 < xs.length → ∃ b o, A = some ⟨b, o, none⟩ ∧ b < w.heap.size ∧ ∀ i x, xs[i]? = some x → w.cell? ⟨b, o + i, none⟩ = some (.int .i64 x)
/-- a slice of the call's own, of blocks from base on -/
def OwnI (w : World) (base : Nat) (v : Value) (xs : List Int) : Prop := w.ownsRow base 3 1 v xs.length (xs.map (Value.int .i64))
/-- what a call leaves that returns a new slice -/
def RetL (xs : List Int) (w : World) (e : Ending) (w' : World) : Prop := ∃ v, e = .returned v ∧ OwnI w' w.heap.size v xs ∧ Below w.heap.size w w'

section
variable {w w' : World} {A : Option Addr} {xs : List Int}
theorem Reads.nil : Reads w A [] := fun h => absurd h (by simp)
theorem Reads.at_ {k : Nat} (h : Reads w A xs) (hk : k < xs.length) : ∃ b o x, A = some ⟨b, o, none⟩ ∧ b < w.heap.size ∧ xs[k]? = some x ∧ w.cell? ⟨b, o + k, none⟩ = some (.int .i64 x) := by
  obtain ⟨b, o, e, hb, hc⟩ := h (by omega)
  exact ⟨b, o, xs[k], e, hb, List.getElem?_eq_getElem hk, hc k _ (List.getElem?_eq_getElem hk)⟩
/-- at two places at once -/
theorem Reads.at2 {k j : Nat} (h : Reads w A xs) (hk : k < xs.length) (hj : j < xs.length) : ∃ b o x y, A = some ⟨b, o, none⟩ ∧ b < w.heap.size ∧ xs[k]? = some x ∧ xs[j]? = some y ∧ w.cell? ⟨b, o + k, none⟩ = some (.int .i64 x) ∧ w.cell? ⟨b, o + j, none⟩ = some (.int .i64 y) := by
  obtain ⟨b, o, e, hb, hc⟩ := h (by omega)
  exact ⟨b, o, xs[k], xs[j], e, hb, List.getElem?_eq_getElem hk, List.getElem?_eq_getElem hj, hc k _ (List.getElem?_eq_getElem hk), hc j _ (List.getElem?_eq_getElem hj)⟩
theorem Reads.below (h : Reads w A xs) (hb : Below w.heap.size w w') : Reads w' A xs := fun h0 => by
  obtain ⟨b, o, e, hlt, hc⟩ := h h0
  exact ⟨b, o, e, Nat.lt_of_lt_of_le hlt hb.size, fun i x hx => (hb.cell (p := ⟨b, o + i, none⟩) hlt).trans (hc i x hx)⟩
theorem Reads.drewN (h : Reads w A xs) (k : Nat) : Reads (w.drewN k) A xs := h
theorem OwnI.form {base : Nat} {v : Value} (h : OwnI w base v xs) : ∃ A c, v = .slice A xs.length c ∧ Reads w A xs := by
  rcases h.2 with ⟨hv, h0⟩ | ⟨g, cap, cur, hv, hb, hg, hnc, hcm, hcs, ht⟩
  · exact ⟨none, 0, by rw [hv, h0], fun h1 => by omega⟩
  · refine ⟨some ⟨g, 0, none⟩, cap, hv, fun _ => ⟨g, 0, rfl, ?_, fun i x hx => ?_⟩⟩
    · rcases Nat.lt_or_ge g w.heap.size with hlt | hge
      · exact hlt
      · rw [Array.getElem?_eq_none hge] at hg; cases hg
    · subst hv
      have hi : i < xs.length := (List.getElem?_eq_some_iff.1 hx).1
      have := World.ownsRow.cellAt (h : w.ownsRow _ _ _ _ _ _) i (by omega)
      rw [Nat.zero_add, this, List.getElem?_map, hx]
      rfl
theorem OwnI.block {base : Nat} {v : Value} (h : OwnI w base v xs) : ∀ k, v.ownBlock = some k → base ≤ k ∧ k < w.heap.size := World.ownsRow.lt h
theorem OwnI.below {base : Nat} {v : Value} (h : OwnI w base v xs) (hb : Below w.heap.size w w') : OwnI w' base v xs := by
  refine ⟨h.1, ?_⟩
  rcases h.2 with h0 | ⟨g, cap, cur, hv, hbg, hg, r⟩
  · exact .inl h0
  · refine .inr ⟨g, cap, cur, hv, hbg, ?_, r⟩
    have hlt := (World.ownsRow.lt h g (by rw [hv]; rfl)).2
    rw [hb.block g hlt]
    exact hg
theorem OwnI.mono {base base' : Nat} {v : Value} (h : OwnI w base v xs) (hb : base' ≤ base) : OwnI w base' v xs := by
  refine ⟨h.1, ?_⟩
  rcases h.2 with h0 | ⟨g, cap, cur, hv, hbg, r⟩
  · exact .inl h0
  · exact .inr ⟨g, cap, cur, hv, Nat.le_trans hb hbg, r⟩
theorem OwnI.set_ {base g n c : Nat} (h : OwnI w base (.slice (some ⟨g, 0, none⟩) n c) xs) (hn : n = xs.length) (k : Nat) (x : Int) :
    OwnI (w.setCell ⟨g, k, none⟩ (.int .i64 x)) base (.slice (some ⟨g, 0, none⟩) n c) (xs.set k x) := by
  subst hn
  have := (World.ownsRow.stored (h : w.ownsRow _ _ _ _ _ _) k (.int .i64 x)).1
  unfold OwnI
  rw [List.length_set, List.map_set]
  exact this
theorem OwnI.cell_ {base g n c : Nat} (h : OwnI w base (.slice (some ⟨g, 0, none⟩) n c) xs) (hn : n = xs.length) {k : Nat} {x : Int} (hx : xs[k]? = some x) :
    w.cell? ⟨g, k, none⟩ = some (.int .i64 x) ∧ w.frozen? ⟨g, k, none⟩ = false := by
  subst hn
  have hk : k < xs.length := (List.getElem?_eq_some_iff.1 hx).1
  refine ⟨?_, World.ownsRow.frozenAt (h : w.ownsRow _ _ _ _ _ _) k⟩
  rw [World.ownsRow.cellAt (h : w.ownsRow _ _ _ _ _ _) k (by omega), List.getElem?_map, hx]
  rfl
end

theorem intInfo : (Tryz.prog.info? 3).map (fun i => (i.zero, i.size, i.bytes)) = some (some (.int .i64 0), 1, 8) := by kernel_rfl
/-- the list after k of its places have been filled -/
def filled (xs : List Int) (k : Nat) : List Int := xs.take k ++ List.replicate (xs.length - k) 0
theorem filled_len (xs : List Int) (k : Nat) (h : k ≤ xs.length) : (filled xs k).length = xs.length := by simp [filled]; omega
theorem filled_all (xs : List Int) : filled xs xs.length = xs := by simp [filled]
theorem filled_none (xs : List Int) : filled xs 0 = List.replicate xs.length 0 := by simp [filled]
theorem filled_set (xs : List Int) (k : Nat) (x : Int) (h : xs[k]? = some x) : (filled xs k).set k x = filled xs (k + 1) := by
  have hk : k < xs.length := (List.getElem?_eq_some_iff.1 h).1
  have hx : xs[k] = x := (List.getElem?_eq_some_iff.1 h).2
  have h1 : xs.take (k + 1) = xs.take k ++ [x] := by rw [List.take_succ_eq_append_getElem hk, hx]
  have h2 : List.replicate (xs.length - k) (0 : Int) = 0 :: List.replicate (xs.length - (k + 1)) 0 := by
    rw [show xs.length - k = (xs.length - (k + 1)) + 1 from by omega, List.replicate_succ]
  have hl : (xs.take k).length = k := by simp; omega
  unfold filled
  rw [h1, h2, List.set_append_right _ _ (by omega), hl, Nat.sub_self, List.set_cons_zero, List.append_assoc, List.singleton_append]
theorem filled_at (xs : List Int) (k : Nat) (h : k < xs.length) : (filled xs k)[k]? = some 0 := by
  unfold filled
  rw [List.getElem?_append, if_neg (by simp; omega), List.getElem?_replicate, if_pos (by simp; omega)]

set_option maxHeartbeats 1000000 in
theorem eqIntS_same (w : World) (A B : Option Addr) (c d : Nat) (xs : List Int) (ha : Reads w A xs) (hb : Reads w B xs) (hl : xs.length ≤ 1048576) :
    Calls Tryz.prog 9 #[.slice A xs.length c, .slice B xs.length d] w (RetQ (.bool true) w) := by
  go_enter Tryz.func9, Tryz.ntmps9
  go_wp2
  go_loopw [5] (fun v5 wr => ∃ k : Nat, k ≤ xs.length ∧ v5 = .int .i64 k ∧ ∃ n, wr = w.drewN n) (fun v5 _ => xs.length - (intOf v5).toNat)
  case atStart => exact ⟨0, Nat.zero_le _, rfl, 0, rfl⟩
  case round =>
    obtain ⟨k, hk, rfl, n, rfl⟩ := hrel
    by_cases hlt : k < xs.length
    · obtain ⟨b, o, x, rfl, _, hx, hcell⟩ := ha.at_ hlt
      obtain ⟨b', o', x', rfl, _, hx', hcell'⟩ := hb.at_ hlt
      obtain rfl : x = x' := by rw [hx] at hx'; injection hx'
      clear hx hx' ha hb
      go_wp2
      go_region
      go_wp2
      go_roundw
      case rel => exact ⟨k + 1, by omega, by go_num, n + 1, rfl⟩
      case measure => simp [intOf]; omega
    · go_wp2
      go_ret
      exact ⟨rfl, n, rfl⟩
end Go.Proofs.YtbjblkfibinenadGreatDoor


/-
  The common last step of every law of this seat: a law's walk (it returns true, old memory is as it was) gives the law's row.
-/
namespace Go.Proofs.YtbjblkfibinenadGreatDoor
open Go.ChangeShapes Go.WideShapes Go.ChangeAt Go.RowKit Go.Joins Go.Deep

theorem own : ownKnob Tryz.prog.godebug = none := by kernel_rfl
theorem laidOut : laidOutB Tryz.prog = true := by kernel_rfl

section
variable {H : Type} {enc : TypeId × Value → H} {P : Program}
theorem trodAll_stays {ts : List TypeId} (hl : laidOutB P = true) {W W' : World} {sp' : Nat → Bool} (hb : Below W.heap.size W W') :
    ∀ {vs : List Value} {ds : List (DataW H)} {ps : List MemPlace}, (∀ t ∈ ts, P.readableRec t = true ∧ t < P.types.size) →
      DataW.TrodAll enc P W 0 (fun _ => true) true ts vs ds ps → (∀ x ∈ ps, x.block < W.heap.size) → (∀ x ∈ ps, sp' x.block = true) → DataW.TrodAll enc P W' 0 sp' true ts vs ds ps := by
  induction ts with
  | nil =>
    intro vs ds ps _ h _ _
    match vs, ds, h with
    | [], [], h => exact h
  | cons t ts ih =>
    intro vs ds ps hr h hlt hsp
    match vs, ds, h with
    | v :: vs, d :: ds, ⟨p, q, h1, h2, e⟩ =>
      subst e
      exact ⟨p, q, WideElems.Trod_stays hl (hr t (by simp)).1 (hr t (by simp)).2 h1 (fun x hx => hb.same (hlt x (by simp [hx]))) (fun x hx => hsp x (by simp [hx])),
        ih (fun t' ht' => hr t' (by simp [ht'])) h2 (fun x hx => hlt x (by simp [hx])) (fun x hx => hsp x (by simp [hx])), rfl⟩

/-- The law's post: it returned true, and of old memory nothing has turned. -/
theorem law_post {f : Func} {s : ChangeSpec} {W W' : World} {args : Array Value} {ds gs : List (DataW H)} {before : List MemPlace} {tb : TypeId}
    (hl : laidOutB P = true) (hr : ∀ t ∈ f.params.toList, P.readableRec t = true ∧ t < P.types.size) (hrt : f.resultTypes = #[tb]) (htb : P.underlying tb = some .bool)
    (hvars : s.vars = []) (hW : DataW.Whole enc P f.params.toList s.vars false W args.toList ds gs before)
    (hfn : s.fn H (ds ++ gs) = { results := [.lit (.bool true)], args := ds }) (hb : Below W.heap.size W W') :
    s.post enc P f false true false false W args (.bool true) W' := by
  have hlt : ∀ p ∈ before, p.block < W.heap.size := fun p hp => hW.lt p hp
  have hold : ∀ p ∈ before, (fun b => decide (b < W.heap.size)) p.block = true := fun p hp => by simpa using hlt p hp
  obtain ⟨p, q, hA, hV, e, hz, hn⟩ := hW
  have hV' := hV
  rw [hvars] at hV'
  obtain ⟨rfl, rfl⟩ := trodVars_none hV'
  have hW : DataW.Whole enc P f.params.toList s.vars false W args.toList ds [] before := ⟨p, [], hA, hV, e, hz, hn⟩
  simp only [List.append_nil] at e
  subst e
  have hres : ∀ (b : Nat) (sp : Nat → Bool) (hd : Bool), DataW.TrodAll enc P W' b sp hd f.resultTypes.toList ((Value.bool true).resultList f.resultTypes.size) (s.fn H (ds ++ [])).results [] := by
    intro b sp hd
    rw [hfn, hrt]
    exact trodAll_cons_mk (shut_bool htb _) trodAll_mk0
  have hargs : ∀ sp : Nat → Bool, (∀ x ∈ before, sp x.block = true) → DataW.TrodAll enc P W' 0 sp true f.params.toList args.toList (s.fn H (ds ++ [])).args before := by
    intro sp hsp
    rw [hfn]
    exact trodAll_stays hl hb hr hA hlt hsp
  have hvs : ∀ sp : Nat → Bool, (∀ x ∈ before, sp x.block = true) → DataW.TrodVars enc P W' sp s.vars (s.fn H (ds ++ [])).vars [] := by
    intro sp _
    rw [hfn, hvars]
    rfl
  have hok : ∀ (j : Nat) (t : TypeId) (r : Value), f.resultTypes[j]? = some t → ((Value.bool true).resultList f.resultTypes.size)[j]? = some r → Value.okWide P W' .any 0 t r :=
    ok_one hrt rfl (okWide_bool_mk htb _)
  refine ⟨ds, [], before, [], before, [], hW, hres _ _ _, hargs _ hold, hvs _ hold, World.keptBut_mono (fun p hp => ⟨hp, ?_⟩) (hb.frame (· ∈ before)), fun h => by cases h⟩
  exact Or.inr (Or.inl hp)

/-- A struct of two ints, by value. -/
theorem open_two {W : World} {base : Nat} {r : Reach} {b0 : Nat} {t ti : TypeId} {v : Value} {d : DataW H} {p : List MemPlace} {sp : Nat → Bool} {held : Bool} {f0 f1 : Field} (ht : P.underlying t = some (.struct #[f0, f1])) (h0 : f0.type = ti) (h1 : f1.type = ti)
    (hone : oneCellFields P #[f0, f1] = true) (hC : P.cellsOf t = 2) (hti : P.underlying ti = some (.int .i64))
    (hv : Value.okWide P W r b0 t v) (h : DataW.Trod enc P W base sp held t v d p) :
    ∃ n m : Int, v = .agg #[.int .i64 n, .int .i64 m] ∧ -9223372036854775808 ≤ n ∧ n ≤ 9223372036854775807 ∧ -9223372036854775808 ≤ m ∧ m ≤ 9223372036854775807 := by
  obtain ⟨v0, v1, y0, y1, k, rfl, _, _, e0, e1⟩ := open_agg2 ht hone hC hv h
  rw [h0] at e0
  rw [h1] at e1
  obtain ⟨n, hn1, _, hn2⟩ := DataW.trod_int hti e0
  obtain ⟨m, hm1, _, hm2⟩ := DataW.trod_int hti e1
  simp only [List.cons.injEq, and_true] at hn1 hm1
  subst hn1
  subst hm1
  have a := bounds_i64 hn2
  have b := bounds_i64 hm2
  exact ⟨n, m, rfl, a.1, a.2, b.1, b.2⟩
/-- A slice of ints: nil, empty or not, one way. -/
theorem open_ints_reads {W : World} {r : Reach} {b0 : Nat} {t ti : TypeId} {v : Value} {d : DataW H} {p : List MemPlace} (ht : P.underlying t = some (.slice ti)) (hti : P.underlying ti = some (.int .i64)) (hC : P.cellsOf ti = 1)
    (hv : Value.okWide P W r b0 t v) (h : DataW.Trod enc P W 0 (fun _ => true) true t v d p) (hlt : ∀ y ∈ p, y.block < W.heap.size) :
    ∃ (A : Option Addr) (c : Nat) (xs : List Int), v = .slice A xs.length c ∧ Reads W A xs ∧ (∀ (i : Nat) (x : Int), xs[i]? = some x → -9223372036854775808 ≤ x ∧ x ≤ 9223372036854775807) := by
  obtain ⟨a0, len, cap, rfl⟩ := okWide_slice ht hv
  obtain ⟨fuel, hf⟩ := h
  rcases open_ints ht hti hC hf with ⟨hcs, _⟩ | ⟨a, len', cap', zs, hcs, _, hl, hm, hz, hx, hcell, hw⟩
  · simp [Value.cells] at hcs
    obtain ⟨rfl, rfl, rfl⟩ := hcs
    exact ⟨none, 0, [], rfl, Reads.nil, fun i x h => by simp at h⟩
  · simp [Value.cells] at hcs
    obtain ⟨rfl, rfl, rfl⟩ := hcs
    simp only [if_true] at hz
    have hll : (zs.take len).length = len := by rw [List.length_take]; omega
    refine ⟨some a, cap, zs.take len, by rw [hll], fun h0 => ?_, fun i x h => ?_⟩
    · obtain ⟨b, o, spot⟩ := a
      have hspot : spot = none := by simpa [Addr.add] using World.cell?_spot (hcell 0 (by omega))
      subst hspot
      refine ⟨b, o, rfl, ?_, fun i x h => ?_⟩
      · simp only [Prod.mk.injEq] at hx
        have := hlt (.cell b o) (by rw [hx.2]; exact MemPlace.mem_row.2 ⟨0, by omega, by simp⟩)
        exact this
      · have hi : i < len := by have := (List.getElem?_eq_some_iff.1 h).1; omega
        have hc := hcell i (by omega)
        rw [List.getElem?_take, if_pos hi] at h
        rw [List.getD, h] at hc
        simpa [add_plain] using hc
    · have hi : i < len := by have := (List.getElem?_eq_some_iff.1 h).1; omega
      rw [List.getElem?_take, if_pos hi] at h
      exact bounds_i64 (hw x (List.mem_of_getElem? h))
end
end Go.Proofs.YtbjblkfibinenadGreatDoor


/-
  What the built-in append and an empty literal leave, in this seat's words for slices of ints.
-/
namespace Go.Proofs.YtbjblkfibinenadGreatDoor
open Go.RowKit
section
variable {w w' : World} {A : Option Addr} {xs ys : List Int} {base : Nat} {v : Value}
theorem OwnI.empty (w : World) (base : Nat) : OwnI w base (.slice none 0 0) [] := World.ownsRow_nil w base _ 1
/-- an empty literal: a block of no cells -/
theorem OwnI.zero (w : World) (base : Nat) (hb : base ≤ w.heap.size) : OwnI (w.alloc (.cells #[] 3)) base (.slice (some ⟨w.heap.size, 0, none⟩) 0 0) [] :=
  World.ownsRow_lit w #[] 0 hb (by unfold maxLen; omega) rfl
theorem Reads.one (w : World) (x : Int) : Reads (w.alloc (.cells #[.int .i64 x] 3)) (some ⟨w.heap.size, 0, none⟩) [x] := fun _ =>
  ⟨w.heap.size, 0, rfl, by simp, fun i y h => by
    match i, h with
    | 0, h =>
      simp only [List.getElem?_cons_zero, Option.some.injEq] at h
      subst h
      simp⟩
theorem oneCellInts (xs : List Int) : ∀ u ∈ xs.map (Value.int .i64), u.oneCell' = true := ints_oneCell .i64 xs

/-- append onto a slice of the call's own, of a source that reads as ys (nil let in) -/
theorem run_app (w : World) (ty : TypeId) (hown : OwnI w base v xs) (c : Nat) (hr : Reads w A ys) (hlen : xs.length + ys.length ≤ 16777216) (hbase : base ≤ w.heap.size) :
    ∃ v' w', (Builtin.append_ #[24, 24] ty #[v, .slice A ys.length c]).run Tryz.prog w = .ok v' w' ∧ OwnI w' base v' (xs ++ ys) ∧ w.grownBy w' v.ownBlock ∧
      (v'.ownBlock = v.ownBlock ∨ v'.ownBlock = some w.heap.size) := by
  obtain ⟨i0, hi, hz0, hz1, hz2⟩ := info_parts intInfo
  rcases Nat.eq_zero_or_pos ys.length with h0 | h0
  · have hy : ys = [] := List.eq_nil_of_length_eq_zero h0
    subst hy
    rw [List.append_nil]
    cases A with
    | none =>
      refine ⟨v, w, ?_, hown, World.grownBy.refl w _, .inl rfl⟩
      rcases hown.2 with ⟨rfl, _⟩ | ⟨g, cap, cur, rfl, _, _, hnc, _⟩
      · simp [Builtin.append_, run_underlying Tryz.underlying24, sizeOf, typeInfo, hi, Builtin.lenOf, Builtin.firstCells]
      · simp [Builtin.append_, run_underlying Tryz.underlying24, sizeOf, typeInfo, hi, Builtin.lenOf, Builtin.firstCells, hnc, storeCells]
    | some a =>
      obtain ⟨v', w', h1, h2, h3, _, h5⟩ := run_append_own_at (P := Tryz.prog) w base 24 ty 3 i0 (.int .i64 0) 1 8 Tryz.underlying24 hi hz0 hz1 hz2 rfl (by omega) v xs.length _ hown a 0 c [] rfl (fun j u h => by simp at h) (fun u h => by simp at h) (by unfold maxLen; omega) (by omega) hbase
      refine ⟨v', w', h1, ?_, h3, h5⟩
      simpa [OwnI] using h2
  · obtain ⟨b, o, rfl, hb, hc⟩ := hr h0
    obtain ⟨v', w', h1, h2, h3, _, h5⟩ := run_append_own_at (P := Tryz.prog) w base 24 ty 3 i0 (.int .i64 0) 1 8 Tryz.underlying24 hi hz0 hz1 hz2 rfl (by omega) v xs.length _ hown ⟨b, o, none⟩ ys.length c (ys.map (Value.int .i64)) (by simp)
      (fun j u h => by
        rw [List.getElem?_map] at h
        cases hx : ys[j]? with
        | none => rw [hx] at h; cases h
        | some x =>
          rw [hx] at h
          simp only [Option.map_some, Option.some.injEq] at h
          subst h
          rw [Go.WideShapes.add_plain]
          exact hc j x hx)
      (oneCellInts ys) (by unfold maxLen; omega) (by omega) hbase
    refine ⟨v', w', h1, ?_, h3, h5⟩
    simpa [OwnI] using h2

theorem wpList_app (w : World) {ops : Array Oper} {rest : List Oper} {o : Oper} {a : Act} {Q : Exit → Act → World → Prop} (hgd : o.guard = none) (s x : Operand)
    (ho : o.op = .call { callee := .builtin .append, args := #[s, x], argTypes := #[24, 24] })
    (hs : a.eval s = v) (hown : OwnI w base v xs) (m c : Nat) (hm : ys.length = m) (hx : a.eval x = .slice A m c) (hr : Reads w A ys) (hlen : xs.length + ys.length ≤ 16777216) (hbase : base ≤ w.heap.size)
    (h : ∀ v' w', OwnI w' base v' (xs ++ ys) → Below base w w' → w.grownBy w' v.ownBlock → (v'.ownBlock = v.ownBlock ∨ v'.ownBlock = some w.heap.size) → wpList Tryz.prog ops Q rest (a.put o.dst v') w') :
    wpList Tryz.prog ops Q (o :: rest) a w := by
  subst hm
  refine wpList_plain hgd fun K hK => ?_
  obtain ⟨v', w', hrun, h2, h3, h4⟩ := run_app w o.type hown c hr hlen hbase
  unfold Oper.wp execOp
  simp only [ho, resolve, invoke, builtin, Sem.run_bind, Sem.run_pure, Result.andThen_ok, List.map_toArray, List.map_cons, List.map_nil, hs, hx, hrun]
  exact hK _ _ (h v' w' h2 ((Below.refl base w).grown h3 hbase (fun k hk => (hown.block k hk).1)) h3 h4)
/-- the same, as one step of a region that draws its order -/
theorem step_app (w : World) {ops : Array Oper} {o : Oper} {a : Act} {K : Act → World → Prop} {Q : Exit → Act → World → Prop} {E : Prop} (hgd : o.guard = none) (s x : Operand)
    (ho : o.op = .call { callee := .builtin .append, args := #[s, x], argTypes := #[24, 24] })
    (hs : a.eval s = v) (hown : OwnI w base v xs) (m c : Nat) (hm : ys.length = m) (hx : a.eval x = .slice A m c) (hr : Reads w A ys) (hlen : xs.length + ys.length ≤ 16777216) (hbase : base ≤ w.heap.size)
    (h : ∀ v' w', OwnI w' base v' (xs ++ ys) → Below base w w' → w.grownBy w' v.ownBlock → (v'.ownBlock = v.ownBlock ∨ v'.ownBlock = some w.heap.size) → K (a.put o.dst v') w') :
    if Region.wanted o (yielded ops a.tmps) = true then Oper.wp Tryz.prog o a w K Q else E := by
  subst hm
  have hw : Region.wanted o (yielded ops a.tmps) = true := by simp [Region.wanted, hgd]
  rw [if_pos hw]
  obtain ⟨v', w', hrun, h2, h3, h4⟩ := run_app w o.type hown c hr hlen hbase
  unfold Oper.wp execOp
  simp only [ho, resolve, invoke, builtin, Sem.run_bind, Sem.run_pure, Result.andThen_ok, List.map_toArray, List.map_cons, List.map_nil, hs, hx, hrun]
  exact h v' w' h2 ((Below.refl base w).grown h3 hbase (fun k hk => (hown.block k hk).1)) h3 h4
end
end Go.Proofs.YtbjblkfibinenadGreatDoor


/-
  Contracts of the law's helpers that write marks into a slice and look for them.
-/
namespace Go.Proofs.YtbjblkfibinenadGreatDoor
open Go.RowKit
/-- k, k + 1, .. -/
def marks : Int → Nat → List Int
  | _, 0 => []
  | k, n + 1 => k :: marks (k + 1) n
theorem marks_len (k : Int) (n : Nat) : (marks k n).length = n := by
  induction n generalizing k with
  | zero => rfl
  | succ n ih => simp [marks, ih]
theorem marks_at (k : Int) (n : Nat) : ∀ (i : Nat), i < n → (marks k n)[i]? = some (k + i) := by
  induction n generalizing k with
  | zero => intro i h; omega
  | succ n ih =>
    intro i h
    cases i with
    | zero => simp [marks]
    | succ i =>
      show (marks (k + 1) n)[i]? = _
      rw [ih (k + 1) i (by omega)]
      congr 1
      omega
/-- a slice of the call's own, its form laid open: nil, or a row from its head on -/
theorem OwnI.cases_ {w : World} {base : Nat} {v : Value} {xs : List Int} (h : OwnI w base v xs) : (v = .slice none 0 0 ∧ xs = []) ∨ ∃ g c, v = .slice (some ⟨g, 0, none⟩) xs.length c ∧ base ≤ g ∧ g < w.heap.size := by
  rcases h.2 with ⟨hv, h0⟩ | ⟨g, cap, cur, hv, hb, _⟩
  · exact .inl ⟨hv, List.eq_nil_of_length_eq_zero h0⟩
  · exact .inr ⟨g, cap, hv, hb, (h.block g (by rw [hv]; rfl)).2⟩

/-- the list after the first j of its numbers have been marked -/
def marked (xs : List Int) (k : Int) (j : Nat) : List Int := marks k j ++ xs.drop j
theorem marked_len (xs : List Int) (k : Int) (j : Nat) (h : j ≤ xs.length) : (marked xs k j).length = xs.length := by simp [marked, marks_len]; omega
theorem marks_snoc (k : Int) (j : Nat) : marks k (j + 1) = marks k j ++ [k + j] := by
  induction j generalizing k with
  | zero => simp [marks]
  | succ j ih =>
    show k :: marks (k + 1) (j + 1) = (k :: marks (k + 1) j) ++ _
    rw [ih (k + 1), List.cons_append]
    congr 3
    omega
theorem marked_set (xs : List Int) (k : Int) (j : Nat) (h : j < xs.length) : (marked xs k j).set j (k + j) = marked xs k (j + 1) := by
  unfold marked
  rw [List.set_append_right _ _ (by rw [marks_len]; exact Nat.le_refl _), marks_len, Nat.sub_self, List.drop_eq_getElem_cons h, List.set_cons_zero, marks_snoc, List.append_assoc, List.singleton_append]
theorem marked_at (xs : List Int) (k : Int) (j : Nat) (h : j < xs.length) : (marked xs k j)[j]? = some xs[j] := by
  unfold marked
  rw [List.getElem?_append_right (by rw [marks_len]; exact Nat.le_refl _), marks_len, Nat.sub_self, List.drop_eq_getElem_cons h]
  rfl
theorem marked_all (xs : List Int) (k : Int) : marked xs k xs.length = marks k xs.length := by simp [marked]

/-- what markIntS leaves: its row turned, and nothing else -/
def Marked (v : Value) (xs : List Int) (base : Nat) (k : Int) (w : World) (e : Ending) (w' : World) : Prop :=
  e = .returned (.int .i64 (k + xs.length)) ∧ OwnI w' base v (marks k xs.length) ∧ w.grownBy w' v.ownBlock

theorem grownSet {a w : World} {g : Nat} {row : Option Nat} (h : a.grownBy w row) (hr : row = some g) (i : Nat) (u : Value) : a.grownBy (w.setCell ⟨g, i, none⟩ u) row :=
  ⟨h.os, h.tape, h.output, by simpa [World.setCell] using h.size, fun k hk hne => (Below.heap_setCell w ⟨g, i, none⟩ u k (fun e => hne (by rw [hr, e]))).trans (h.block k hk hne)⟩

set_option maxHeartbeats 1000000 in
theorem markIntS_any (w : World) (v : Value) (xs : List Int) (base : Nat) (k : Int) (hown : OwnI w base v xs) (hl : xs.length ≤ 1048577) (k1 : 0 ≤ k) (k2 : k ≤ 2097154) :
    Calls Tryz.prog 10 #[v, .int .i64 k] w (Marked v xs base k w) := by
  rcases hown.cases_ with ⟨rfl, rfl⟩ | ⟨g, c, rfl, hbg, hgw⟩
  · have Hown := Lib.hid hown
    clear hown
    go_enter Tryz.func10, Tryz.ntmps10
    go_wp2
    refine wp_loop_rounds 1 ?_
    rw [rounds_succ]
    go_wp2
    go_ret
    exact ⟨ret_int (by simp), Hown.out, World.grownBy.refl w _⟩
  · have Hown := Lib.hid hown
    clear hown
    go_enter Tryz.func10, Tryz.ntmps10
    go_wp2
    go_loopw [1, 5] (fun v1 v5 wr => ∃ j : Nat, j ≤ xs.length ∧ v1 = .int .i64 (k + j) ∧ v5 = .int .i64 j ∧ OwnI wr base (.slice (some ⟨g, 0, none⟩) xs.length c) (marked xs k j) ∧ w.grownBy wr (some g)) (fun _ v5 _ => xs.length - (intOf v5).toNat)
    case atStart => exact ⟨0, Nat.zero_le _, by simp, rfl, Hown.out, World.grownBy.refl w _⟩
    case round =>
      obtain ⟨j, hj, rfl, rfl, ho, hg⟩ := hrel
      by_cases hlt : j < xs.length
      · obtain ⟨hC, hF⟩ := ho.cell_ (marked_len xs k j hj).symm (marked_at xs k j hlt)
        have Ho := Lib.hid ho
        have Hg := Lib.hid hg
        clear ho hg
        go_wp2
        go_roundw
        case rel => exact ⟨j + 1, by omega, by go_num, by go_num, by rw [← marked_set xs k j hlt]; exact Ho.out.set_ (marked_len xs k j hj).symm j _, grownSet Hg.out rfl _ _⟩
        case measure => simp [intOf]; omega
      · obtain rfl : j = xs.length := by omega
        rw [marked_all] at ho
        have Ho := Lib.hid ho
        have Hg := Lib.hid hg
        clear ho hg
        go_wp2
        go_ret
        exact ⟨rfl, Ho.out, Hg.out⟩

set_option maxHeartbeats 1000000 in
theorem heldIntS_any (w : World) (A : Option Addr) (c : Nat) (n : Nat) (k : Int) (hr : Reads w A (marks k n)) (hl : n ≤ 1048577) (k1 : 0 ≤ k) (k2 : k ≤ 2097154) :
    Calls Tryz.prog 11 #[.slice A n c, .int .i64 k] w (RetQ (.int .i64 (k + n)) w) := by
  have Hr := Lib.hid hr
  clear hr
  go_enter Tryz.func11, Tryz.ntmps11
  go_wp2
  go_loopw [1, 5] (fun v1 v5 wr => ∃ j : Nat, j ≤ n ∧ v1 = .int .i64 (k + j) ∧ v5 = .int .i64 j ∧ ∃ m, wr = w.drewN m) (fun _ v5 _ => n - (intOf v5).toNat)
  case atStart => exact ⟨0, Nat.zero_le _, by simp, rfl, 0, rfl⟩
  case round =>
    obtain ⟨j, hj, rfl, rfl, m, rfl⟩ := hrel
    by_cases hlt : j < n
    · obtain ⟨b, o, x, rfl, hb, hx, hcell⟩ := Hr.out.at_ (k := j) (by rw [marks_len]; exact hlt)
      rw [marks_at k n j hlt] at hx
      obtain rfl : k + (j : Int) = x := by simpa using hx
      clear hx
      go_wp2
      go_roundw
      case rel => exact ⟨j + 1, by omega, by go_num, by go_num, m, rfl⟩
      case measure => simp [intOf]; omega
    · obtain rfl : j = n := by omega
      go_wp2
      go_ret
      exact ⟨rfl, m, rfl⟩
end Go.Proofs.YtbjblkfibinenadGreatDoor
