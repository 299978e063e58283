
/-
  The contract of the draw of two fractions.
-/
import Derived.Test.YtfcklhppemidhaaSplitsD
namespace Go.Proofs.Ytfcklhppemidhaa
open Go.RowKit
def DrawFF (w : World) (e : Ending) (w' : World) : Prop := ∃ n d m k : Int, e = .returned (.tuple #[.agg #[.int .i64 n, .int .i64 d], .agg #[.int .i64 m, .int .i64 k]]) ∧ (-9223372036854775808 ≤ n ∧ n ≤ 9223372036854775807) ∧ (-9223372036854775808 ≤ d ∧ d ≤ 9223372036854775807) ∧ (-9223372036854775808 ≤ m ∧ m ≤ 9223372036854775807) ∧ (-9223372036854775808 ≤ k ∧ k ≤ 9223372036854775807) ∧ Below w.heap.size w w'
set_option maxHeartbeats 4000000 in
theorem drawAdd_any (w : World) (A : Option Addr) (n c : Nat) (hr : ReadsB w A n) (hn : n ≤ 1048576) : Calls Try.prog 5 #[.slice A n c] w (DrawFF w) := by
  have HC0 := Lib.hid (Cur.start ((w.alloc (.cells #[.int .i64 0, .int .i64 0] 25)).alloc (.cells #[.int .i64 0, .int .i64 0] 25)) A n c 36 ((hr.below ((Below.refl _ _).alloc (Nat.le_refl _) _)).below ((Below.refl _ _).alloc (Nat.le_refl _) _)) hn)
  have TA := Lib.hid (((TwoAt.new w 0 0 25).below ((Below.refl _ _).alloc (Nat.le_refl _) (.cells #[.int .i64 0, .int .i64 0] 25))).below ((Below.refl _ _).alloc (Nat.le_refl _) (.cells #[.slice A n c, .int .i64 0, .int .u64 0] 36)))
  have TB := Lib.hid ((TwoAt.new (w.alloc (.cells #[.int .i64 0, .int .i64 0] 25)) 0 0 25).below ((Below.refl _ _).alloc (Nat.le_refl _) (.cells #[.slice A n c, .int .i64 0, .int .u64 0] 36)))
  simp only [World.size_alloc] at HC0 TB
  clear hr
  go_enter Try.func5, Try.ntmps5
  go_wp2_with fail
  refine (fraction_any _ _ (w.heap.size + 1 + 1) 0 (by omega) HC0.out).mono ?_; rintro e w1 ⟨a, b, rfl, ha, hb, hc1, hg1⟩
  have HC1 := Lib.hid hc1
  have TA1 := Lib.hid (TA.out.grown hg1 (by omega))
  have TB1 := Lib.hid (TB.out.grown hg1 (by omega))
  have hz1 := hg1.size
  simp only [World.size_alloc] at hz1
  clear hc1 hg1
  go_wp2_with fail
  refine (fraction_any _ _ (w.heap.size + 1 + 1) 20 (by omega) HC1.out).mono ?_; rintro e w2 ⟨a', b', rfl, ha', hb', hc2, hg2⟩
  have Hb2 := Lib.hid hc2.base.2.2
  obtain ⟨t1, t2, t3, t4, t5⟩ := TA1.out.grown hg2 (by omega)
  obtain ⟨u1, u2, u3, u4, u5⟩ := TB1.out.grown hg2 (by omega)
  have hz2 := hg2.size
  clear hc2 hg2
  go_wp2
  refine bodyPost_ret (by simp [results, Try.results5, go_sem, *]; try rfl) rfl ?_
  have hB2 : Below w.heap.size w w2 := belowStep Hb2.out (by (first | (go_size; done) | ((try simp only [World.size_alloc, World.size_setCell, World.size_drew, World.heap_drewN]); omega))) (by (repeat' (first | (with_reducible exact Below.refl _ _) | (with_reducible assumption) | (with_reducible refine Below.drew ?_) | (with_reducible refine belowDrewN ?_ _) | (with_reducible refine Below.alloc ?_ ?_ _) | (with_reducible refine Below.setCell ?_ ?_ _) | (with_reducible refine belowStep (by assumption) ?_ ?_) | (with_reducible exact Below.size (by assumption)) | go_size)))
  exact ⟨a, b, a', b', rfl, ha, hb, ha', hb', by (repeat' (first | (with_reducible exact Below.refl _ _) | (with_reducible assumption) | (with_reducible refine Below.drew ?_) | (with_reducible refine belowDrewN ?_ _) | (with_reducible refine Below.alloc ?_ ?_ _) | (with_reducible refine Below.setCell ?_ ?_ _) | (with_reducible refine belowStep (by assumption) ?_ ?_) | (with_reducible exact Below.size (by assumption)) | go_size))⟩
end Go.Proofs.Ytfcklhppemidhaa
