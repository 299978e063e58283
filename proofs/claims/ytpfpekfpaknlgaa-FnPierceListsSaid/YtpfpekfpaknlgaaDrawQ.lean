
/-
  The contract of the draw of a list for the laws on Pierce lists.
-/
import Derived.Test.YtpfpekfpaknlgaaDrawP
import Derived.Test.YtpfpekfpaknlgaaStepL
namespace Go.Proofs.Ytpfpekfpaknlgaa
open Go.RowKit
/-- a list has been drawn -/
def DrawnR (w : World) (e : Ending) (w' : World) : Prop := ∃ A c zs, e = .returned (.slice A (List.length zs) c) ∧ Reads w' A zs ∧ zs.length ≤ 40 ∧ (∀ z ∈ zs, -9223372036854775808 ≤ z ∧ z ≤ 9223372036854775807) ∧ Below w.heap.size w w'
theorem pieO_64 {n d : Int} {xs : List Int} (h : pieO n d = some xs) : xs.length ≤ 24 ∧ ∀ z ∈ xs, -9223372036854775808 ≤ z ∧ z ≤ 9223372036854775807 := by
  unfold pieO at h
  split at h
  · obtain ⟨es, _, _, hk⟩ := lstO_some h
    obtain ⟨h1, h2, _⟩ := pieB_parts hk
    exact ⟨h1, fun z hz => by have := up_in (by omega) h2 z hz; omega⟩
  · cases h
set_option maxRecDepth 100000 in
set_option maxHeartbeats 4000000 in
theorem drawFromPierce_any (w : World) (A : Option Addr) (n c : Nat) (hr : ReadsB w A n) (hn : n ≤ 1048576) : Calls Try.prog 25 #[.slice A n c] w (DrawnR w) := by
  have HC0 := Lib.hid (beginP w A n c 60 hr hn)
  clear hr
  go_enter Try.func25, Try.ntmps25
  go_wp2_with fail
  refine (oneP_any w _ w.heap.size 0 (by omega) _ (by omega) HC0.out).mono ?_; rintro e w1 ⟨o, rfl, hc1, hg1⟩
  have HC1 := Lib.hid hc1
  have hz1 := hg1.size
  simp only [World.size_alloc] at hz1
  clear hc1 hg1
  cases o with
  | true =>
    go_wp2_with fail
    refine (proper_any w _ w.heap.size 2 (by omega) HC1.out).mono ?_; rintro e w2 ⟨a, b, rfl, ha, hb, hc2, hg2⟩
    have HC2 := Lib.hid hc2
    have hz2 := hg2.size
    clear hc2 hg2
    go_wp2_with fail
    refine (spec_pierceOf_any a b _).mono ?_; rintro e w3 ⟨A3, c3, rfl, hr3, hb3⟩; have hz3 := hb3.size; (try simp only [World.size_alloc, World.size_setCell, World.size_drew, World.heap_drewN] at hz3)
    have HC3 := Lib.hid (HC2.out.below hb3)
    have hbs := HC3.out.base.2.2
    cases hE : pieO a b with
    | some xs =>
      have E := Lib.hid (pieO_64 hE)
      rw [hE] at hr3
      have HR := Lib.hid (show Reads w3 A3 xs from hr3)
      clear hr3
      go_wp2
      go_ret
      exact ⟨A3, c3, xs, rfl, HR.out, by have := E.out.1; omega, E.out.2, hbs⟩
    | none =>
      clear hr3 hbs
      go_wp2_with fail
      refine (numbers_any w _ w.heap.size 32 (by omega) HC3.out).mono ?_; rintro e w4 ⟨v, zs, rfl, ho, hl, h64, hc4, hg4⟩
      have hbs := hc4.base.2.2
      obtain ⟨A4, c4, rfl, hr4⟩ := ho.form
      clear hc4 hg4 ho
      go_wp2
      go_ret
      exact ⟨A4, c4, zs, rfl, hr4, hl, h64, hbs⟩
  | false =>
    go_wp2_with fail
    refine (numbers_any w _ w.heap.size 2 (by omega) HC1.out).mono ?_; rintro e w4 ⟨v, zs, rfl, ho, hl, h64, hc4, hg4⟩
    have hbs := hc4.base.2.2
    obtain ⟨A4, c4, rfl, hr4⟩ := ho.form
    clear hc4 hg4 ho
    go_wp2
    go_ret
    exact ⟨A4, c4, zs, rfl, hr4, hl, h64, hbs⟩
end Go.Proofs.Ytpfpekfpaknlgaa
