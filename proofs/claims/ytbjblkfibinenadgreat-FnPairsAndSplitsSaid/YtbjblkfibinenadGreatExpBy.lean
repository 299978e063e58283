
/-
  The contract of what every method has in common: which fractions it requires, and that its result is an expansion.
-/
import Derived.Test.YtbjblkfibinenadGreatMeth
import Derived.Test.YtbjblkfibinenadGreatSortC
import Derived.Test.YtbjblkfibinenadGreatPro
namespace Go.Proofs.YtbjblkfibinenadGreat
open Go.RowKit
open Go.Maps Go.WideMaps
/-- the terms in order, if they are an expansion -/
def exO (o : Option (List Int)) : Option (List Int) := o.bind fun xs => if expB (srt xs) = true then some (srt xs) else none
theorem exO_none : exO none = none := rfl
theorem exO_yes {xs : List Int} (h : expB (srt xs) = true) : exO (some xs) = some (srt xs) := by simp [exO, h]
theorem exO_no {xs : List Int} (h : expB (srt xs) = false) : exO (some xs) = none := by simp [exO, h]
/-- of a method: a new list of terms, if it finds one -/
def RetM (o : Option (List Int)) (w : World) (e : Ending) (w' : World) : Prop := ∃ v b, e = .returned (.tuple #[v, .bool b]) ∧ b = o.isSome ∧ (∀ xs, o = some xs → OwnI w' w.heap.size v xs) ∧ Below w.heap.size w w'
def pexO (n d : Int) (o : Option (List Int)) : Option (List Int) := if proB n d = true then exO o else none
set_option maxRecDepth 100000 in
set_option maxHeartbeats 4000000 in
theorem expandBy_any (s : ByteArray) (hs : s.size ≤ maxLen) (T K : Nat) (hD : ∀ zd, mD.atKey (.string s.data.toList) zd = .lit (.int .i64 (T : Int)))
    (n d : Int) (mo : Option (List Int)) (w : World) (rn : -9223372036854775808 ≤ n ∧ n ≤ 9223372036854775807) (rd : -9223372036854775808 ≤ d ∧ d ≤ 9223372036854775807)
    (hmeth : ∀ (j : Nat) (w : World), (method (j + 1) T (.agg #[]) "loop.example/g01107/impl.termsOf").run Tryz.prog w = .ok (K, .agg #[]) w) (hent : ∀ (args : Array Value) (w : World), Sem.run Tryz.prog (callFunc K args) w = .ok (.enter K args) w)
    (hK : proB n d = true → ∀ w, Calls Tryz.prog K #[.agg #[], .agg #[.int .i64 n, .int .i64 d]] w (RetM mo w)) (hne : ∀ xs, mo = some xs → xs ≠ [] ∧ xs.length ≤ 1000 ∧ In64 xs) :
    Calls Tryz.prog 39 #[.string s, .agg #[.int .i64 n, .int .i64 d]] w (RetLB ((pexO n d mo).getD []) (pexO n d mo).isSome w) := by
  have HD := Lib.hid hD
  have HK := Lib.hid hK
  have HN := Lib.hid hne
  have HM := Lib.hid hmeth
  have HE := Lib.hid hent
  clear hD hK hne hmeth hent
  have T0 := Lib.hid (TwoAt.new w n d 25)
  have hz : ∀ w : World, (zeroValue 70).run Tryz.prog w = .ok .nilIface w := fun w => by kernel_rfl
  go_enter Tryz.func39, Tryz.ntmps39
  go_wp2_with fail
  refine (methods_any _).mono ?_; rintro e w1 ⟨b, rfl, hm1, hb1⟩
  have hz1 := hb1.size
  simp only [World.size_alloc] at hz1
  have hlook := look_meth hm1 hs T HD.out (hz _)
  obtain ⟨t1, t2, t3, t4, t5⟩ := T0.out.below hb1
  clear hz
  cases h : proB n d with
  | false =>
    have E : Hid (pexO n d mo = none) := Lib.hid (by unfold pexO; rw [h]; rfl)
    go_wp2_with (go_at_call 35; refine (isProper_any _ _ _ rn rd).mono ?_; rintro e w2 ⟨rfl, hb2⟩; obtain ⟨hc2, hf2⟩ := bcellB hb2; have hz2 := hb2.size; (try simp only [World.size_alloc, World.size_setCell, World.size_drew, World.heap_drewN] at hc2 hf2 hz2); (try have hy2_r_0 : wr.heap.size < w2.heap.size := by omega); (try have hn2_r_0 : wr.heap.size ≠ w2.heap.size := by omega); (try have hm2_r_0 : w2.heap.size ≠ wr.heap.size := by omega); (try have hy2_r_1 : wr.heap.size + 1 < w2.heap.size := by omega); (try have hn2_r_1 : wr.heap.size + 1 ≠ w2.heap.size := by omega); (try have hm2_r_1 : w2.heap.size ≠ wr.heap.size + 1 := by omega); (try have hy2_r_2 : wr.heap.size + 1 + 1 < w2.heap.size := by omega); (try have hp2_r_1 : wr.heap.size < w2.heap.size + 1 := by omega); (try have hp2_r_2 : wr.heap.size < w2.heap.size + 1 + 1 := by omega); (try have hy2_0_0 : w.heap.size < w2.heap.size := by omega); (try have hn2_0_0 : w.heap.size ≠ w2.heap.size := by omega); (try have hm2_0_0 : w2.heap.size ≠ w.heap.size := by omega); (try have hy2_0_1 : w.heap.size + 1 < w2.heap.size := by omega); (try have hn2_0_1 : w.heap.size + 1 ≠ w2.heap.size := by omega); (try have hm2_0_1 : w2.heap.size ≠ w.heap.size + 1 := by omega); (try have hy2_0_2 : w.heap.size + 1 + 1 < w2.heap.size := by omega); (try have hp2_0_1 : w.heap.size < w2.heap.size + 1 := by omega); (try have hp2_0_2 : w.heap.size < w2.heap.size + 1 + 1 := by omega); (try have hy2_1_0 : w1.heap.size < w2.heap.size := by omega); (try have hn2_1_0 : w1.heap.size ≠ w2.heap.size := by omega); (try have hm2_1_0 : w2.heap.size ≠ w1.heap.size := by omega); (try have hy2_1_1 : w1.heap.size + 1 < w2.heap.size := by omega); (try have hn2_1_1 : w1.heap.size + 1 ≠ w2.heap.size := by omega); (try have hm2_1_1 : w2.heap.size ≠ w1.heap.size + 1 := by omega); (try have hy2_1_2 : w1.heap.size + 1 + 1 < w2.heap.size := by omega); (try have hp2_1_1 : w1.heap.size < w2.heap.size + 1 := by omega); (try have hp2_1_2 : w1.heap.size < w2.heap.size + 1 + 1 := by omega); (try have hg2_g1 : g1 < w2.heap.size := by omega); (try have hi2_g1 : g1 ≠ w2.heap.size := by omega); (try have hj2_g1 : w2.heap.size ≠ g1 := by omega); (try have hk2_g1 : g1 < w2.heap.size + 1 := by omega); (try have hg2_g2 : g2 < w2.heap.size := by omega); (try have hi2_g2 : g2 ≠ w2.heap.size := by omega); (try have hj2_g2 : w2.heap.size ≠ g2 := by omega); (try have hk2_g2 : g2 < w2.heap.size + 1 := by omega))
    go_ret2
    rw [E.out]
    exact ⟨_, rfl, OwnI.empty _ _, by (repeat' (first | (with_reducible exact Below.refl _ _) | (with_reducible assumption) | (with_reducible refine Below.drew ?_) | (with_reducible refine belowDrewN ?_ _) | (with_reducible refine Below.alloc ?_ ?_ _) | (with_reducible refine Below.setCell ?_ ?_ _) | (with_reducible refine belowStep (by assumption) ?_ ?_) | (with_reducible exact Below.size (by assumption)) | go_size))⟩
  | true =>
    have E : Hid (pexO n d mo = exO mo) := Lib.hid (by unfold pexO; rw [h]; rfl)
    have HKT := Lib.hid (HK.out h)
    go_wp2_with (go_at_call 35; refine (isProper_any _ _ _ rn rd).mono ?_; rintro e w2 ⟨rfl, hb2⟩; obtain ⟨hc2, hf2⟩ := bcellB hb2; have hz2 := hb2.size; (try simp only [World.size_alloc, World.size_setCell, World.size_drew, World.heap_drewN] at hc2 hf2 hz2); (try have hy2_r_0 : wr.heap.size < w2.heap.size := by omega); (try have hn2_r_0 : wr.heap.size ≠ w2.heap.size := by omega); (try have hm2_r_0 : w2.heap.size ≠ wr.heap.size := by omega); (try have hy2_r_1 : wr.heap.size + 1 < w2.heap.size := by omega); (try have hn2_r_1 : wr.heap.size + 1 ≠ w2.heap.size := by omega); (try have hm2_r_1 : w2.heap.size ≠ wr.heap.size + 1 := by omega); (try have hy2_r_2 : wr.heap.size + 1 + 1 < w2.heap.size := by omega); (try have hp2_r_1 : wr.heap.size < w2.heap.size + 1 := by omega); (try have hp2_r_2 : wr.heap.size < w2.heap.size + 1 + 1 := by omega); (try have hy2_0_0 : w.heap.size < w2.heap.size := by omega); (try have hn2_0_0 : w.heap.size ≠ w2.heap.size := by omega); (try have hm2_0_0 : w2.heap.size ≠ w.heap.size := by omega); (try have hy2_0_1 : w.heap.size + 1 < w2.heap.size := by omega); (try have hn2_0_1 : w.heap.size + 1 ≠ w2.heap.size := by omega); (try have hm2_0_1 : w2.heap.size ≠ w.heap.size + 1 := by omega); (try have hy2_0_2 : w.heap.size + 1 + 1 < w2.heap.size := by omega); (try have hp2_0_1 : w.heap.size < w2.heap.size + 1 := by omega); (try have hp2_0_2 : w.heap.size < w2.heap.size + 1 + 1 := by omega); (try have hy2_1_0 : w1.heap.size < w2.heap.size := by omega); (try have hn2_1_0 : w1.heap.size ≠ w2.heap.size := by omega); (try have hm2_1_0 : w2.heap.size ≠ w1.heap.size := by omega); (try have hy2_1_1 : w1.heap.size + 1 < w2.heap.size := by omega); (try have hn2_1_1 : w1.heap.size + 1 ≠ w2.heap.size := by omega); (try have hm2_1_1 : w2.heap.size ≠ w1.heap.size + 1 := by omega); (try have hy2_1_2 : w1.heap.size + 1 + 1 < w2.heap.size := by omega); (try have hp2_1_1 : w1.heap.size < w2.heap.size + 1 := by omega); (try have hp2_1_2 : w1.heap.size < w2.heap.size + 1 + 1 := by omega); (try have hg2_g1 : g1 < w2.heap.size := by omega); (try have hi2_g1 : g1 ≠ w2.heap.size := by omega); (try have hj2_g1 : w2.heap.size ≠ g1 := by omega); (try have hk2_g1 : g1 < w2.heap.size + 1 := by omega); (try have hg2_g2 : g2 < w2.heap.size := by omega); (try have hi2_g2 : g2 ≠ w2.heap.size := by omega); (try have hj2_g2 : w2.heap.size ≠ g2 := by omega); (try have hk2_g2 : g2 < w2.heap.size + 1 := by omega))
    rw [HM.out, Result.andThen_ok, HE.out, Oper.upon_enter]
    refine (HKT.out _).mono ?_; rintro e w3 ⟨v3, b3, rfl, hb, ho3, hb3⟩
    have hz3 := hb3.size
    cases hmo : mo with
    | none =>
      rw [hmo] at hb
      subst hb
      have E2 : Hid (pexO n d mo = none) := Lib.hid (by rw [E.out, hmo]; rfl)
      go_wp2
      go_ret2
      rw [E2.out]
      exact ⟨_, rfl, OwnI.empty _ _, by (repeat' (first | (with_reducible exact Below.refl _ _) | (with_reducible assumption) | (with_reducible refine Below.drew ?_) | (with_reducible refine belowDrewN ?_ _) | (with_reducible refine Below.alloc ?_ ?_ _) | (with_reducible refine Below.setCell ?_ ?_ _) | (with_reducible refine belowStep (by assumption) ?_ ?_) | (with_reducible exact Below.size (by assumption)) | go_size))⟩
    | some xs =>
      rw [hmo] at hb
      subst hb
      obtain ⟨n0, nl, n64⟩ := HN.out xs hmo
      have Ho3 := Lib.hid (ho3 xs hmo)
      have E2 : Hid (pexO n d mo = exO (some xs)) := Lib.hid (by rw [← hmo]; exact E.out)
      clear ho3
      go_wp2_with fail
      refine (sort_own _ w2.heap.size v3 xs Ho3.out n0 (by omega)).mono ?_; rintro e w4 ⟨rfl, ho4, hg4⟩
      have hb4 : Below w2.heap.size w3 w4 := belowOf hg4 hb3.size (fun k hk => (Ho3.out.block k hk).1)
      have hz4 := hg4.size
      obtain ⟨A4, c4, rfl, hr4⟩ := ho4.form
      have hl4 : (srt xs).length ≤ 1000 := by rw [srt_len]; omega
      have H64 := Lib.hid (srt_64 n64)
      have Ho4 := Lib.hid ho4
      have Hr4 := Lib.hid hr4
      clear ho4 hr4 n64
      cases hx : expB (srt xs) with
      | true =>
        have E3 := Lib.hid (exO_yes hx)
        go_wp2_with fail
        refine (ifExp_yes _ A4 c4 (srt xs) Hr4.out (by omega) H64.out hx).mono ?_; rintro e w5 ⟨rfl, hb5⟩
        have hz5 := hb5.size
        go_wp2
        go_ret2
        rw [E2.out, E3.out]
        exact ⟨_, rfl, (Ho4.out.below hb5).mono (by (first | (go_size; done) | ((try simp only [World.size_alloc, World.size_setCell, World.size_drew, World.heap_drewN]); omega))), by (repeat' (first | (with_reducible exact Below.refl _ _) | (with_reducible assumption) | (with_reducible refine Below.drew ?_) | (with_reducible refine belowDrewN ?_ _) | (with_reducible refine Below.alloc ?_ ?_ _) | (with_reducible refine Below.setCell ?_ ?_ _) | (with_reducible refine belowStep (by assumption) ?_ ?_) | (with_reducible exact Below.size (by assumption)) | go_size))⟩
      | false =>
        have E3 := Lib.hid (exO_no hx)
        go_wp2_with fail
        refine (ifExp_no _ A4 c4 (srt xs) Hr4.out (by omega) H64.out hx).mono ?_; rintro e w5 ⟨rfl, hb5⟩
        have hz5 := hb5.size
        go_wp2
        go_ret2
        rw [E2.out, E3.out]
        exact ⟨_, rfl, OwnI.empty _ _, by (repeat' (first | (with_reducible exact Below.refl _ _) | (with_reducible assumption) | (with_reducible refine Below.drew ?_) | (with_reducible refine belowDrewN ?_ _) | (with_reducible refine Below.alloc ?_ ?_ _) | (with_reducible refine Below.setCell ?_ ?_ _) | (with_reducible refine belowStep (by assumption) ?_ ?_) | (with_reducible exact Below.size (by assumption)) | go_size))⟩
end Go.Proofs.YtbjblkfibinenadGreat
