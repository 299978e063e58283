
/-
  For all bytes: a fraction is drawn; its parts by a power of 2 are the model's and make it, and the terms are those of their digits, with the fraction as their sum and with a bound. No condition.
-/
import Derived.Test.YtocnjfbcblbjeacLawK
import Derived.Test.YtocnjfbcblbjeacBinX
import Derived.Test.YtocnjfbcblbjeacBinSum
import Derived.Test.YtocnjfbcblbjeacShell
import Derived.Test.YtocnjfbcblbjeacSame
namespace Go.Proofs.Ytocnjfbcblbjeac
open Go.ChangeShapes Go.WideShapes Go.ChangeAt Go.RowKit Go.Joins Go.Deep
set_option maxRecDepth 100000 in
set_option maxHeartbeats 32000000 in
theorem FnBinaryMethod_walk (w : World) (A : Option Addr) (c n : Nat) (B : Option Addr) (d m' : Nat) (hA : ReadsB w A n ∧ n ≤ 9223372036854775807) (hB : ReadsB w B m' ∧ m' ≤ 9223372036854775807) :
    Calls Try.prog 10 #[.slice A n c, .slice B m' d] w (Ret (.bool true) w) := by
  obtain ⟨hA, hn⟩ := hA
  obtain ⟨hB, hm'⟩ := hB
  have HA := Lib.hid hA
  clear hA hB
  cases hbig : bigB n m' with
  | true =>
    go_enter Try.func10, Try.ntmps10
    go_wp2_with fail
    refine (big_any _ _ _ _ _ _ _ hn hm').mono ?_; rintro e w1 ⟨rfl, k1, rfl⟩
    go_wp2
    go_ret
    exact ⟨rfl, by (repeat' (first | (with_reducible exact Below.refl _ _) | (with_reducible assumption) | (with_reducible refine Below.drew ?_) | (with_reducible refine belowDrewN ?_ _) | (with_reducible refine Below.alloc ?_ ?_ _) | (with_reducible refine Below.setCell ?_ ?_ _) | (with_reducible refine belowStep (by assumption) ?_ ?_) | (with_reducible exact Below.size (by assumption)) | go_size))⟩
  | false =>
    have hn2 : n ≤ 1048576 := by
      simp only [bigB, Bool.or_eq_false_iff, decide_eq_false_iff_not] at hbig
      omega
    go_enter Try.func10, Try.ntmps10
    go_wp2_with fail
    refine (big_any _ _ _ _ _ _ _ hn hm').mono ?_; rintro e w1 ⟨rfl, k1, rfl⟩
    go_wp2_with fail
    refine (drawBinary_any _ A n c (HA.out.below (by (repeat' (first | (with_reducible exact Below.refl _ _) | (with_reducible assumption) | (with_reducible refine Below.drew ?_) | (with_reducible refine belowDrewN ?_ _) | (with_reducible refine Below.alloc ?_ ?_ _) | (with_reducible refine Below.setCell ?_ ?_ _) | (with_reducible refine belowStep (by assumption) ?_ ?_) | (with_reducible exact Below.size (by assumption)) | go_size)))) hn2).mono ?_; rintro e w2 ⟨a, b, rfl, ha, hb, hb2⟩
    have hz2 := hb2.size
    (try simp only [World.heap_drewN] at hz2)
    clear hbig
    have TG := Lib.hid (TwoAt.new w2 (a) (b) 25)
    obtain ⟨oG1, oG2, oG3, oG4, oG5⟩ := TG.out
    go_wp2_with fail
    refine (binaryParts_any a b _ ha hb).mono ?_; rintro e w3 ⟨rfl, hb3⟩; have hz3 := hb3.size; (try simp only [World.size_alloc, World.size_setCell, World.size_drew, World.heap_drewN] at hz3)
    clear oG1 oG2 oG3 oG4 oG5
    have TG := Lib.hid (TG.out.below hb3)
    obtain ⟨oG1, oG2, oG3, oG4, oG5⟩ := TG.out
    go_wp2_with fail
    refine (spec_binaryParts_any a b _).mono ?_; rintro e w4 ⟨rfl, hb4⟩; have hz4 := hb4.size; (try simp only [World.size_alloc, World.size_setCell, World.size_drew, World.heap_drewN] at hz4)
    clear oG1 oG2 oG3 oG4 oG5
    have TG := Lib.hid (TG.out.below hb4)
    obtain ⟨oG1, oG2, oG3, oG4, oG5⟩ := TG.out
    go_wp2_with fail
    refine (binaryExp_any a b _ ha hb).mono ?_; rintro e w5 ⟨v5, rfl, ho5, hb5⟩; have hz5 := hb5.size; (try simp only [World.size_alloc, World.size_setCell, World.size_drew, World.heap_drewN] at hz5)
    clear oG1 oG2 oG3 oG4 oG5
    have TG := Lib.hid (TG.out.below hb5)
    obtain ⟨A5, c5, rfl, hr5⟩ := ho5.form
    have HR5 := Lib.hid hr5
    clear ho5 hr5
    obtain ⟨oG1, oG2, oG3, oG4, oG5⟩ := TG.out
    go_wp2_with fail
    refine (spec_binaryExp_any a b _).mono ?_; rintro e w6 ⟨A6, c6, rfl, hr6, hb6⟩; have hz6 := hb6.size; (try simp only [World.size_alloc, World.size_setCell, World.size_drew, World.heap_drewN] at hz6)
    clear oG1 oG2 oG3 oG4 oG5
    have TG := Lib.hid (TG.out.below hb6)
    have HR6 := Lib.hid hr6
    have HR5 := Lib.hid (HR5.out.below hb6)
    have hxl := bxO_len a b
    clear hr6
    obtain ⟨oG1, oG2, oG3, oG4, oG5⟩ := TG.out
    go_wp2_with fail
    refine ((pSame_same _ _ _ _ _ _ HR5.out HR6.out (by omega)).mono fun _ _ h => h.ret).mono ?_; rintro e w7 ⟨rfl, hb7⟩
    have hz7 := hb7.size
    clear oG1 oG2 oG3 oG4 oG5
    have TG := Lib.hid (TG.out.below hb7)
    have HR7 := Lib.hid (HR5.out.below hb7)
    have hbw7 : Below w.heap.size w w7 := by (repeat' (first | (with_reducible exact Below.refl _ _) | (with_reducible assumption) | (with_reducible refine Below.drew ?_) | (with_reducible refine belowDrewN ?_ _) | (with_reducible refine Below.alloc ?_ ?_ _) | (with_reducible refine Below.setCell ?_ ?_ _) | (with_reducible refine belowStep (by assumption) ?_ ?_) | (with_reducible exact Below.size (by assumption)) | go_size))
    clear HR6 HR5
    obtain ⟨oG1, oG2, oG3, oG4, oG5⟩ := TG.out
    cases hp : proB a b with
    | false =>
      go_wp2
      go_ret
      exact ⟨rfl, hbw7⟩
    | true =>
      obtain ⟨a1, a2, b1, b2, hab, hgo, _, _⟩ := proB_bounds hp
      obtain ⟨J, BS⟩ := binS hp
      obtain ⟨e1, e2, e3⟩ := bpR_yes hp
      rw [e1, e2, e3]
      have HE := Lib.hid fun (h : expB (srt (bL a b)) = true) => bL_exp hp h
      have HL := Lib.hid (bL_len a b)
      have HLe := Lib.hid (bL_le hp)
      have HF := Lib.hid (bL_facts hp)
      have HX : Hid (bxO a b = if expB (srt (bL a b)) = true then some (srt (bL a b)) else none) := Lib.hid (by rw [bxO_some hp, putAll_srt (bL_facts hp).2.2.2])
      have N1 := BS.N1
      have N2 := BS.N2
      have dN := BS.dN
      have s0 := BS.s0
      have s1 := BS.s1
      have r0 := BS.r0
      have r1 := BS.r1
      have he := BS.e
      have hJ := BS.J31
      have hNJ := BS.N
      have hN31 : p2 b ≤ 2147483648 := by rw [hNJ]; exact pow_le31 hJ
      have hm1 := Int.mul_le_mul a2 (show p2 b ≤ 2000000000 by omega) (by omega) (by omega : (0 : Int) ≤ 1000000000)
      have hm2 := Int.mul_le_mul b2 (show p2 b ≤ 2000000000 by omega) (by omega) (by omega : (0 : Int) ≤ 1000000000)
      have hm3 := mul_pos1 a1 N1
      have hm4 := Int.mul_nonneg (show 0 ≤ b by omega) s0
      have hm5 := mul_pos1 (show 1 ≤ b by omega) N1
      clear e1 e2 e3 BS hNJ
      generalize a * p2 b / b = s at *
      generalize a * p2 b % b = r at *
      generalize p2 b = P at *
      have hq : (a * P != b * s + r) = false := by simp [he]
      cases hx : expB (srt (bL a b)) with
      | false =>
        have HX2 : Hid (bxO a b = none) := Lib.hid (by rw [HX.out, hx]; rfl)
        rw [HX2.out]
        go_wp2
        go_ret
        exact ⟨rfl, hbw7⟩
      | true =>
        have HX2 : Hid (bxO a b = some (srt (bL a b))) := Lib.hid (by rw [HX.out, hx]; rfl)
        rw [HX2.out] at HR7 ⊢
        obtain ⟨eN1, eD1⟩ := HE.out hx
        have hl := srt_len (bL a b)
        have hlen0 := HL.out
        rw [← hl] at hlen0
        have hle : ∀ x ∈ srt (bL a b), x ≤ b * P := fun x hx => HLe.out x (srt_mem.1 hx)
        have hpos : 1 ≤ (srt (bL a b)).length := by
          rw [hl]
          have := HF.out.1
          cases hb : bL a b with
          | nil => exact absurd hb this
          | cons _ _ => simp
        have h64 : In64 (srt (bL a b)) := In64.of_mem fun x hx => by have := expB_small (by assumption) x hx; omega
        have hl24 := expB_len hx
        have HR7' : Hid (Reads w7 A5 (srt (bL a b))) := HR7
        simp only [Option.getD_some, Option.isSome_some]
        generalize srt (bL a b) = xs at *
        have HS := Lib.hid fun (w : World) (h : Reads w A5 xs) => pSums_yes w a b A5 c5 xs h (by omega) h64 hx eN1 eD1
        have Hle := Lib.hid hle
        have pcs := pc_in 31 s
        have pcr := pc_in 31 r
        clear hle h64 eN1 eD1 hl HR7 hxl
        generalize hcs : pc 31 s = cs at *
        generalize hcr : pc 31 r = cr at *
        have HCS := Lib.hid hcs
        have HCR := Lib.hid hcr
        have Hlen := Lib.hid hlen0
        clear hcs hcr hlen0
        go_wp2
        go_loopw [18, 19] (fun v18 v19 wr => ∃ (k : Nat) (m dg : Int), v18 = .int .i64 dg ∧ v19 = .int .i64 m ∧ 0 ≤ m ∧ m < 2 ^ k ∧ k ≤ 31 ∧ 0 ≤ dg ∧ dg + k ≤ 31 ∧ dg + pc k m = cs ∧ Below w7.heap.size w7 wr) (fun _ v19 _ => (intOf v19).toNat)
        case atStart => exact ⟨31, s, 0, rfl, rfl, s0, by rw [pow_31]; omega, Nat.le_refl _, by omega, by omega, by rw [HCS.out]; omega, by (repeat' (first | (with_reducible exact Below.refl _ _) | (with_reducible assumption) | (with_reducible refine Below.drew ?_) | (with_reducible refine belowDrewN ?_ _) | (with_reducible refine Below.alloc ?_ ?_ _) | (with_reducible refine Below.setCell ?_ ?_ _) | (with_reducible refine belowStep (by assumption) ?_ ?_) | (with_reducible exact Below.size (by assumption)) | go_size))⟩
        case round =>
          obtain ⟨k, m, dg, rfl, rfl, m0, m1, k31, g0, g1, hc, hbr⟩ := hrel
          have hm31 := pow_le31 k31
          by_cases hm : 0 < m
          · obtain ⟨k, rfl⟩ : ∃ j, k = j + 1 := by
              cases k with
              | zero => simp at m1; omega
              | succ j => exact ⟨j, rfl⟩
            rw [pc_more hm] at hc
            have hp2 : (2 : Int) ^ (k + 1) = 2 ^ k * 2 := Int.pow_succ _ _
            have Hc := Lib.hid hc
            clear hc
            go_wp2
            go_roundw
            case rel => exact ⟨k, _, _, rfl, rfl, by omega, by omega, by omega, by omega, by omega, by have := Hc.out; omega, hbr⟩
            case measure => simp [intOf]; omega
          · rw [pc_end (by omega)] at hc
            have hdg : dg = cs := by omega
            subst hdg
            clear hc
            go_wp2
            go_loopw [18, 20] (fun v18 v20 wq => ∃ (k : Nat) (m dh : Int), v18 = .int .i64 dh ∧ v20 = .int .i64 m ∧ 0 ≤ m ∧ m < 2 ^ k ∧ k ≤ 31 ∧ 0 ≤ dh ∧ dh + k ≤ 62 ∧ dh + pc k m = dg + cr ∧ Below w7.heap.size w7 wq) (fun _ v20 _ => (intOf v20).toNat)
            case atStart => exact ⟨31, r, dg, rfl, rfl, r0, by rw [pow_31]; omega, Nat.le_refl _, by omega, by omega, by rw [HCR.out], hbr⟩
            case round =>
              obtain ⟨k, m, dh, rfl, rfl, m0, m1, k31, g0', g1', hc, hbq⟩ := hrel
              have hm31 := pow_le31 k31
              by_cases hm : 0 < m
              · obtain ⟨k, rfl⟩ : ∃ j, k = j + 1 := by
                  cases k with
                  | zero => simp at m1; omega
                  | succ j => exact ⟨j, rfl⟩
                rw [pc_more hm] at hc
                have hp2 : (2 : Int) ^ (k + 1) = 2 ^ k * 2 := Int.pow_succ _ _
                have Hc := Lib.hid hc
                clear hc
                go_wp2
                go_roundw
                case rel => exact ⟨k, _, _, rfl, rfl, by omega, by omega, by omega, by omega, by omega, by have := Hc.out; omega, hbq⟩
                case measure => simp [intOf]; omega
              · rw [pc_end (by omega)] at hc
                have hdh : dh = ((xs.length : Nat) : Int) := by have := Hlen.out; omega
                subst hdh
                clear hc
                have TQ := Lib.hid (TG.out.below hbq)
                have HRQ := Lib.hid (HR7'.out.below hbq)
                have hzq := hbq.size
                clear oG1 oG2 oG3 oG4 oG5
                obtain ⟨q1, q2, q3, q4, q5⟩ := TQ.out
                obtain ⟨jj, hj1, hj2⟩ : ∃ jj : Nat, jj + 1 ≤ xs.length ∧ xs.length ≤ jj + 1 := ⟨xs.length - 1, by omega, by omega⟩
                have hidx : ((xs.length : Nat) : Int) - 1 = (jj : Int) := by omega
                have hjl : (jj : Int) < ((xs.length : Nat) : Int) := by omega
                obtain ⟨bb, oo, z, rfl, hbb, hz, hcz⟩ := HRQ.out.at_ (k := jj) (by omega)
                have hzle := Hle.out z (List.mem_of_getElem? hz)
                clear hz
                have hidw : IntKind.i64.wrap (((xs.length : Nat) : Int) - 1) = (jj : Int) := by rw [hidx]; exact IntWalk.i64_in _ (by omega)
                have hjw : IntKind.i64.wrap (jj : Int) = (jj : Int) := IntWalk.i64_in _ (by omega)
                have hj0 : (0 : Int) ≤ (jj : Int) := by omega
                have hjn : jj < xs.length := by omega
                have hbp : IntKind.i64.wrap (b * P) = b * P := IntWalk.i64_in _ (by omega)
                have hlq : (((xs.length : Nat) : Int) == ((xs.length : Nat) : Int)) = true := by simp
                have hzd : decide (z ≤ b * P) = true := decide_eq_true hzle
                have HC : Hid (∀ w' : World, Below wr.heap.size wr w' → w'.cell? ⟨bb, oo + jj, none⟩ = some (.int .i64 z) ∧ w'.cell? ⟨w2.heap.size, 0, none⟩ = some (.int .i64 a) ∧ w'.cell? ⟨w2.heap.size, 1, none⟩ = some (.int .i64 b)) := Lib.hid fun w' h => ⟨(h.cell (p := ⟨bb, oo + jj, none⟩) hbb).trans hcz, (h.cell (p := ⟨w2.heap.size, 0, none⟩) q5).trans q1, (h.cell (p := ⟨w2.heap.size, 1, none⟩) q5).trans q2⟩
                have HRX := Lib.hid fun (w' : World) (h : Below wr.heap.size wr w') => HS.out w' (HRQ.out.below h)
                clear HS HRQ TQ HLe HL HF HE HX HX2 HCS HCR Hlen Hle HR7'
                go_wp2_with fail
                go_region_held3 (fun w' => w'.cell? ⟨bb, oo + jj, none⟩ = some (.int .i64 z) ∧ w'.cell? ⟨w2.heap.size, 0, none⟩ = some (.int .i64 a) ∧ w'.cell? ⟨w2.heap.size, 1, none⟩ = some (.int .i64 b)) (exact HC.out _ (by (repeat' (first | (with_reducible exact Below.refl _ _) | (with_reducible assumption) | (with_reducible refine Below.drew ?_) | (with_reducible refine belowDrewN ?_ _) | (with_reducible refine Below.alloc ?_ ?_ _) | (with_reducible refine Below.setCell ?_ ?_ _) | (with_reducible refine belowStep (by assumption) ?_ ?_) | (with_reducible exact Below.size (by assumption)) | go_size)))) (first | (go_at_call 17; refine (HRX.out _ (by (repeat' (first | (with_reducible exact Below.refl _ _) | (with_reducible assumption) | (with_reducible refine Below.drew ?_) | (with_reducible refine belowDrewN ?_ _) | (with_reducible refine Below.alloc ?_ ?_ _) | (with_reducible refine Below.setCell ?_ ?_ _) | (with_reducible refine belowStep (by assumption) ?_ ?_) | (with_reducible exact Below.size (by assumption)) | go_size)))).mono ?_; rintro e w8 ⟨rfl, hb8⟩))
                all_goals
                  go_wp2
                  go_ret
                  exact ⟨rfl, by (repeat' (first | (with_reducible exact Below.refl _ _) | (with_reducible assumption) | (with_reducible refine Below.drew ?_) | (with_reducible refine belowDrewN ?_ _) | (with_reducible refine Below.alloc ?_ ?_ _) | (with_reducible refine Below.setCell ?_ ?_ _) | (with_reducible refine belowStep (by assumption) ?_ ?_) | (with_reducible exact Below.size (by assumption)) | go_size))⟩

set_option maxRecDepth 100000 in
theorem FnBinaryMethod_lifted (os : Os) (started : os.Started) (H : Type) (enc : TypeId × Value → H) :
    ReturnsInHanded {} Try.checked os 10 .any (Rows.fnBinaryMethodSpec.pre6 enc Try.prog Try.f10 Rows.fnBinaryMethodRow.domain false) (Rows.fnBinaryMethodSpec.post enc Try.prog Try.f10 false true false false) := by
  refine returnsInHanded_of_change (C := Try.checked) own started (by kernel_rfl) Try.func10
    (ChangeSpec.witness6 (enc := enc) (C := Try.checked) false ⟨#[], #[.slice none 0 0, .slice none 0 0], []⟩ 8 (by kernel_rfl) (by kernel_rfl) (by kernel_rfl) (by kernel_rfl)) ?_
  intro W base args ds gs before hval0 hW hcnd _
  have hval : ∀ (j : Nat) t v, Try.f10.params[j]? = some t → args[j]? = some v → Value.okWide Try.prog W .any base t v := hval0
  have hW' := hW
  have hlt : ∀ p ∈ before, p.block < W.heap.size := fun p hp => hW'.lt p hp
  obtain ⟨p, q, hA0, hV, rfl, hfz, hnd⟩ := hW
  have hA : DataW.TrodAll enc Try.prog W 0 (fun _ => true) true Try.f10.params.toList args.toList ds p := hA0
  rw [Try.params10] at hA hval
  obtain ⟨v0, vs0, d0, ds0, p0, q0, hargs, rfl, rfl, h0, r0⟩ := trodAll_cons hA
  obtain ⟨v1, vs1, d1, ds1, p1, q1, rfl, rfl, rfl, h1, r1⟩ := trodAll_cons r0
  obtain ⟨rfl, rfl, rfl⟩ := trodAll_nil r1
  obtain rfl : args = #[v0, v1] := by cases args; simp_all
  obtain ⟨rfl, rfl⟩ := trodVars_none hV
  obtain ⟨Aa, ca, na, rfl, ha⟩ := open_bytes_reads Try.underlying22 Try.underlying5 (by kernel_rfl) (hval 0 22 v0 rfl rfl) h0 (fun y hy => hlt y (by simp [hy]))
  obtain ⟨Ab, cb, nb, rfl, hb⟩ := open_bytes_reads Try.underlying22 Try.underlying5 (by kernel_rfl) (hval 1 22 v1 rfl rfl) h1 (fun y hy => hlt y (by simp [hy]))
  refine (FnBinaryMethod_walk W Aa ca na Ab cb nb ha hb).mono fun e W' ⟨he, hg⟩ => ?_
  subst he
  exact ⟨_, rfl, law_post laidOut (by rw [Try.params10]; intro t ht; simp only [List.mem_cons, List.not_mem_nil, or_false] at ht; rcases ht with rfl | rfl <;> exact ⟨by kernel_rfl, of_decide_eq_true (by kernel_rfl)⟩) (by kernel_rfl) Try.underlying4 rfl hW' rfl hg⟩

theorem FnBinaryMethod_closed : joinedFacts Try.prog 10 Try.f10 Rows.fnBinaryMethodSpec Rows.fnBinaryMethodRow = true := by
  unfold joinedFacts
  rw [mayEnter_eq, lifts_eq, make_eq]
  kernel_rfl

theorem FnBinaryMethod_holds : Rows.FnBinaryMethodSaid :=
  OpenClaim.holds_of_wide 10 Try.f10 rfl rfl rfl rfl rfl rfl rfl ⟨rfl, rfl, rfl, rfl, rfl⟩ rfl rfl rfl rfl rfl (by kernel_rfl) Try.func10 FnBinaryMethod_closed
    (of_decide_eq_true (by kernel_rfl)) (by unfold Func.isWrapper; first | (rw [if_pos (by decide +kernel)]; kernel_rfl) | (rw [if_neg (by decide +kernel)]; exact ⟨rfl, rfl⟩))
    (fun os started H enc _ => FnBinaryMethod_lifted os started H enc)

end Go.Proofs.Ytocnjfbcblbjeac
