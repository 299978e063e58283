
/-
  Contract of what is reached, in a map of chains of divisors.
-/
import Derived.Test.YtbjblkfibinenadReaP
import Derived.Test.YtbjblkfibinenadRchC
import Derived.Test.YtbjblkfibinenadDivS
import Derived.Test.YtbjblkfibinenadDraw
import Derived.Ground.SlmcProg
import Derived.Shelf.SlGeneric
import Derived.Shelf.SlMaps.Clone
namespace Go.Proofs.Ytbjblkfibinenad
/-- how a chain's pointer reads: as its block's number -/
def RQ (v : Value) : Option (DataW Unit × List MemPlace) := match v with
  | .pointer none => some (.lit (.int .i64 (-1)), [])
  | .pointer (some ⟨g, 0, none⟩) => some (.lit (.int .i64 (g : Int)), [])
  | _ => none
theorem zeroRQ : RQ (.pointer none) = some (.lit (.int .i64 (-1)), []) := rfl
theorem RQ_mk (g : Nat) : RQ (.pointer (some ⟨g, 0, none⟩)) = some (.lit (.int .i64 (g : Int)), []) := rfl
theorem RQ_inj : ∀ v v' dt ps ps', RQ v = some (dt, ps) → RQ v' = some (dt, ps') → v = v' := by
  intro v v' dt ps ps' h h'
  unfold RQ at h h'
  split at h
  · split at h'
    · rfl
    · rename_i g
      injection h with h
      injection h' with h'
      injection h with h _
      injection h' with h' _
      rw [← h] at h'
      injection h' with h'
      injection h' with _ h'
      omega
    · cases h'
  · rename_i g
    split at h'
    · injection h with h
      injection h' with h'
      injection h with h _
      injection h' with h' _
      rw [← h] at h'
      injection h' with h'
      injection h' with _ h'
      omega
    · rename_i g'
      injection h with h
      injection h' with h'
      injection h with h _
      injection h' with h' _
      rw [← h] at h'
      injection h' with h'
      injection h' with _ h'
      have : g = g' := by omega
      rw [this]
    · cases h'
  · cases h
end Go.Proofs.Ytbjblkfibinenad
namespace Go.Proofs
open Go.Shelf
def Try.cloneQ_ren : Go.Shelf.Ren := ⟨fun | 5 => 79 | 7 => 86 | n => n, fun | 23 => 90 | 25 => 3 | 3 => 69 | 4 => 4 | 20 => 20 | n => n, fun | n => n⟩
theorem Try.cloneQ : Go.Proofs.SlLaysW.n5 Try.prog Try.cloneQ_ren := {
  mixed := by kernel_rfl
  f5 := ⟨Try.f79.name, by decide, Try.func79.trans (congrArg some (by kernel_rfl))⟩
  f7 := Try.func86.trans (congrArg some (by kernel_rfl))
  t4 := Try.underlying4
  a4 := Try.isAgg4
  z4 := Try.sizeOf4
  v4 := Try.zeroValue4
  t20 := Try.underlying20
  a20 := Try.isAgg20
  z20 := Try.sizeOf20
  v20 := Try.zeroValue20
  t23 := Try.underlying90
  a23 := Try.isAgg90
  z23 := Try.sizeOf90
  v23 := Try.zeroValue90 }
end Go.Proofs
namespace Go.Proofs.Ytbjblkfibinenad
open Go.RowKit
open Go.Maps (Keyed IsMap)
theorem zeroQ (w : World) : (zeroValue 69).run Try.prog w = .ok (Value.pointer none) w := by kernel_rfl
theorem keyQ : Keyed Try.prog 3 := Go.Maps.int_keyed Try.underlying3
theorem keyOfQ {x : Int} (h1 : -9223372036854775808 ≤ x) (h2 : x ≤ 9223372036854775807) : keyOf Try.prog 3 (.int .i64 x) = some (KL x) := Go.Maps.keyOf_int_mk Try.underlying3 (WalkArith.wf_i64 ⟨h1, h2⟩)
theorem cloneQ_any (b n : Nat) (D : DataW Unit) (w : World) (hown : w.ownsMap Try.prog 3 (RQ) b n D) :
    Calls Try.prog 79 #[.map (some b)] w (fun e w' => e = .returned (.map (some w.heap.size)) ∧ w'.ownsMap Try.prog 3 (RQ) w.heap.size n D ∧ w'.ownsMap Try.prog 3 (RQ) b n D ∧ Below w.heap.size w w') := by
  have hcon := Go.Proofs.AnyW.maps_Clone_owns Try.cloneQ 3 (RQ) b n D w hown
  change Calls Try.prog 79 _ _ _ at hcon
  exact hcon
set_option maxRecDepth 100000 in
set_option maxHeartbeats 8000000 in
theorem reachQ_any (fk : Nat) (cs : Array Value) (G : World → List Nat → Nat → Value → Prop) (N S : Nat) (v0 : Value) (w : World) (h1 : 1 ≤ N) (h2 : N ≤ 2000) (hS2 : S ≤ 100000)
    (hent : ∀ args w1, Sem.run Try.prog (callFunc fk args) w1 = .ok (.enter fk args) w1)
    (hG : ∀ w1 w2 row, w1.grownBy w2 row → (∀ j, row = some j → ∀ c t, w1.heap[j]? ≠ some (.cells c t)) → ∀ P s v, G w1 P s v → G w2 P s v)
    (hR0 : ∃ dt ps, (RQ) v0 = some (dt, ps)) (h0 : G w [] 0 v0)
    (stay : ∀ w P d s v, G w P s v → ¬ (d ≤ s ∧ 0 < ways P (s - d)) → G w (d :: P) s v)
    (hjoin : ∀ w1 P d s x y, 1 ≤ d → (d :: P).length ≤ 44 → 0 < ways P s → G w1 P s y → ((0 < ways P (s + d) ∧ G w1 P (s + d) x) ∨ (ways P (s + d) = 0 ∧ x = Value.pointer none)) →
      Calls Try.prog fk (#[.int .i64 (d : Int), x, y] ++ cs) w1 (fun e w2 => ∃ v, e = .returned v ∧ G w2 (d :: P) (s + d) v ∧ (∃ dt ps, (RQ) v = some (dt, ps)) ∧ Below w1.heap.size w1 w2))
    (hinj : ∀ v v' dt ps ps', (RQ) v = some (dt, ps) → (RQ) v' = some (dt, ps') → v = v') :
    Calls Try.prog 62 #[.int .i64 (N : Int), .int .i64 (S : Int), v0, .func (.func fk) #[] cs] w (fun e w' => ∃ v, e = .returned (.tuple #[v, .bool (decide (0 < ways (dsc N N) S))]) ∧ (0 < ways (dsc N N) S → G w' (dsc N N) S v) ∧ (ways (dsc N N) S = 0 → v = Value.pointer none) ∧ Below w.heap.size w w') := by
  have HE := Lib.hid hent
  have HG := Lib.hid hG
  have HST := Lib.hid stay
  have HJ := Lib.hid hjoin
  have HI := Lib.hid hinj
  have H0 := Lib.hid h0
  have HR0 := Lib.hid hR0
  have hn := numB_of h1 h2
  have HS : Hid (∀ w, Calls Try.prog 77 #[.int .i64 (N : Int)] w (Ret (.tuple #[.int .i64 (sig N : Int), .bool true]) w)) := Lib.hid fun w => by
    have := divisorSum_any (N : Int) w
    rwa [sgR_yes hn, hn] at this
  have HD : Hid (∀ w, Calls Try.prog 78 #[.int .i64 (N : Int)] w (RetLB (ints (asc N N)) true w)) := Lib.hid fun w => by
    have := divisorsOf_any (N : Int) w
    rwa [dvO_yes hn] at this
  have hsm := sig_small h2
  clear hent hG stay hjoin hinj h0 hR0 hn
  by_cases hS : sig N < S
  · have E : Hid (ways (dsc N N) S = 0) := Lib.hid (ways_none hS)
    have hS' : (sig N : Int) < (S : Int) := by omega
    generalize sig N = sm at *
    go_enter Try.func62, Try.ntmps62
    go_wp2_with fail
    refine (HS.out _).mono ?_; rintro e w1 ⟨rfl, hb1⟩; have hz1 := hb1.size; (try simp only [World.size_alloc, World.size_setCell, World.size_drew, World.heap_drewN] at hz1)
    go_wp2
    go_ret2
    rw [E.out]
    exact ⟨_, rfl, fun h => absurd h (by omega), fun _ => rfl, by (repeat' (first | (with_reducible exact Below.refl _ _) | (with_reducible assumption) | (with_reducible refine Below.drew ?_) | (with_reducible refine belowDrewN ?_ _) | (with_reducible refine Below.alloc ?_ ?_ _) | (with_reducible refine Below.setCell ?_ ?_ _) | (with_reducible refine belowStep (by assumption) ?_ ?_) | (with_reducible exact Below.size (by assumption)) | go_size))⟩
  have hS' : ¬ (sig N : Int) < (S : Int) := by omega
  have HDS : Hid (∀ d ∈ asc N N, 1 ≤ d ∧ d ≤ 2000) := Lib.hid fun d hd => by
    have := (dsc_mem N N d).1 (asc_mem.1 hd)
    omega
  have hlen : (asc N N).length ≤ 44 := by
    unfold asc
    rw [List.length_reverse]
    exact dsc_few h1 h2
  have hle := ints_len (asc N N)
  have hle1 : (ints (asc N N)).length ≤ (asc N N).length := by omega
  have hle2 : (asc N N).length ≤ (ints (asc N N)).length := by omega
  have EREV : Hid ((asc N N).reverse = dsc N N) := Lib.hid (by unfold asc; exact List.reverse_reverse _)
  have hmm := @run_makeMap Try.prog
  clear hle
  obtain ⟨ds, hds⟩ : ∃ ds, ds = asc N N := ⟨_, rfl⟩
  rw [← hds] at HD HDS hlen hle1 hle2 EREV
  rw [← EREV.out]
  generalize sig N = sm at *
  clear hds EREV
  go_enter Try.func62, Try.ntmps62
  go_wp2_with fail
  refine (HS.out _).mono ?_; rintro e w1 ⟨rfl, hb1⟩; have hz1 := hb1.size; (try simp only [World.size_alloc, World.size_setCell, World.size_drew, World.heap_drewN] at hz1)
  go_wp2_with fail
  refine (HD.out _).mono ?_; rintro e w2 ⟨v2, rfl, ho2, hb2⟩; obtain ⟨A2, c2, rfl, hr2⟩ := ho2.form
  have hz2 := hb2.size
  have HR := Lib.hid hr2
  have HG0 : Hid (G w2 [] 0 v0) := Lib.hid (HG.out w w2 none (grownBelow (World.grownBy.refl w none) (Nat.le_refl _) (by (repeat' (first | (with_reducible exact Below.refl _ _) | (with_reducible assumption) | (with_reducible refine Below.drew ?_) | (with_reducible refine belowDrewN ?_ _) | (with_reducible refine Below.alloc ?_ ?_ _) | (with_reducible refine Below.setCell ?_ ?_ _) | (with_reducible refine belowStep (by assumption) ?_ ?_) | (with_reducible exact Below.size (by assumption)) | go_size)))) (fun j h => by cases h) _ _ _ H0.out)
  clear ho2 hr2
  obtain ⟨dt0, ps0, hv0⟩ := HR0.out
  go_wp2_with (first
    | (refine wpList_insert_any _ rfl _ _ _ 90 rfl 3 69 keyQ Try.underlying90 (RQ) w2.heap.size 0 _ rfl (World.ownsMap_made _ _ _ _) (by unfold maxLen; omega) _ _ _ rfl rfl (keyOfQ (x := 0) (by omega) (by omega)) _ _ hv0 ?_; intro w3 hm3 hg3)
    | go_in)
  have hb3 : Below w2.heap.size w2 w3 := ((Below.refl _ _).alloc (Nat.le_refl _) _).grown hg3 (by simp) (fun j hj => by cases hj; exact Nat.le_refl _)
  have hz3 := hb3.size
  have HF3 : Hid (Fin (RQ) (G w3) ((DataW.map []).put (KL 0) dt0) [] S) := Lib.hid (by
    have hg0 : G w3 [] 0 v0 := HG.out w2 w3 none (grownBelow (World.grownBy.refl w2 none) (Nat.le_refl _) hb3) (fun j h => by cases h) _ _ _ HG0.out
    have hw0 : ∀ s : Nat, 0 < ways [] s ↔ s = 0 := fun s => by
      rw [ways]
      by_cases h : s = 0 <;> simp [h]
    refine ⟨fun x => ?_, fun s hs hw => ?_⟩
    · by_cases hx : x = 0
      · subst hx
        rw [Go.Maps.has_put_same Go.Maps.isMap_empty (KL_key 0)]
        exact ⟨fun _ => ⟨by omega, by omega, (hw0 _).2 rfl⟩, fun _ => rfl⟩
      · rw [Go.Maps.has_put_other (KL_ne hx), hw0]
        constructor
        · intro h; cases h
        · rintro ⟨a, b, c⟩; omega
    · have hs0 := (hw0 s).1 hw
      subst hs0
      exact ⟨v0, ps0, dt0, hv0, fun zd => Go.Maps.atKey_put_same Go.Maps.isMap_empty (KL_key 0) dt0 zd, hg0⟩)
  go_loopw [15, 42] (fun v15 v42 wr => ∃ (k b n : Nat) (D : DataW Unit), v42 = .int .i64 (k : Int) ∧ k ≤ ds.length ∧ v15 = .map (some b) ∧ wr.ownsMap Try.prog 3 (RQ) b n D ∧ n ≤ 2 ^ k ∧ Fin (RQ) (G wr) D (ds.take k).reverse S ∧ Below w2.heap.size w2 wr) (fun _ v42 _ => ds.length - (intOf v42).toNat)
  case atStart => exact ⟨0, _, _, _, rfl, Nat.zero_le _, rfl, hm3, by simp, by simpa using HF3.out, hb3⟩
  case round =>
    obtain ⟨k, b, n, D, rfl, hk, rfl, hown, hn, hF, hbr⟩ := hrel
    obtain ⟨wo, rfl⟩ : ∃ x : World, x = wr := ⟨_, rfl⟩
    have HF := Lib.hid hF
    have HO := Lib.hid hown
    have hzo := hbr.size
    have hpk := pow_le44 (show k ≤ 44 by omega)
    clear hF hown
    by_cases hlt : k < ds.length
    · obtain ⟨b9, o9, x, rfl, hbb, hx, hcell⟩ := (HR.out.below hbr).at_ (show k < (ints ds).length by omega)
      obtain ⟨d, rfl, hdx⟩ := ints_at hx
      obtain ⟨hd1, hd2⟩ := HDS.out d (List.mem_of_getElem? hdx)
      have E := Lib.hid (take_rev hdx)
      have hki : (k : Int) < (ds.length : Int) := by omega
      have hPl : (d :: (ds.take k).reverse).length ≤ 44 := by simp; omega
      clear hx hdx
      obtain ⟨P, hP⟩ : ∃ P, P = (ds.take k).reverse := ⟨_, rfl⟩
      rw [← hP] at HF E hPl
      clear hP
      go_wp2_with fail
      refine (cloneQ_any b n D _ HO.out).mono ?_; rintro e w4 ⟨rfl, hc4, ho4, hb4⟩
      have hz4 := hb4.size
      have hbw4 : Below w2.heap.size w2 w4 := by (repeat' (first | (with_reducible exact Below.refl _ _) | (with_reducible assumption) | (with_reducible refine Below.drew ?_) | (with_reducible refine belowDrewN ?_ _) | (with_reducible refine Below.alloc ?_ ?_ _) | (with_reducible refine Below.setCell ?_ ?_ _) | (with_reducible refine belowStep (by assumption) ?_ ?_) | (with_reducible exact Below.size (by assumption)) | go_size))
      have HF4 : Hid (Fin (RQ) (G w4) D P S) := Lib.hid (HF.out.world (HG.out wo w4 none (grownBelow (World.grownBy.refl wo none) (Nat.le_refl _) hb4) (fun j h => by cases h)))
      go_wp2_with (first
        | (at_range; refine wpList_range_own _ rfl _ 90 rfl 3 69 keyQ Try.underlying90 _ b n _ rfl ho4 ?_; intro w5 hrg5 hg5 hs5)
        | go_in)
      go_frame
      have hb5 : Below w4.heap.size w4 w5 := (Below.refl _ _).grown hg5 (Nat.le_refl _) (fun j hj => by cases hj)
      have hc5 := hc4.kept hg5 (by simp)
      have hz5 := hb5.size
      have hsz := hc5.size_le
      have HF5 : Hid (Fin (RQ) (G w5) D P S) := Lib.hid (HF4.out.world (HG.out w4 w5 none hg5 (fun j h => by cases h)))
      have hblt := HO.out.lt
      have hclt := hc4.lt
      have HC5 := Lib.hid hc5
      have HRG5 := Lib.hid hrg5
      clear hc4 ho4 hrg5 hc5 hg5 hs5
      go_loopw [19] (fun _ wq => ∃ (left : Lit → Bool) (cnt n2 : Nat) (D2 : DataW Unit), wq.ranges Try.prog 3 (RQ) b w4.heap.size n D left cnt ∧ wq.ownsMap Try.prog 3 (RQ) wo.heap.size n2 D2 ∧ n2 + cnt ≤ 2 * n ∧ Mid (RQ) (G wq) D2 P d S left ∧ Fin (RQ) (G wq) D P S ∧ Below w2.heap.size w2 wq ∧ w4.heap.size < wq.heap.size) (fun _ wq => wq.rangeLeft b w4.heap.size)
      case atStart => exact ⟨_, _, n, D, HRG5.out, HC5.out, by omega, mid_start HF5.out, HF5.out, by (repeat' (first | (with_reducible exact Below.refl _ _) | (with_reducible assumption) | (with_reducible refine Below.drew ?_) | (with_reducible refine belowDrewN ?_ _) | (with_reducible refine Below.alloc ?_ ?_ _) | (with_reducible refine Below.setCell ?_ ?_ _) | (with_reducible refine belowStep (by assumption) ?_ ?_) | (with_reducible exact Below.size (by assumption)) | go_size)), HRG5.out.lt⟩
      case round =>
        obtain ⟨left, cnt, n2, D2, hrg, hc2, hcn, hM, hF, hbq, hrq⟩ := hrel
        obtain ⟨wq, rfl⟩ : ∃ x : World, x = wr := ⟨_, rfl⟩
        have HRG := Lib.hid hrg
        have HC2 := Lib.hid hc2
        have HM := Lib.hid hM
        have HF := Lib.hid hF
        have hzq := hbq.size
        clear hM hF hc2 hrg
        go_wp2_with (first
          | (at_next; refine wpList_next_ranges _ rfl _ rfl 3 keyQ (RQ) (Value.int .i64) (fun v : Value => v) (fun key kl h => by obtain ⟨x, hx, _⟩ := Go.Maps.keyOf_int_inv Try.underlying3 h; exact ⟨x, hx⟩) (fun v y _ => ⟨v, rfl⟩) b w4.heap.size n _ _ _ rfl HRG.out ?_ ?_)
          | go_in)
        · intro hc0 hl0
          have HFE := Lib.hid (mid_end HM.out hl0 (fun s v => HST.out wq P d s v))
          rw [← E.out] at HFE
          go_wp2
          go_roundw
          case rel => exact ⟨k + 1, _, n2, D2, by go_num, by omega, rfl, HC2.out, by rw [Nat.pow_succ]; omega, HFE.out, by (repeat' (first | (with_reducible exact Below.refl _ _) | (with_reducible assumption) | (with_reducible refine Below.drew ?_) | (with_reducible refine belowDrewN ?_ _) | (with_reducible refine Below.alloc ?_ ?_ _) | (with_reducible refine Below.setCell ?_ ?_ _) | (with_reducible refine belowStep (by assumption) ?_ ?_) | (with_reducible exact Below.size (by assumption)) | go_size))⟩
          case measure => simp [intOf]; omega
        · intro x c kl y1 y2 w6 cnt6 hkey hlx hy hat hrg6 hlt6 hg6 hs6 hen
          obtain ⟨x', hx', hkl, hwf⟩ := Go.Maps.keyOf_int_inv Try.underlying3 hkey
          injection hx' with _ hx'
          subst hx' hkl
          have hin := (HF.out.has x).1 (Go.Maps.has_true_of_atKey hat)
          obtain ⟨s0, rfl⟩ := Int.eq_ofNat_of_zero_le hin.1
          have hs0 : s0 ≤ S := by omega
          have hws : 0 < ways P s0 := by simpa using hin.2.2
          obtain ⟨c', ps', dt', hrc, hatc, hgc⟩ := HF.out.val s0 hs0 hws
          have hcc : c = c' := by
            have e1 := hat .nil
            have e2 := hatc .nil
            rw [e2] at e1
            subst e1
            exact HI.out c c' _ _ _ hy hrc
          subst hcc
          have hnr : ∀ j, some w4.heap.size = some j → ∀ c t, wq.heap[j]? ≠ some (.cells c t) := fun j hj c t h => by
            cases hj
            obtain ⟨es, clock, since, seen, c0, _, _, _, _, h9, _⟩ := HRG.out
            rw [h9] at h
            cases h
          have HM6 := Lib.hid (HM.out.world (HG.out wq w6 _ hg6 hnr))
          have HF6 := Lib.hid (HF.out.world (HG.out wq w6 _ hg6 hnr))
          have HGC := Lib.hid (HG.out wq w6 _ hg6 hnr _ _ _ hgc)
          have hb6 : Below w2.heap.size wq w6 := (Below.refl _ _).grown hg6 hzq (fun j hj => by cases hj; omega)
          have hz6 := hb6.size
          have hgr : wo.heap.size ≠ w4.heap.size := by omega
          have HC6 := Lib.hid (HC2.out.kept hg6 (by simp [hgr]))
          have HRG6 := Lib.hid hrg6
          have HWS := Lib.hid hws
          clear hnr hgc hrc hatc hin hwf hkey hlx hy hat hrg6 hg6 hws
          by_cases hsd : s0 + d ≤ S
          · have hsd' : (s0 : Int) + (d : Int) ≤ (S : Int) := by omega
            have hwr : IntKind.i64.wrap ((s0 : Int) + (d : Int)) = (s0 : Int) + (d : Int) := IntWalk.i64_in _ (by omega)
            go_wp2_with (first
              | (at_lookup; refine wpList_lookup_any _ rfl _ _ 90 rfl 3 69 keyQ Try.underlying90 (RQ) (zeroQ _) _ _ zeroRQ b n D rfl HRG6.out.owns _ _ rfl (keyOfQ (x := (s0 : Int) + (d : Int)) (by omega) (by omega)) ?_; intro v1 ps1 hv1)
              | go_in)
            have hxin : (0 < ways P (s0 + d) ∧ G w6 P (s0 + d) v1) ∨ (ways P (s0 + d) = 0 ∧ v1 = Value.pointer none) := by
              by_cases hw : 0 < ways P (s0 + d)
              · obtain ⟨v9, ps9, dt9, hr9, hat9, hg9⟩ := HF6.out.val (s0 + d) hsd hw
                have e9 := hat9 (.lit (.int .i64 0))
                rw [show ((s0 + d : Nat) : Int) = (s0 : Int) + (d : Int) from by omega] at hat9
                rw [hat9] at hv1
                have := HI.out _ _ _ _ _ hv1 hr9
                subst this
                exact .inl ⟨hw, hg9⟩
              · have hnh : Go.Maps.has D (KL ((s0 : Int) + (d : Int))) = false := by
                  cases hh : Go.Maps.has D (KL ((s0 : Int) + (d : Int))) with
                  | false => rfl
                  | true =>
                    have h9 := ((HF6.out.has _).1 hh).2.2
                    rw [show ((s0 : Int) + (d : Int)).toNat = s0 + d from by omega] at h9
                    exact absurd h9 hw
                rw [Go.Maps.atKey_of_not_has hnh] at hv1
                exact .inr ⟨by omega, HI.out _ _ _ _ _ hv1 zeroRQ⟩
            have HXI := Lib.hid hxin
            clear hxin hv1
            rw [HE.out, Oper.upon_enter]
            refine (HJ.out w6 P d s0 v1 c hd1 hPl HWS.out HGC.out HXI.out).mono ?_; rintro e w7 ⟨v7, rfl, hg7, hr7, hb7⟩
            have hz7 := hb7.size
            obtain ⟨dt7, ps7, hv7⟩ := hr7
            have hg67 : w6.grownBy w7 none := grownBelow (World.grownBy.refl w6 none) (Nat.le_refl _) hb7
            have HC7 := Lib.hid (HC6.out.kept hg67 (by simp))
            have HRG7 := Lib.hid (HRG6.out.kept hg67 (by simp) (by simp))
            have HM7 := Lib.hid (HM6.out.world (HG.out w6 w7 none hg67 (fun j h => by cases h)))
            have HF7 := Lib.hid (HF6.out.world (HG.out w6 w7 none hg67 (fun j h => by cases h)))
            have HG7 := Lib.hid hg7
            clear hg7 hg67
            go_wp2_with (first
              | (at_mapUpdate; refine wpList_mapUpdate_own _ rfl _ _ _ 90 rfl 3 69 keyQ Try.underlying90 (RQ) wo.heap.size n2 D2 rfl HC7.out (by unfold maxLen; omega) _ _ _ rfl rfl (keyOfQ (x := (s0 : Int) + (d : Int)) (by omega) (by omega)) dt7 ps7 hv7 ?_; intro w8 hm8 hg8; go_frame)
              | go_in)
            have hnr : ∀ j, some wo.heap.size = some j → ∀ c t, w7.heap[j]? ≠ some (.cells c t) := fun j hj c t h => by
              cases hj
              obtain ⟨es, clock, h9, _⟩ := HC7.out
              rw [h9] at h
              cases h
            have HRG8 := Lib.hid (HRG7.out.kept hg8 (by simp; omega) (by simp; omega))
            have HM8 := Lib.hid ((mid_put HM7.out HC7.out.isMap hsd HWS.out hv7 HG7.out).world (HG.out w7 w8 _ hg8 hnr))
            have HF8 := Lib.hid (HF7.out.world (HG.out w7 w8 _ hg8 hnr))
            have hb8 : Below w2.heap.size w7 w8 := (Below.refl _ _).grown hg8 (by omega) (fun j hj => by cases hj; omega)
            have hz8 := hb8.size
            have HK8 := Lib.hid hm8
            clear hnr hg8 hm8
            go_roundw
            case rel => exact ⟨_, cnt6, n2 + 1, _, HRG8.out, HK8.out, by omega, HM8.out, HF8.out, by (repeat' (first | (with_reducible exact Below.refl _ _) | (with_reducible assumption) | (with_reducible refine Below.drew ?_) | (with_reducible refine belowDrewN ?_ _) | (with_reducible refine Below.alloc ?_ ?_ _) | (with_reducible refine Below.setCell ?_ ?_ _) | (with_reducible refine belowStep (by assumption) ?_ ?_) | (with_reducible exact Below.size (by assumption)) | go_size)), by omega⟩
            case measure => rw [HRG8.out.left_eq, HRG.out.left_eq]; exact hlt6
          · have hsd' : ¬ (s0 : Int) + (d : Int) ≤ (S : Int) := by omega
            have HM8 := Lib.hid (mid_skip HM6.out (show S < s0 + d by omega))
            go_wp2
            go_roundw
            case rel => exact ⟨_, cnt6, n2, D2, HRG6.out, HC6.out, by omega, HM8.out, HF6.out, by (repeat' (first | (with_reducible exact Below.refl _ _) | (with_reducible assumption) | (with_reducible refine Below.drew ?_) | (with_reducible refine belowDrewN ?_ _) | (with_reducible refine Below.alloc ?_ ?_ _) | (with_reducible refine Below.setCell ?_ ?_ _) | (with_reducible refine belowStep (by assumption) ?_ ?_) | (with_reducible exact Below.size (by assumption)) | go_size)), by omega⟩
            case measure => rw [HRG6.out.left_eq, HRG.out.left_eq]; exact hlt6
    · obtain rfl : k = ds.length := by omega
      have hki : ¬ ((ds.length : Nat) : Int) < (ds.length : Int) := by omega
      have hF := HF.out
      rw [List.take_length] at hF
      have HFF := Lib.hid hF
      clear hF HF
      go_wp2_with (first
        | (at_lookup; refine wpList_lookup_own_ok _ rfl _ _ 90 rfl 3 69 keyQ Try.underlying90 (RQ) (zeroQ _) _ _ zeroRQ b n D rfl HO.out _ _ rfl (keyOfQ (x := (S : Int)) (by omega) (by omega)) ?_; intro v1 ps1 hv1)
        | go_in)
      go_ret2
      by_cases hw : 0 < ways ds.reverse S
      · have hh : Go.Maps.has D (KL (S : Int)) = true := (HFF.out.has _).2 ⟨by omega, by omega, by simpa using hw⟩
        obtain ⟨v9, ps9, dt9, hr9, hat9, hg9⟩ := HFF.out.val S (Nat.le_refl _) hw
        rw [hat9] at hv1
        have := HI.out _ _ _ _ _ hv1 hr9
        subst this
        rw [hh, decide_eq_true hw]
        exact ⟨_, rfl, fun _ => hg9, fun h => absurd hw (by omega), by (repeat' (first | (with_reducible exact Below.refl _ _) | (with_reducible assumption) | (with_reducible refine Below.drew ?_) | (with_reducible refine belowDrewN ?_ _) | (with_reducible refine Below.alloc ?_ ?_ _) | (with_reducible refine Below.setCell ?_ ?_ _) | (with_reducible refine belowStep (by assumption) ?_ ?_) | (with_reducible exact Below.size (by assumption)) | go_size))⟩
      · have hh : Go.Maps.has D (KL (S : Int)) = false := by
          cases hh : Go.Maps.has D (KL (S : Int)) with
          | false => rfl
          | true =>
            have h9 := ((HFF.out.has _).1 hh).2.2
            exact absurd (by simpa using h9) hw
        rw [Go.Maps.atKey_of_not_has hh] at hv1
        have := HI.out _ _ _ _ _ hv1 zeroRQ
        subst this
        rw [hh, decide_eq_false hw]
        exact ⟨_, rfl, fun h => absurd h hw, fun _ => rfl, by (repeat' (first | (with_reducible exact Below.refl _ _) | (with_reducible assumption) | (with_reducible refine Below.drew ?_) | (with_reducible refine belowDrewN ?_ _) | (with_reducible refine Below.alloc ?_ ?_ _) | (with_reducible refine Below.setCell ?_ ?_ _) | (with_reducible refine belowStep (by assumption) ?_ ?_) | (with_reducible exact Below.size (by assumption)) | go_size))⟩
end Go.Proofs.Ytbjblkfibinenad
