
/-
  For all bytes: a number is drawn; it is told practical exactly if no prime number breaks it, its divisors, their sum and the powers of its prime numbers belong together, and the least sum that isn't reached is as told. No condition.
-/
import Derived.Test.YtiapljimgnhgoabDr4
import Derived.Test.YtiapljimgnhgoabForI
import Derived.Test.YtiapljimgnhgoabOvS
import Derived.Test.YtiapljimgnhgoabShell
import Derived.Test.YtiapljimgnhgoabUnC
namespace Go.Proofs.Ytiapljimgnhgoab
open Go.ChangeShapes Go.WideShapes Go.ChangeAt Go.RowKit Go.Joins Go.Deep
theorem cnt_ge {L : List (Nat × Nat)} : ∀ c, c ≤ cntP c L := by
  induction L with
  | nil => intro c; exact Nat.le_refl c
  | cons x L ih =>
    intro c
    obtain ⟨p, m⟩ := x
    have h1 := ih (c * (m + 1))
    have h2 : c ≤ c * (m + 1) := Nat.le_mul_of_pos_right c (by omega)
    rw [cntP]
    omega
structure Pq (N k b c : Nat) : Prop where
  num : 1 ≤ N ∧ N ≤ 2000
  prod : prodP b ((pps N).drop k) = N
  cnt : cntP c ((pps N).drop k) = (dsc N N).length
  one : 1 ≤ b
theorem Pq.start {N : Nat} (h1 : 1 ≤ N) (h2 : N ≤ 2000) : Pq N 0 1 1 := ⟨⟨h1, h2⟩, (pps_all h1 h2).1, (pps_all h1 h2).2, Nat.le_refl 1⟩
theorem Pq.mem {N k b c : Nat} (h : Pq N k b c) : ∀ x ∈ (pps N).drop k, 2 ≤ x.1 := fun x hx => ((pows_mem (pps_pows h.num.1 h.num.2)).2 x (List.mem_of_mem_drop hx)).1
theorem Pq.top {N k b c : Nat} (h : Pq N k b c) : b ≤ 2000 := by
  have h1 := prod_ge h.mem b
  have h2 := h.num
  rw [h.prod] at h1
  omega
theorem Pq.topc {N k b c : Nat} (h : Pq N k b c) : c ≤ 2000 := by
  have h1 := cnt_ge (L := (pps N).drop k) c
  have h2 := h.num
  have h3 := dsc_len N N
  rw [h.cnt] at h1
  omega
theorem Pq.small {N k b c p m : Nat} (h : Pq N k b c) (hx : (pps N)[k]? = some (p, m)) : 2 ≤ p ∧ p ≤ 2000 ∧ 1 ≤ m ∧ m ≤ 2000 := (show Bk N 0 1 from Bk.start h.num.1 h.num.2) |> fun _ => by
  obtain ⟨a, b', d⟩ := (pows_mem (pps_pows h.num.1 h.num.2)).2 (p, m) (List.mem_of_getElem? hx)
  have hn := h.num
  have a' : 2 ≤ p := a
  have h1 : p ^ 1 ≤ p ^ m := Nat.pow_le_pow_right (by omega) b'
  have h2 : m < p ^ m := Nat.lt_pow_self (by omega)
  rw [Nat.pow_one] at h1
  have d' : p ^ m ≤ N := d
  exact ⟨a', by omega, b', by omega⟩
theorem Pq.next {N k b c p m : Nat} (h : Pq N k b c) (hx : (pps N)[k]? = some (p, m)) : Pq N (k + 1) (b * p ^ m) (c * (m + 1)) := by
  have h1 := h.prod
  have h2 := h.cnt
  have h3 := h.mem (p, m) (by rw [dropAt hx]; simp)
  rw [dropAt hx] at h1 h2
  exact ⟨h.num, h1, h2, Nat.mul_pos h.one (Nat.pow_pos (by have : 2 ≤ p := h3; omega))⟩
theorem Pq.done {N k b c : Nat} (h : Pq N k b c) (hk : (pps N).length ≤ k) : b = N ∧ c = (dsc N N).length := by
  have h1 := h.prod
  have h2 := h.cnt
  rw [List.drop_of_length_le hk] at h1 h2
  exact ⟨h1, h2⟩
set_option maxRecDepth 100000 in
set_option maxHeartbeats 16000000 in
theorem pn_whole (w : World) (A : Option Addr) (c n : Nat) (B : Option Addr) (d m' : Nat) (hA : ReadsB w A n) (hn : n ≤ 9223372036854775807) (hm' : m' ≤ 9223372036854775807) (hbig : bigB n m' = false) (hn2 : n ≤ 1048576)
    (hdr : ∀ w', Below w.heap.size w w' → Calls Try.prog 30 #[.slice A n c] w' (fun e w'' => ∃ x : Int, e = .returned (.int .i64 x) ∧ -1 ≤ x ∧ x ≤ 2001 ∧ Below w'.heap.size w' w'')) :
    Calls Try.prog 10 #[.slice A n c, .slice B m' d] w (Ret (.bool true) w) := by
  have HDR := Lib.hid hdr
  clear hA hdr hn2
  go_enter Try.func10, Try.ntmps10
  go_wp2_with fail
  refine (big_any _ _ _ _ _ _ _ hn hm').mono ?_; rintro e w1 ⟨rfl, k1, rfl⟩
  rw [hbig]
  clear hbig
  go_wp2_with fail
  refine (HDR.out _ (by (repeat' (first | (with_reducible exact Below.refl _ _) | (with_reducible assumption) | (with_reducible refine Below.drew ?_) | (with_reducible refine belowDrewN ?_ _) | (with_reducible refine Below.alloc ?_ ?_ _) | (with_reducible refine Below.setCell ?_ ?_ _) | (with_reducible refine belowStep (by assumption) ?_ ?_) | (with_reducible exact Below.size (by assumption)) | go_size)))).mono ?_; rintro e w2 ⟨x, rfl, x0, x1, hb2⟩
  have hz2 := hb2.size
  (try simp only [World.heap_drewN] at hz2)
  have HP1 := Lib.hid fun (w : World) => isPractical_any x w
  have HP2 := Lib.hid fun (w : World) => spec_isPractical_any x w
  have HB1 := Lib.hid fun (w : World) => breakOf_any x w
  have HB2 := Lib.hid fun (w : World) => spec_breakOf_any x w
  have HU1 := Lib.hid fun (w : World) => unreachedOf_any x w
  have HU2 := Lib.hid fun (w : World) => spec_unreachedOf_any x w
  cases hx : numB x with
  | false =>
    rw [prcB_no hx, hx] at HP1 HP2
    rw [brO_no hx] at HB1 HB2
    rw [unO_no (brO_no hx)] at HU1 HU2
    unfold bkV bkA bkB at HB1 HB2
    unfold unV at HU1 HU2
    simp only [Option.isSome_none, Option.getD_none] at HB1 HB2 HU1 HU2
    clear hx
    go_wp2_with fail
    refine (HP1.out _).mono ?_; rintro e w3 ⟨rfl, hb3⟩; have hz3 := hb3.size; (try simp only [World.size_alloc, World.size_setCell, World.size_drew, World.heap_drewN] at hz3)
    go_wp2_with fail
    refine (HP2.out _).mono ?_; rintro e w4 ⟨rfl, hb4⟩; have hz4 := hb4.size; (try simp only [World.size_alloc, World.size_setCell, World.size_drew, World.heap_drewN] at hz4)
    go_wp2_with fail
    refine (HB1.out _).mono ?_; rintro e w5 ⟨rfl, hb5⟩; have hz5 := hb5.size; (try simp only [World.size_alloc, World.size_setCell, World.size_drew, World.heap_drewN] at hz5)
    go_wp2_with fail
    refine (HB2.out _).mono ?_; rintro e w6 ⟨rfl, hb6⟩; have hz6 := hb6.size; (try simp only [World.size_alloc, World.size_setCell, World.size_drew, World.heap_drewN] at hz6)
    go_wp2_with fail
    refine (HU1.out _).mono ?_; rintro e w7 ⟨rfl, hb7⟩; have hz7 := hb7.size; (try simp only [World.size_alloc, World.size_setCell, World.size_drew, World.heap_drewN] at hz7)
    go_wp2_with fail
    refine (HU2.out _).mono ?_; rintro e w8 ⟨rfl, hb8⟩; have hz8 := hb8.size; (try simp only [World.size_alloc, World.size_setCell, World.size_drew, World.heap_drewN] at hz8)
    go_wp2
    go_ret
    exact ⟨rfl, by (repeat' (first | (with_reducible exact Below.refl _ _) | (with_reducible assumption) | (with_reducible refine Below.drew ?_) | (with_reducible refine belowDrewN ?_ _) | (with_reducible refine Below.alloc ?_ ?_ _) | (with_reducible refine Below.setCell ?_ ?_ _) | (with_reducible refine belowStep (by assumption) ?_ ?_) | (with_reducible exact Below.size (by assumption)) | go_size))⟩
  | true =>
    obtain ⟨N, rfl, h1, h2⟩ := numB_nat hx
    rw [prcB_yes h1 h2, hx] at HP1 HP2
    have hL := ppO_len (N : Int)
    rw [ppO_yes hx] at hL
    simp only [Option.getD_some] at hL
    have hf1 := fsts_len (pps N)
    have hs1 := snds_len (pps N)
    obtain ⟨ys, hys⟩ : ∃ ys, ys = fsts (pps N) := ⟨_, rfl⟩
    obtain ⟨zs, hzs⟩ : ∃ zs, zs = snds (pps N) := ⟨_, rfl⟩
    rw [← hys] at hf1
    rw [← hzs] at hs1
    obtain ⟨f2, f3⟩ : ys.length ≤ (pps N).length ∧ (pps N).length ≤ ys.length := by omega
    obtain ⟨s2, s3⟩ : zs.length ≤ (pps N).length ∧ (pps N).length ≤ zs.length := by omega
    have Hys := Lib.hid hys
    have Hzs := Lib.hid hzs
    clear hf1 hs1 hys hzs
    have HPP : Hid (∀ w, Calls Try.prog 35 #[.int .i64 (N : Int)] w (fun e w' => ∃ va vb, e = .returned (.tuple #[va, vb, .bool true]) ∧ OwnI w' w.heap.size va ys ∧ OwnI w' w.heap.size vb zs ∧ Below w.heap.size w w')) := Lib.hid fun w => by
      refine (primePowers_any (N : Int) w).mono ?_
      rw [ppO_yes hx]
      rintro e w' ⟨va, vb, rfl, a, b, _, d⟩
      rw [Hys.out, Hzs.out]
      exact ⟨va, vb, rfl, a, b, d⟩
    have HSM : Hid (∀ w, Calls Try.prog 33 #[.int .i64 (N : Int)] w (Ret (.tuple #[.int .i64 (sig N : Int), .bool true]) w)) := Lib.hid fun w => by
      have := divisorSum_any (N : Int) w
      rwa [sgR_yes hx, hx] at this
    have HDV : Hid (∀ w, Calls Try.prog 34 #[.int .i64 (N : Int)] w (RetLB (ints (asc N N)) true w)) := Lib.hid fun w => by
      have := divisorsOf_any (N : Int) w
      rwa [dvO_yes hx] at this
    have HDS : Hid (∀ d ∈ asc N N, 1 ≤ d ∧ d ≤ 2000 ∧ N % d = 0) := Lib.hid fun d hd => by
      have := (dsc_mem N N d).1 (asc_mem.1 hd)
      exact ⟨this.1, by omega, this.2.2⟩
    have ESM := Lib.hid (asc_sum N)
    have hdl := asc_len N N
    have hle := ints_len (asc N N)
    have hle1 : (ints (asc N N)).length ≤ (asc N N).length := by omega
    have hle2 : (asc N N).length ≤ (ints (asc N N)).length := by omega
    have hdd : (dsc N N).length = (asc N N).length := by unfold asc; rw [List.length_reverse]
    have hdd1 : (dsc N N).length ≤ (asc N N).length := by omega
    have hdd2 : (asc N N).length ≤ (dsc N N).length := by omega
    have PQ0 := Lib.hid (Pq.start h1 h2)
    have hsm := sig_small h2
    have hbro := brO_yes hx
    have hsay := brkO_says h1 h2
    clear hle hdd
    obtain ⟨ds, hds⟩ : ∃ ds, ds = asc N N := ⟨_, rfl⟩
    rw [← hds] at HDV HDS ESM hdl hle1 hle2 hdd1 hdd2
    clear hds
    cases hk : brkO N with
    | none =>
      rw [hk] at HP1 HP2 hbro
      rw [hbro] at HB1 HB2
      rw [unO_no hbro] at HU1 HU2
      unfold bkV bkA bkB at HB1 HB2
      unfold unV at HU1 HU2
      simp only [Option.isSome_none, Option.isNone_none, Option.getD_none] at HP1 HP2 HB1 HB2 HU1 HU2
      clear hx hk hbro hsay
      go_wp2_with fail
      refine (HP1.out _).mono ?_; rintro e w3 ⟨rfl, hb3⟩; have hz3 := hb3.size; (try simp only [World.size_alloc, World.size_setCell, World.size_drew, World.heap_drewN] at hz3)
      go_wp2_with fail
      refine (HP2.out _).mono ?_; rintro e w4 ⟨rfl, hb4⟩; have hz4 := hb4.size; (try simp only [World.size_alloc, World.size_setCell, World.size_drew, World.heap_drewN] at hz4)
      go_wp2_with fail
      refine (HB1.out _).mono ?_; rintro e w5 ⟨rfl, hb5⟩; have hz5 := hb5.size; (try simp only [World.size_alloc, World.size_setCell, World.size_drew, World.heap_drewN] at hz5)
      go_wp2_with fail
      refine (HB2.out _).mono ?_; rintro e w6 ⟨rfl, hb6⟩; have hz6 := hb6.size; (try simp only [World.size_alloc, World.size_setCell, World.size_drew, World.heap_drewN] at hz6)
      go_wp2_with fail
      refine (HU1.out _).mono ?_; rintro e w7 ⟨rfl, hb7⟩; have hz7 := hb7.size; (try simp only [World.size_alloc, World.size_setCell, World.size_drew, World.heap_drewN] at hz7)
      go_wp2_with fail
      refine (HU2.out _).mono ?_; rintro e w8 ⟨rfl, hb8⟩; have hz8 := hb8.size; (try simp only [World.size_alloc, World.size_setCell, World.size_drew, World.heap_drewN] at hz8)
      go_wp2_with fail
      refine (HSM.out _).mono ?_; rintro e w11 ⟨rfl, hb11⟩; have hz11 := hb11.size; (try simp only [World.size_alloc, World.size_setCell, World.size_drew, World.heap_drewN] at hz11)
      go_wp2_with fail
      refine (HDV.out _).mono ?_; rintro e w12 ⟨v12, rfl, ho12, hb12⟩; obtain ⟨A12, c12, rfl, hr12⟩ := ho12.form
      have hz12 := hb12.size
      have R12 := Lib.hid hr12
      clear ho12 hr12
      go_wp2
      go_loopw [24, 137] (fun v24 v137 wr => ∃ k : Nat, k ≤ ds.length ∧ v137 = .int .i64 (k : Int) ∧ v24 = .int .i64 ((ds.take k).sum : Nat) ∧ Below w12.heap.size w12 wr) (fun _ v137 _ => ds.length - (intOf v137).toNat)
      case atStart => exact ⟨0, Nat.zero_le _, rfl, by simp, by (repeat' (first | (with_reducible exact Below.refl _ _) | (with_reducible assumption) | (with_reducible refine Below.drew ?_) | (with_reducible refine belowDrewN ?_ _) | (with_reducible refine Below.alloc ?_ ?_ _) | (with_reducible refine Below.setCell ?_ ?_ _) | (with_reducible refine belowStep (by assumption) ?_ ?_) | (with_reducible exact Below.size (by assumption)) | go_size))⟩
      case round =>
        obtain ⟨k, hk, rfl, rfl, hbr⟩ := hrel
        have hzr := hbr.size
        by_cases hlt : k < ds.length
        · obtain ⟨b, o, x, rfl, hbb, hx, hcell⟩ := (R12.out.below hbr).at_ (show k < (ints ds).length by omega)
          obtain ⟨d, rfl, hd⟩ := ints_at hx
          have hlt' : (k : Int) < (ds.length : Int) := by omega
          have hlt2 : (k : Int) < ((ints ds).length : Int) := by omega
          have E := Lib.hid (sum_take hd)
          obtain ⟨hd1, hd2, hd3⟩ := HDS.out d (List.mem_of_getElem? hd)
          have ht := sum_take_le (fun d h => (HDS.out d h).2.1) k
          obtain ⟨r1, r2, _, _⟩ := @remv2 N d
          rw [hd3] at r1 r2
          have hdn : (d : Int) ≠ 0 := by omega
          clear hx hd hd3
          go_wp2
          go_roundw
          case rel => exact ⟨k + 1, by omega, by go_num, by rw [E.out]; go_num, by (repeat' (first | (with_reducible exact Below.refl _ _) | (with_reducible assumption) | (with_reducible refine Below.drew ?_) | (with_reducible refine belowDrewN ?_ _) | (with_reducible refine Below.alloc ?_ ?_ _) | (with_reducible refine Below.setCell ?_ ?_ _) | (with_reducible refine belowStep (by assumption) ?_ ?_) | (with_reducible exact Below.size (by assumption)) | go_size))⟩
          case measure => simp [intOf]; omega
        · obtain rfl : k = ds.length := by omega
          have hlt2 : ¬ (ds.length : Int) < ((ints ds).length : Int) := by omega
          have hsum : (((ds.take ds.length).sum : Nat) : Int) = (sig N : Int) := by rw [List.take_length, ESM.out]
          rw [hsum]
          have hbq : Below w.heap.size w _ := (by (repeat' (first | (with_reducible exact Below.refl _ _) | (with_reducible assumption) | (with_reducible refine Below.drew ?_) | (with_reducible refine belowDrewN ?_ _) | (with_reducible refine Below.alloc ?_ ?_ _) | (with_reducible refine Below.setCell ?_ ?_ _) | (with_reducible refine belowStep (by assumption) ?_ ?_) | (with_reducible exact Below.size (by assumption)) | go_size)))
          obtain ⟨wo, rfl⟩ : ∃ x : World, x = wr := ⟨_, rfl⟩
          go_wp2_with fail
          refine (HPP.out _).mono ?_; rintro e w14 ⟨va, vb, rfl, hoa, hob, hb14⟩; obtain ⟨A14, c14, rfl, hra⟩ := hoa.form; obtain ⟨B14, d14, rfl, hrb⟩ := hob.form
          have hz14 := hb14.size
          have RA := Lib.hid hra
          have RB := Lib.hid hrb
          clear hoa hob hra hrb hsum
          have hyz : (((ys.length : Nat) : Int) != ((zs.length : Nat) : Int)) = false := by simp; omega
          have hsg : ((((sig N : Nat) : Int)) != ((sig N : Nat) : Int)) = false := by simp
          go_wp2
          go_loopw [30, 31, 179] (fun v30 v31 v179 wq => ∃ k b c : Nat, v30 = .int .i64 (b : Int) ∧ v31 = .int .i64 (c : Int) ∧ v179 = .int .i64 (k : Int) ∧ k ≤ ys.length ∧ Pq N k b c ∧ Below w14.heap.size w14 wq) (fun _ _ v179 _ => ys.length - (intOf v179).toNat)
          case atStart => exact ⟨0, 1, 1, rfl, rfl, rfl, Nat.zero_le _, PQ0.out, by (repeat' (first | (with_reducible exact Below.refl _ _) | (with_reducible assumption) | (with_reducible refine Below.drew ?_) | (with_reducible refine belowDrewN ?_ _) | (with_reducible refine Below.alloc ?_ ?_ _) | (with_reducible refine Below.setCell ?_ ?_ _) | (with_reducible refine belowStep (by assumption) ?_ ?_) | (with_reducible exact Below.size (by assumption)) | go_size))⟩
          case round =>
            obtain ⟨k, b, c, rfl, rfl, rfl, hk, hpq, hbs⟩ := hrel
            obtain ⟨ws, rfl⟩ : ∃ x : World, x = wr := ⟨_, rfl⟩
            have HPQ := Lib.hid hpq
            have hzs := hbs.size
            have hbt := hpq.top
            have hct := hpq.topc
            clear hpq
            by_cases hlt : k < ys.length
            · obtain ⟨⟨p, m⟩, hx⟩ : ∃ x, (pps N)[k]? = some x := ⟨_, List.getElem?_eq_getElem (show k < (pps N).length by omega)⟩
              obtain ⟨hp1, hp2, hm1, hm2⟩ := HPQ.out.small hx
              obtain ⟨b8, o8, x8, rfl, hbb, hy, hcell⟩ := (RA.out.below hbs).at_ hlt
              obtain ⟨b9, o9, x9, rfl, hbb', hy', hcell'⟩ := (RB.out.below hbs).at_ (show k < zs.length by omega)
              rw [Hys.out, fsts_at hx] at hy
              rw [Hzs.out, snds_at hx] at hy'
              injection hy with hy
              injection hy' with hy'
              subst hy hy'
              have hki : (k : Int) < (ys.length : Int) := by omega
              have hkz : (k : Int) < (zs.length : Int) := by omega
              have hnx := HPQ.out.next hx
              have ht := hnx.top
              have htc := hnx.topc
              have HX := Lib.hid hnx
              clear hx hnx
              go_wp2
              go_loopw [30, 34] (fun v30 v34 wz => ∃ j : Nat, j ≤ m ∧ v30 = .int .i64 ((b * p ^ j : Nat) : Int) ∧ v34 = .int .i64 (j : Int) ∧ ∃ i, wz = ws.drewN i) (fun _ v34 _ => m - (intOf v34).toNat)
              case atStart => exact ⟨0, Nat.zero_le _, by simp, by simp, 0, rfl⟩
              case round =>
                obtain ⟨j, hj, rfl, rfl, i, rfl⟩ := hrel
                by_cases hjt : j < m
                · obtain ⟨e1, e2⟩ := pow_way hp1 hjt ht
                  have hcj : (j : Int) < (m : Int) := by omega
                  have e3 : ((b * p ^ j : Nat) : Int) * (p : Int) = ((b * p ^ (j + 1) : Nat) : Int) := by rw [← e1, Int.natCast_mul (b * p ^ j) p]
                  have e4 : b * p ^ j ≤ 2000 := Nat.le_trans (Nat.mul_le_mul_left b (Nat.pow_le_pow_right (by omega) (by omega))) e2
                  have hw : IntKind.i64.wrap (((b * p ^ j : Nat) : Int) * (p : Int)) = ((b * p ^ (j + 1) : Nat) : Int) := by rw [e3]; exact IntWalk.i64_in _ (by omega)
                  clear e1 e3
                  obtain ⟨z, hz9⟩ : ∃ z, z = b * p ^ (j + 1) := ⟨_, rfl⟩
                  rw [← hz9] at e2 hw
                  have EZ := Lib.hid hz9
                  clear hz9
                  generalize b * p ^ j = y at *
                  go_wp2
                  go_roundw
                  case rel => exact ⟨j + 1, by omega, by rw [← EZ.out], by go_num, i, rfl⟩
                  case measure => simp [intOf]; omega
                · obtain rfl : j = m := by omega
                  have hw : IntKind.i64.wrap ((c : Int) * ((j : Int) + 1)) = ((c * (j + 1) : Nat) : Int) := by rw [show (c : Int) * ((j : Int) + 1) = ((c * (j + 1) : Nat) : Int) from by rw [Int.natCast_mul]; rfl]; exact IntWalk.i64_in _ (by omega)
                  generalize b * p ^ j = y at *
                  obtain ⟨z, hz9⟩ : ∃ z, z = c * (j + 1) := ⟨_, rfl⟩
                  rw [← hz9] at hw htc HX
                  clear hz9
                  go_wp2
                  go_roundw
                  case rel => exact ⟨k + 1, y, z, rfl, rfl, by go_num, by omega, HX.out, by (repeat' (first | (with_reducible exact Below.refl _ _) | (with_reducible assumption) | (with_reducible refine Below.drew ?_) | (with_reducible refine belowDrewN ?_ _) | (with_reducible refine Below.alloc ?_ ?_ _) | (with_reducible refine Below.setCell ?_ ?_ _) | (with_reducible refine belowStep (by assumption) ?_ ?_) | (with_reducible exact Below.size (by assumption)) | go_size))⟩
                  case measure => simp [intOf]; omega
            · obtain ⟨q1, q2⟩ := HPQ.out.done (show (pps N).length ≤ k by omega)
              have hki : ¬ (k : Int) < (ys.length : Int) := by omega
              obtain rfl : b = N := q1
              have q3 : (c : Int) = ((ints ds).length : Int) := by omega
              rw [q3]
              clear q3 q2 hct hbt
              (go_wp2; go_ret; exact ⟨rfl, by (repeat' (first | (with_reducible exact Below.refl _ _) | (with_reducible assumption) | (with_reducible refine Below.drew ?_) | (with_reducible refine belowDrewN ?_ _) | (with_reducible refine Below.alloc ?_ ?_ _) | (with_reducible refine Below.setCell ?_ ?_ _) | (with_reducible refine belowStep (by assumption) ?_ ?_) | (with_reducible exact Below.size (by assumption)) | go_size))⟩)
    | some x =>
      obtain ⟨q, k⟩ := x
      rw [hk] at HP1 HP2 hbro hsay
      obtain ⟨l, el, hq, hk1, hl1, hrr, hql, hsk, hf, hcp⟩ := hsay
      obtain ⟨y1, y2, y3⟩ := broken_facts hk1 hl1 hrr hsk hql hf
      rw [← el] at y1 y3
      have hkN : k ∣ N := by rw [el]; exact Nat.dvd_mul_right _ _
      have hqN : q ∣ N := by rw [el]; exact Nat.dvd_trans hql (Nat.dvd_mul_left _ _)
      have hk2 : k ≤ 2000 := by have := Nat.le_of_dvd h1 hkN; omega
      have hq2 : q ≤ 2000 := by have := Nat.le_of_dvd h1 hqN; omega
      have hq3 := hq.1
      obtain ⟨r1, r2, _, _⟩ := @remv2 N q
      obtain ⟨r3, r4, _, _⟩ := @remv2 N k
      rw [Nat.mod_eq_zero_of_dvd hqN] at r1 r2
      rw [Nat.mod_eq_zero_of_dvd hkN] at r3 r4
      have hqz : (q : Int) ≠ 0 := by omega
      have hkz0 : (k : Int) ≠ 0 := by omega
      have HSK : Hid (∀ w, Calls Try.prog 33 #[.int .i64 (k : Int)] w (Ret (.tuple #[.int .i64 (sig k : Int), .bool true]) w)) := Lib.hid fun w => by
        have := divisorSum_any (k : Int) w
        rwa [sgR_yes (numB_of hk1 hk2), numB_of hk1 hk2] at this
      have HDF : Hid (∀ w, Calls Try.prog 16 #[.int .i64 (N : Int), .int .i64 (((sig k + 1 : Nat)) : Int)] w (RetLB [] false w)) := Lib.hid fun w => by
        have := divisorsFor_any (N : Int) ((sig k + 1 : Nat) : Int) w
        rwa [dfO_no (by rw [y1]; omega)] at this
      rw [hbro] at HB1 HB2
      rw [unO_yes hbro] at HU1 HU2
      have hks := sig_small hk2
      unfold bkV bkA bkB at HB1 HB2
      unfold unV at HU1 HU2
      simp only [Option.isSome_some, Option.isNone_some, Option.getD_some] at HP1 HP2 HB1 HB2 HU1 HU2
      clear hx hk hbro hq hl1 hrr hql hf hcp y1 y2 el hkN hqN
      obtain ⟨t, ht0⟩ : ∃ t, t = sig k := ⟨_, rfl⟩
      rw [← ht0] at HSK HDF HU1 HU2 hsk y3 hks
      clear ht0
      obtain ⟨t1, ht1⟩ : ∃ t1, t1 = t + 1 := ⟨_, rfl⟩
      rw [← ht1] at HDF HU1 HU2 hsk y3
      have z1 : (t : Int) + 1 = (t1 : Int) := by omega
      have z2 : (t : Int) + 1 < (q : Int) := by omega
      have z3 : (t1 : Int) < (sig N : Int) := by omega
      have z4 : t1 ≤ 4000001 := by omega
      clear ht1 hsk y3
      go_wp2_with fail
      refine (HP1.out _).mono ?_; rintro e w3 ⟨rfl, hb3⟩; have hz3 := hb3.size; (try simp only [World.size_alloc, World.size_setCell, World.size_drew, World.heap_drewN] at hz3)
      go_wp2_with fail
      refine (HP2.out _).mono ?_; rintro e w4 ⟨rfl, hb4⟩; have hz4 := hb4.size; (try simp only [World.size_alloc, World.size_setCell, World.size_drew, World.heap_drewN] at hz4)
      go_wp2_with fail
      refine (HB1.out _).mono ?_; rintro e w5 ⟨rfl, hb5⟩; have hz5 := hb5.size; (try simp only [World.size_alloc, World.size_setCell, World.size_drew, World.heap_drewN] at hz5)
      go_wp2_with fail
      refine (HB2.out _).mono ?_; rintro e w6 ⟨rfl, hb6⟩; have hz6 := hb6.size; (try simp only [World.size_alloc, World.size_setCell, World.size_drew, World.heap_drewN] at hz6)
      go_wp2_with fail
      refine (HU1.out _).mono ?_; rintro e w7 ⟨rfl, hb7⟩; have hz7 := hb7.size; (try simp only [World.size_alloc, World.size_setCell, World.size_drew, World.heap_drewN] at hz7)
      go_wp2_with fail
      refine (HU2.out _).mono ?_; rintro e w8 ⟨rfl, hb8⟩; have hz8 := hb8.size; (try simp only [World.size_alloc, World.size_setCell, World.size_drew, World.heap_drewN] at hz8)
      go_wp2_with fail
      refine (HSM.out _).mono ?_; rintro e w11 ⟨rfl, hb11⟩; have hz11 := hb11.size; (try simp only [World.size_alloc, World.size_setCell, World.size_drew, World.heap_drewN] at hz11)
      go_wp2_with fail
      refine (HDV.out _).mono ?_; rintro e w12 ⟨v12, rfl, ho12, hb12⟩; obtain ⟨A12, c12, rfl, hr12⟩ := ho12.form
      have hz12 := hb12.size
      have R12 := Lib.hid hr12
      clear ho12 hr12
      go_wp2
      go_loopw [24, 137] (fun v24 v137 wr => ∃ k : Nat, k ≤ ds.length ∧ v137 = .int .i64 (k : Int) ∧ v24 = .int .i64 ((ds.take k).sum : Nat) ∧ Below w12.heap.size w12 wr) (fun _ v137 _ => ds.length - (intOf v137).toNat)
      case atStart => exact ⟨0, Nat.zero_le _, rfl, by simp, by (repeat' (first | (with_reducible exact Below.refl _ _) | (with_reducible assumption) | (with_reducible refine Below.drew ?_) | (with_reducible refine belowDrewN ?_ _) | (with_reducible refine Below.alloc ?_ ?_ _) | (with_reducible refine Below.setCell ?_ ?_ _) | (with_reducible refine belowStep (by assumption) ?_ ?_) | (with_reducible exact Below.size (by assumption)) | go_size))⟩
      case round =>
        obtain ⟨k, hk, rfl, rfl, hbr⟩ := hrel
        have hzr := hbr.size
        by_cases hlt : k < ds.length
        · obtain ⟨b, o, x, rfl, hbb, hx, hcell⟩ := (R12.out.below hbr).at_ (show k < (ints ds).length by omega)
          obtain ⟨d, rfl, hd⟩ := ints_at hx
          have hlt' : (k : Int) < (ds.length : Int) := by omega
          have hlt2 : (k : Int) < ((ints ds).length : Int) := by omega
          have E := Lib.hid (sum_take hd)
          obtain ⟨hd1, hd2, hd3⟩ := HDS.out d (List.mem_of_getElem? hd)
          have ht := sum_take_le (fun d h => (HDS.out d h).2.1) k
          obtain ⟨r1, r2, _, _⟩ := @remv2 N d
          rw [hd3] at r1 r2
          have hdn : (d : Int) ≠ 0 := by omega
          clear hx hd hd3
          go_wp2
          go_roundw
          case rel => exact ⟨k + 1, by omega, by go_num, by rw [E.out]; go_num, by (repeat' (first | (with_reducible exact Below.refl _ _) | (with_reducible assumption) | (with_reducible refine Below.drew ?_) | (with_reducible refine belowDrewN ?_ _) | (with_reducible refine Below.alloc ?_ ?_ _) | (with_reducible refine Below.setCell ?_ ?_ _) | (with_reducible refine belowStep (by assumption) ?_ ?_) | (with_reducible exact Below.size (by assumption)) | go_size))⟩
          case measure => simp [intOf]; omega
        · obtain rfl : k = ds.length := by omega
          have hlt2 : ¬ (ds.length : Int) < ((ints ds).length : Int) := by omega
          have hsum : (((ds.take ds.length).sum : Nat) : Int) = (sig N : Int) := by rw [List.take_length, ESM.out]
          rw [hsum]
          have hbq : Below w.heap.size w _ := (by (repeat' (first | (with_reducible exact Below.refl _ _) | (with_reducible assumption) | (with_reducible refine Below.drew ?_) | (with_reducible refine belowDrewN ?_ _) | (with_reducible refine Below.alloc ?_ ?_ _) | (with_reducible refine Below.setCell ?_ ?_ _) | (with_reducible refine belowStep (by assumption) ?_ ?_) | (with_reducible exact Below.size (by assumption)) | go_size)))
          obtain ⟨wo, rfl⟩ : ∃ x : World, x = wr := ⟨_, rfl⟩
          go_wp2_with fail
          refine (HPP.out _).mono ?_; rintro e w14 ⟨va, vb, rfl, hoa, hob, hb14⟩; obtain ⟨A14, c14, rfl, hra⟩ := hoa.form; obtain ⟨B14, d14, rfl, hrb⟩ := hob.form
          have hz14 := hb14.size
          have RA := Lib.hid hra
          have RB := Lib.hid hrb
          clear hoa hob hra hrb hsum
          have hyz : (((ys.length : Nat) : Int) != ((zs.length : Nat) : Int)) = false := by simp; omega
          have hsg : ((((sig N : Nat) : Int)) != ((sig N : Nat) : Int)) = false := by simp
          go_wp2
          go_loopw [30, 31, 179] (fun v30 v31 v179 wq => ∃ k b c : Nat, v30 = .int .i64 (b : Int) ∧ v31 = .int .i64 (c : Int) ∧ v179 = .int .i64 (k : Int) ∧ k ≤ ys.length ∧ Pq N k b c ∧ Below w14.heap.size w14 wq) (fun _ _ v179 _ => ys.length - (intOf v179).toNat)
          case atStart => exact ⟨0, 1, 1, rfl, rfl, rfl, Nat.zero_le _, PQ0.out, by (repeat' (first | (with_reducible exact Below.refl _ _) | (with_reducible assumption) | (with_reducible refine Below.drew ?_) | (with_reducible refine belowDrewN ?_ _) | (with_reducible refine Below.alloc ?_ ?_ _) | (with_reducible refine Below.setCell ?_ ?_ _) | (with_reducible refine belowStep (by assumption) ?_ ?_) | (with_reducible exact Below.size (by assumption)) | go_size))⟩
          case round =>
            obtain ⟨k, b, c, rfl, rfl, rfl, hk, hpq, hbs⟩ := hrel
            obtain ⟨ws, rfl⟩ : ∃ x : World, x = wr := ⟨_, rfl⟩
            have HPQ := Lib.hid hpq
            have hzs := hbs.size
            have hbt := hpq.top
            have hct := hpq.topc
            clear hpq
            by_cases hlt : k < ys.length
            · obtain ⟨⟨p, m⟩, hx⟩ : ∃ x, (pps N)[k]? = some x := ⟨_, List.getElem?_eq_getElem (show k < (pps N).length by omega)⟩
              obtain ⟨hp1, hp2, hm1, hm2⟩ := HPQ.out.small hx
              obtain ⟨b8, o8, x8, rfl, hbb, hy, hcell⟩ := (RA.out.below hbs).at_ hlt
              obtain ⟨b9, o9, x9, rfl, hbb', hy', hcell'⟩ := (RB.out.below hbs).at_ (show k < zs.length by omega)
              rw [Hys.out, fsts_at hx] at hy
              rw [Hzs.out, snds_at hx] at hy'
              injection hy with hy
              injection hy' with hy'
              subst hy hy'
              have hki : (k : Int) < (ys.length : Int) := by omega
              have hkz : (k : Int) < (zs.length : Int) := by omega
              have hnx := HPQ.out.next hx
              have ht := hnx.top
              have htc := hnx.topc
              have HX := Lib.hid hnx
              clear hx hnx
              go_wp2
              go_loopw [30, 34] (fun v30 v34 wz => ∃ j : Nat, j ≤ m ∧ v30 = .int .i64 ((b * p ^ j : Nat) : Int) ∧ v34 = .int .i64 (j : Int) ∧ ∃ i, wz = ws.drewN i) (fun _ v34 _ => m - (intOf v34).toNat)
              case atStart => exact ⟨0, Nat.zero_le _, by simp, by simp, 0, rfl⟩
              case round =>
                obtain ⟨j, hj, rfl, rfl, i, rfl⟩ := hrel
                by_cases hjt : j < m
                · obtain ⟨e1, e2⟩ := pow_way hp1 hjt ht
                  have hcj : (j : Int) < (m : Int) := by omega
                  have e3 : ((b * p ^ j : Nat) : Int) * (p : Int) = ((b * p ^ (j + 1) : Nat) : Int) := by rw [← e1, Int.natCast_mul (b * p ^ j) p]
                  have e4 : b * p ^ j ≤ 2000 := Nat.le_trans (Nat.mul_le_mul_left b (Nat.pow_le_pow_right (by omega) (by omega))) e2
                  have hw : IntKind.i64.wrap (((b * p ^ j : Nat) : Int) * (p : Int)) = ((b * p ^ (j + 1) : Nat) : Int) := by rw [e3]; exact IntWalk.i64_in _ (by omega)
                  clear e1 e3
                  obtain ⟨z, hz9⟩ : ∃ z, z = b * p ^ (j + 1) := ⟨_, rfl⟩
                  rw [← hz9] at e2 hw
                  have EZ := Lib.hid hz9
                  clear hz9
                  generalize b * p ^ j = y at *
                  go_wp2
                  go_roundw
                  case rel => exact ⟨j + 1, by omega, by rw [← EZ.out], by go_num, i, rfl⟩
                  case measure => simp [intOf]; omega
                · obtain rfl : j = m := by omega
                  have hw : IntKind.i64.wrap ((c : Int) * ((j : Int) + 1)) = ((c * (j + 1) : Nat) : Int) := by rw [show (c : Int) * ((j : Int) + 1) = ((c * (j + 1) : Nat) : Int) from by rw [Int.natCast_mul]; rfl]; exact IntWalk.i64_in _ (by omega)
                  generalize b * p ^ j = y at *
                  obtain ⟨z, hz9⟩ : ∃ z, z = c * (j + 1) := ⟨_, rfl⟩
                  rw [← hz9] at hw htc HX
                  clear hz9
                  go_wp2
                  go_roundw
                  case rel => exact ⟨k + 1, y, z, rfl, rfl, by go_num, by omega, HX.out, by (repeat' (first | (with_reducible exact Below.refl _ _) | (with_reducible assumption) | (with_reducible refine Below.drew ?_) | (with_reducible refine belowDrewN ?_ _) | (with_reducible refine Below.alloc ?_ ?_ _) | (with_reducible refine Below.setCell ?_ ?_ _) | (with_reducible refine belowStep (by assumption) ?_ ?_) | (with_reducible exact Below.size (by assumption)) | go_size))⟩
                  case measure => simp [intOf]; omega
            · obtain ⟨q1, q2⟩ := HPQ.out.done (show (pps N).length ≤ k by omega)
              have hki : ¬ (k : Int) < (ys.length : Int) := by omega
              obtain rfl : b = N := q1
              have q3 : (c : Int) = ((ints ds).length : Int) := by omega
              rw [q3]
              clear q3 q2 hct hbt
              (go_wp2_with fail; refine (HSK.out _).mono ?_; rintro e w15 ⟨rfl, hb15⟩; have hz15 := hb15.size; go_wp2_with fail; refine (HDF.out _).mono ?_; rintro e w16 ⟨v16, rfl, _, hb16⟩; have hz16 := hb16.size; go_wp2; go_ret; exact ⟨rfl, by (repeat' (first | (with_reducible exact Below.refl _ _) | (with_reducible assumption) | (with_reducible refine Below.drew ?_) | (with_reducible refine belowDrewN ?_ _) | (with_reducible refine Below.alloc ?_ ?_ _) | (with_reducible refine Below.setCell ?_ ?_ _) | (with_reducible refine belowStep (by assumption) ?_ ?_) | (with_reducible exact Below.size (by assumption)) | go_size))⟩)
set_option maxRecDepth 100000 in
set_option maxHeartbeats 8000000 in
theorem FnPracticalNumbers_walk (w : World) (A : Option Addr) (c n : Nat) (B : Option Addr) (d m' : Nat) (hA : ReadsB w A n ∧ n ≤ 9223372036854775807) (hB : ReadsB w B m' ∧ m' ≤ 9223372036854775807) :
    Calls Try.prog 10 #[.slice A n c, .slice B m' d] w (Ret (.bool true) w) := by
  obtain ⟨hA, hn⟩ := hA
  obtain ⟨hB, hm'⟩ := hB
  have HA := Lib.hid hA
  cases hbig : bigB n m' with
  | true =>
    clear hA hB
    go_enter Try.func10, Try.ntmps10
    go_wp2_with fail
    refine (big_any _ _ _ _ _ _ _ hn hm').mono ?_; rintro e w1 ⟨rfl, k1, rfl⟩
    rw [hbig]
    go_wp2
    go_ret
    exact ⟨rfl, by (repeat' (first | (with_reducible exact Below.refl _ _) | (with_reducible assumption) | (with_reducible refine Below.drew ?_) | (with_reducible refine belowDrewN ?_ _) | (with_reducible refine Below.alloc ?_ ?_ _) | (with_reducible refine Below.setCell ?_ ?_ _) | (with_reducible refine belowStep (by assumption) ?_ ?_) | (with_reducible exact Below.size (by assumption)) | go_size))⟩
  | false =>
    have hn2 : n ≤ 1048576 := by
      simp only [bigB, Bool.or_eq_false_iff, decide_eq_false_iff_not] at hbig
      omega
    exact pn_whole w A c n B d m' hA hn hm' hbig hn2 (fun w' hb => drawIsPractical_any w' A n c (HA.out.below hb) hn2)

set_option maxRecDepth 100000 in
theorem FnPracticalNumbers_lifted (os : Os) (started : os.Started) (H : Type) (enc : TypeId × Value → H) :
    ReturnsInHanded {} Try.checked os 10 .any (Rows.fnPracticalNumbersSpec.pre6 enc Try.prog Try.f10 Rows.fnPracticalNumbersRow.domain false) (Rows.fnPracticalNumbersSpec.post enc Try.prog Try.f10 false true false false) := by
  refine returnsInHanded_of_change (C := Try.checked) own started (by kernel_rfl) Try.func10
    (ChangeSpec.witness6 (enc := enc) (C := Try.checked) false ⟨#[], #[.slice none 0 0, .slice none 0 0], []⟩ 8 (by kernel_rfl) (by kernel_rfl) (by kernel_rfl) (by kernel_rfl)) ?_
  intro W base args ds gs before hval0 hW hcnd _
  have hval : ∀ (j : Nat) t v, Try.f10.params[j]? = some t → args[j]? = some v → Value.okWide Try.prog W .any base t v := hval0
  have hW' := hW
  have hlt : ∀ p ∈ before, p.block < W.heap.size := fun p hp => hW'.lt p hp
  obtain ⟨p, q, hA0, hV, rfl, hfz, hnd⟩ := hW
  have hA : DataW.TrodAll enc Try.prog W 0 (fun _ => true) true Try.f10.params.toList args.toList ds p := hA0
  rw [Try.params10] at hA hval
  obtain ⟨v0, vs0, d0, ds0, p0, q0, hargs, rfl, rfl, h0, r0⟩ := trodAll_cons hA
  obtain ⟨v1, vs1, d1, ds1, p1, q1, rfl, rfl, rfl, h1, r1⟩ := trodAll_cons r0
  obtain ⟨rfl, rfl, rfl⟩ := trodAll_nil r1
  obtain rfl : args = #[v0, v1] := by cases args; simp_all
  obtain ⟨rfl, rfl⟩ := trodVars_none hV
  obtain ⟨Aa, ca, na, rfl, ha⟩ := open_bytes_reads Try.underlying43 Try.underlying5 (by kernel_rfl) (hval 0 43 v0 rfl rfl) h0 (fun y hy => hlt y (by simp [hy]))
  obtain ⟨Ab, cb, nb, rfl, hb⟩ := open_bytes_reads Try.underlying43 Try.underlying5 (by kernel_rfl) (hval 1 43 v1 rfl rfl) h1 (fun y hy => hlt y (by simp [hy]))
  refine (FnPracticalNumbers_walk W Aa ca na Ab cb nb ha hb).mono fun e W' ⟨he, hg⟩ => ?_
  subst he
  exact ⟨_, rfl, law_post laidOut (by rw [Try.params10]; intro t ht; simp only [List.mem_cons, List.not_mem_nil, or_false] at ht; rcases ht with rfl | rfl <;> exact ⟨by kernel_rfl, of_decide_eq_true (by kernel_rfl)⟩) (by kernel_rfl) Try.underlying4 rfl hW' rfl hg⟩

theorem FnPracticalNumbers_closed : joinedFacts Try.prog 10 Try.f10 Rows.fnPracticalNumbersSpec Rows.fnPracticalNumbersRow = true := by
  unfold joinedFacts
  rw [mayEnter_eq, lifts_eq, make_eq]
  kernel_rfl

theorem FnPracticalNumbers_holds : Rows.FnPracticalNumbersSaid :=
  OpenClaim.holds_of_wide 10 Try.f10 rfl rfl rfl rfl rfl rfl rfl ⟨rfl, rfl, rfl, rfl, rfl⟩ rfl rfl rfl rfl rfl (by kernel_rfl) Try.func10 FnPracticalNumbers_closed
    (of_decide_eq_true (by kernel_rfl)) (by unfold Func.isWrapper; first | (rw [if_pos (by decide +kernel)]; kernel_rfl) | (rw [if_neg (by decide +kernel)]; exact ⟨rfl, rfl⟩))
    (fun os started H enc _ => FnPracticalNumbers_lifted os started H enc)

end Go.Proofs.Ytiapljimgnhgoab
