
/-
  Contracts of the texts of expansions, the program's and the model's.
-/
import Derived.Test.YtbjblkfibinenabDoorText
import Derived.Test.YtbjblkfibinenabDoorIfExp
import Derived.Lib.Join
import Derived.Deep.DeepFit
namespace Go.Proofs.YtbjblkfibinenabDoor
open Go.RowKit
def dec (x : Int) : List UInt8 := Lib.decDigits x.toNat
/-- the text of a list -/
def showE (xs : List Int) : List UInt8 := Lib.join (xs.map dec) [43]
theorem show_one (x : Int) : showE [x] = dec x := by simp [showE, Lib.join_one]
theorem show_snoc {xs : List Int} (h : xs ≠ []) (x : Int) : showE (xs ++ [x]) = showE xs ++ ([43] ++ dec x) := by
  match xs, h with
  | y :: r, _ =>
    unfold showE
    rw [List.cons_append, List.map_cons, List.map_cons, List.map_append, Lib.join_cons, Lib.join_cons]
    unfold Lib.joinTail
    simp [List.append_assoc]
theorem show_take {xs : List Int} {k : Nat} {x : Int} (hx : xs[k]? = some x) (h0 : 0 < k) : showE (xs.take (k + 1)) = showE (xs.take k) ++ ([43] ++ dec x) := by
  have hk : k < xs.length := (List.getElem?_eq_some_iff.1 hx).1
  have e : xs.take (k + 1) = xs.take k ++ [x] := by
    rw [List.take_succ_eq_append_getElem hk, (List.getElem?_eq_some_iff.1 hx).2]
  rw [e, show_snoc]
  intro h
  have := congrArg List.length h
  rw [List.length_take] at this
  simp only [List.length_nil] at this
  omega
theorem show_first {xs : List Int} {k : Nat} {x : Int} (hx : xs[k]? = some x) (hk : k = 0) : showE (xs.take (k + 1)) = showE (xs.take k) ++ dec x := by
  subst hk
  match xs, hx with
  | y :: r, hx =>
    simp only [List.getElem?_cons_zero, Option.some.injEq] at hx
    subst hx
    exact show_one y
theorem str3 (a c : List UInt8) : (⟨a.toArray⟩ : ByteArray) ++ ⟨#[43]⟩ ++ ⟨c.toArray⟩ = ⟨(a ++ ([43] ++ c)).toArray⟩ := by
  rw [show (⟨#[43]⟩ : ByteArray) = ⟨[43].toArray⟩ from rfl, str_add, str_add, List.append_assoc]
theorem dec_len' {x : Int} (h : 0 ≤ x ∧ x ≤ 9223372036854775807) : (dec x).length ≤ 20 := dec_len20 x h.1 h.2
theorem show_len (xs : List Int) (h : ∀ x ∈ xs, 0 ≤ x ∧ x ≤ 9223372036854775807) : (showE xs).length ≤ 21 * xs.length := by
  match xs, h with
  | [], _ => simp [showE, Lib.join_nil]
  | y :: r, h =>
    unfold showE
    rw [List.map_cons, Lib.join_cons]
    have h1 := dec_len' (h y (by simp))
    have h2 : ∀ (r : List Int), (∀ x ∈ r, 0 ≤ x ∧ x ≤ 9223372036854775807) → (Lib.joinTail [43] (r.map dec)).length ≤ 21 * r.length := by
      intro r
      induction r with
      | nil => intro _; simp [Lib.joinTail]
      | cons z s ih =>
        intro hr
        have h3 := dec_len' (hr z (by simp))
        have h4 := ih (fun x hx => hr x (by simp [hx]))
        simp only [Lib.joinTail, List.map_cons, List.flatten_cons, List.length_append, List.length_cons, List.length_nil] at h4 ⊢
        omega
    have h5 := h2 r (fun x hx => h x (by simp [hx]))
    simp only [List.length_append, List.length_cons]
    omega
set_option maxRecDepth 100000 in
set_option maxHeartbeats 4000000 in
theorem unShow_any (w : World) (Axs : Option Addr) (cxs : Nat) (xs : List Int) (hxs : Reads w Axs xs) (lxs : xs.length ≤ 1048576) (hl : xs.length ≤ 1000) (hs : ∀ x ∈ xs, 0 ≤ x ∧ x ≤ 9223372036854775807) : Calls Tryd.prog 42 #[.slice Axs xs.length cxs] w (RetS (showE xs) w) := by
  have Hxs := Lib.hid hxs
  have Hs := Lib.hid hs
  clear hxs hs
  go_enter Tryd.func42, Tryd.ntmps42
  go_wp2
  go_loopw [3, 8] (fun v3 v8 wr => ∃ k : Nat, k ≤ xs.length ∧ v8 = .int .i64 k ∧ v3 = .string ⟨(showE (xs.take k)).toArray⟩ ∧ Below w.heap.size w wr) (fun _ v8 _ => xs.length - (intOf v8).toNat)
  case atStart => exact ⟨0, Nat.zero_le _, rfl, rfl, Below.refl _ _⟩
  case round =>
    obtain ⟨k, hk, rfl, rfl, hbr⟩ := hrel
    have hzr := hbr.size
    by_cases hlt : k < xs.length
    · obtain ⟨b, o, x, rfl, hb, hx, hcell⟩ := (Hxs.out.below hbr).at_ hlt
      have hx2 := Hs.out x (List.mem_of_getElem? hx)
      have hln : (showE (xs.take k)).length ≤ 21 * k := by
        have := show_len (xs.take k) (fun x hx => Hs.out x (List.mem_of_mem_take hx))
        rw [List.length_take] at this
        omega
      have hld := dec_len' hx2
      unfold dec at hld
      by_cases h0 : k = 0
      · have HT := Lib.hid (show_first hx h0)
        have h0' : ¬ 0 < (k : Int) := by omega
        clear hx h0
        go_wp2_with fail
        refine (l1Num_any x _ (by omega) (by omega)).mono ?_; rintro e w1 ⟨rfl, hb1⟩; have hz1 := hb1.size; (try simp only [World.size_alloc, World.size_setCell, World.size_drew, World.heap_drewN] at hz1)
        go_wp2
        go_roundw
        case rel => exact ⟨k + 1, by omega, by go_num, by rw [HT.out]; first | rfl | (unfold dec; rw [← str_add]) | (unfold dec; simp), by (repeat' (first | (with_reducible exact Below.refl _ _) | (with_reducible assumption) | (with_reducible refine Below.drew ?_) | (with_reducible refine belowDrewN ?_ _) | (with_reducible refine Below.alloc ?_ ?_ _) | (with_reducible refine Below.setCell ?_ ?_ _) | (with_reducible refine belowStep (by assumption) ?_ ?_) | (with_reducible exact Below.size (by assumption)) | go_size))⟩
        case measure => simp [intOf]; omega
      · have h0' : 0 < (k : Int) := by omega
        have HT := Lib.hid (show_take hx (by omega))
        clear hx h0
        go_wp2_with fail
        refine (l1Num_any x _ (by omega) (by omega)).mono ?_; rintro e w1 ⟨rfl, hb1⟩; have hz1 := hb1.size; (try simp only [World.size_alloc, World.size_setCell, World.size_drew, World.heap_drewN] at hz1)
        go_wp2
        go_roundw
        case rel => exact ⟨k + 1, by omega, by go_num, by rw [HT.out]; unfold dec; rw [← str3], by (repeat' (first | (with_reducible exact Below.refl _ _) | (with_reducible assumption) | (with_reducible refine Below.drew ?_) | (with_reducible refine belowDrewN ?_ _) | (with_reducible refine Below.alloc ?_ ?_ _) | (with_reducible refine Below.setCell ?_ ?_ _) | (with_reducible refine belowStep (by assumption) ?_ ?_) | (with_reducible exact Below.size (by assumption)) | go_size))⟩
        case measure => simp [intOf]; omega
    · obtain rfl : k = xs.length := by omega
      go_wp2
      go_ret
      exact ⟨ret_str (by rw [List.take_length]), hbr⟩
/-- a slice of strings of the call's own -/
def OwnS (w : World) (base : Nat) (v : Value) (ls : List (List UInt8)) : Prop := w.ownsRow base 9 1 v ls.length (ls.map fun l => Value.string ⟨l.toArray⟩)
theorem OwnS.below {w w' : World} {base : Nat} {v : Value} {ls : List (List UInt8)} (h : OwnS w base v ls) (hb : Below w.heap.size w w') : OwnS w' base v ls := by
  refine ⟨h.1, ?_⟩
  rcases h.2 with h0 | ⟨g, cap, cur, hv, hbg, hg, r⟩
  · exact .inl h0
  · refine .inr ⟨g, cap, cur, hv, hbg, ?_, r⟩
    have hlt := (World.ownsRow.lt h g (by rw [hv]; rfl)).2
    rw [hb.block g hlt]
    exact hg
theorem OwnS.set_ {w : World} {base g n c : Nat} {ls : List (List UInt8)} (h : OwnS w base (.slice (some ⟨g, 0, none⟩) n c) ls) (hn : n = ls.length) (k : Nat) (l : List UInt8) :
    OwnS (w.setCell ⟨g, k, none⟩ (.string ⟨l.toArray⟩)) base (.slice (some ⟨g, 0, none⟩) n c) (ls.set k l) := by
  subst hn
  have := (World.ownsRow.stored (h : w.ownsRow _ _ _ _ _ _) k (.string ⟨l.toArray⟩)).1
  unfold OwnS
  rw [List.length_set, List.map_set]
  exact this
theorem OwnS.cell_ {w : World} {base g n c : Nat} {ls : List (List UInt8)} (h : OwnS w base (.slice (some ⟨g, 0, none⟩) n c) ls) (hn : n = ls.length) {k : Nat} {l : List UInt8} (hx : ls[k]? = some l) :
    w.cell? ⟨g, k, none⟩ = some (.string ⟨l.toArray⟩) ∧ w.frozen? ⟨g, k, none⟩ = false := by
  subst hn
  have hk : k < ls.length := (List.getElem?_eq_some_iff.1 hx).1
  refine ⟨?_, World.ownsRow.frozenAt (h : w.ownsRow _ _ _ _ _ _) k⟩
  rw [World.ownsRow.cellAt (h : w.ownsRow _ _ _ _ _ _) k (by omega), List.getElem?_map, hx]
  rfl
theorem strInfo : (Tryd.prog.info? 9).map (fun i => (i.zero, i.size, i.bytes)) = some (some (.string ⟨#[]⟩), 1, 16) := by kernel_rfl
def filledS (xs : List Int) (k : Nat) : List (List UInt8) := (xs.take k).map dec ++ List.replicate (xs.length - k) []
theorem filledS_len (xs : List Int) (k : Nat) (h : k ≤ xs.length) : (filledS xs k).length = xs.length := by simp [filledS]; omega
theorem filledS_all (xs : List Int) : filledS xs xs.length = xs.map dec := by simp [filledS]
theorem filledS_none (xs : List Int) : filledS xs 0 = List.replicate xs.length [] := by simp [filledS]
theorem filledS_set (xs : List Int) (k : Nat) (x : Int) (h : xs[k]? = some x) : (filledS xs k).set k (dec x) = filledS xs (k + 1) := by
  have hk : k < xs.length := (List.getElem?_eq_some_iff.1 h).1
  have hx : xs[k] = x := (List.getElem?_eq_some_iff.1 h).2
  have h1 : xs.take (k + 1) = xs.take k ++ [x] := by rw [List.take_succ_eq_append_getElem hk, hx]
  have h2 : List.replicate (xs.length - k) ([] : List UInt8) = [] :: List.replicate (xs.length - (k + 1)) [] := by
    rw [show xs.length - k = (xs.length - (k + 1)) + 1 from by omega, List.replicate_succ]
  have hl : ((xs.take k).map dec).length = k := by simp; omega
  unfold filledS
  rw [h1, h2, List.set_append_right _ _ (by omega), hl, Nat.sub_self, List.set_cons_zero, List.map_append, List.append_assoc]
  rfl
theorem filledS_at (xs : List Int) (k : Nat) (h : k < xs.length) : (filledS xs k)[k]? = some [] := by
  unfold filledS
  rw [List.getElem?_append, if_neg (by simp; omega), List.getElem?_replicate, if_pos (by simp; omega)]
theorem join_all (xs : List Int) : (Lib.join (((xs.map dec).map fun l => (⟨l.toArray⟩ : ByteArray)).map (·.data.toList)) (⟨#[43]⟩ : ByteArray).data.toList) = showE xs := by
  rw [List.map_map]
  unfold showE
  congr 1
  conv => rhs; rw [← List.map_id (xs.map dec)]
  apply List.map_congr_left
  intro l _
  simp
set_option maxRecDepth 100000 in
set_option maxHeartbeats 4000000 in
theorem joinNumbers_any (w1 : World) (Axs : Option Addr) (cxs : Nat) (xs : List Int) (hxs : Reads w1 Axs xs) (hl24 : xs.length ≤ 24) (hsm : ∀ x ∈ xs, 0 ≤ x ∧ x ≤ 1000000000) (hE : EnvI w1) : Calls Tryd.prog 44 #[.slice Axs xs.length cxs] w1 (RetS (showE xs) w1) := by
  have Hsm := Lib.hid hsm
  have Hxs := Lib.hid hxs
  have HE := Lib.hid hE
  clear hxs hE hsm
  obtain ⟨i0, hi, iz0, iz1, iz2⟩ := info_parts strInfo
  go_enter Tryd.func44, Tryd.ntmps44
  go_wp2_with (at_make; refine wpList_make_full _ rfl _ _ 58 rfl w1.heap.size 9 i0 (.string ⟨#[]⟩) 1 Tryd.underlying58 hi iz0 iz1 .i64 .i64 _ _ xs.length rfl rfl rfl rfl (by rw [iz2]; omega) (by unfold maxLen; omega) (Nat.le_refl _) ?_; intro w2 hown2 hgrow2)
  have hown : OwnS w2 w1.heap.size (.slice (some ⟨w1.heap.size, 0, none⟩) xs.length xs.length) (filledS xs 0) := by
    unfold OwnS
    rw [filledS_len _ _ (Nat.zero_le _), filledS_none, List.map_replicate]
    rw [show (Value.string ⟨#[]⟩).cells = #[Value.string ⟨#[]⟩] from rfl, Nat.mul_one, toList_madeCells_one] at hown2
    exact hown2
  have hb2 : Below w1.heap.size w1 w2 := (Below.refl _ _).grown hgrow2 (Nat.le_refl _) (by simp)
  have hz2' := hb2.size
  clear hown2 hgrow2
  go_loopw [11] (fun v15 wr => ∃ k : Nat, k ≤ xs.length ∧ v15 = .int .i64 k ∧ OwnS wr w1.heap.size (.slice (some ⟨w1.heap.size, 0, none⟩) xs.length xs.length) (filledS xs k) ∧ Below w1.heap.size w1 wr) (fun v15 _ => xs.length - (intOf v15).toNat)
  case atStart => exact ⟨0, Nat.zero_le _, rfl, hown, hb2⟩
  case round =>
    obtain ⟨k, hk, rfl, ho, hbr⟩ := hrel
    have hzr := hbr.size
    by_cases hlt : k < xs.length
    · obtain ⟨b, o, x, rfl, hb, hx, hcell⟩ := (Hxs.out.below (by (repeat' (first | (with_reducible exact Below.refl _ _) | (with_reducible assumption) | (with_reducible refine Below.drew ?_) | (with_reducible refine belowDrewN ?_ _) | (with_reducible refine Below.alloc ?_ ?_ _) | (with_reducible refine Below.setCell ?_ ?_ _) | (with_reducible refine belowStep (by assumption) ?_ ?_) | (with_reducible exact Below.size (by assumption)) | go_size)) : Below w1.heap.size w1 wr)).at_ hlt
      have hx2 := Hsm.out x (List.mem_of_getElem? hx)
      have Ho := Lib.hid ho
      have Hx := Lib.hid hx
      clear ho hx hown
      go_wp2_with fail
      refine (itoa_nat x _ (by omega) (by omega) (HE.out.below (by (repeat' (first | (with_reducible exact Below.refl _ _) | (with_reducible assumption) | (with_reducible refine Below.drew ?_) | (with_reducible refine belowDrewN ?_ _) | (with_reducible refine Below.alloc ?_ ?_ _) | (with_reducible refine Below.setCell ?_ ?_ _) | (with_reducible refine belowStep (by assumption) ?_ ?_) | (with_reducible exact Below.size (by assumption)) | go_size))))).mono ?_; rintro e w3 ⟨rfl, hb3⟩; have hz3 := hb3.size; (try simp only [World.size_alloc, World.size_setCell, World.size_drew, World.heap_drewN] at hz3)
      have Ho3 := Lib.hid (Ho.out.below hb3)
      obtain ⟨hC, hF⟩ := Ho3.out.cell_ (filledS_len xs k hk).symm (filledS_at xs k hlt)
      go_wp2
      go_roundw
      case rel => exact ⟨k + 1, by omega, by go_num, by rw [← filledS_set xs k x Hx.out]; exact Ho3.out.set_ (filledS_len xs k hk).symm k (dec x), (show Below w1.heap.size w1 w3 by (repeat' (first | (with_reducible exact Below.refl _ _) | (with_reducible assumption) | (with_reducible refine Below.drew ?_) | (with_reducible refine belowDrewN ?_ _) | (with_reducible refine Below.alloc ?_ ?_ _) | (with_reducible refine Below.setCell ?_ ?_ _) | (with_reducible refine belowStep (by assumption) ?_ ?_) | (with_reducible exact Below.size (by assumption)) | go_size))).setCell (Nat.le_refl _) _⟩
      case measure => simp [intOf]; omega
    · obtain rfl : k = xs.length := by omega
      rw [filledS_all] at ho
      have Ho := Lib.hid ho
      clear ho hown
      by_cases h0 : xs.length = 0
      · have hj : showE xs = [] := by rw [List.eq_nil_of_length_eq_zero h0]; rfl
        have HJ0 : Hid (Calls Tryd.prog 72 #[.slice (some ⟨w1.heap.size, 0, none⟩) xs.length xs.length, .string ⟨#[43]⟩] wr (RetS (showE xs) wr)) := by
          show Calls _ _ _ _ _
          rw [h0, hj]
          exact (Tryd.strings_Join_none _ _ _ _).mono fun e w' ⟨he, hw⟩ => ⟨he, by rw [hw]; exact Below.refl _ _⟩
        clear h0 hj
        go_wp2_with fail
        go_fit HJ0.out; rintro e w4 ⟨rfl, hb4⟩
        go_wp2
        go_ret
        exact ⟨rfl, by (repeat' (first | (with_reducible exact Below.refl _ _) | (with_reducible assumption) | (with_reducible refine Below.drew ?_) | (with_reducible refine belowDrewN ?_ _) | (with_reducible refine Below.alloc ?_ ?_ _) | (with_reducible refine Below.setCell ?_ ?_ _) | (with_reducible refine belowStep (by assumption) ?_ ?_) | (with_reducible exact Below.size (by assumption)) | go_size))⟩
      · have hbl := (World.ownsRow.lt Ho.out w1.heap.size rfl).2
        have hlen := show_len xs (fun x hx => by have := Hsm.out x hx; omega)
        have hcells : ∀ (j : Nat) x, ((xs.map dec).map fun l => (⟨l.toArray⟩ : ByteArray))[j]? = some x → wr.cell? ⟨w1.heap.size, 0 + j, none⟩ = some (.string x) := fun j x hx => by
          rw [List.getElem?_map] at hx
          cases hj : (xs.map dec)[j]? with
          | none => rw [hj] at hx; cases hx
          | some l =>
            rw [hj] at hx
            simp only [Option.map_some, Option.some.injEq] at hx
            subst hx
            rw [Nat.zero_add]
            exact (Ho.out.cell_ (by simp) hj).1
        have HJ := Lib.hid (Tryd.strings_Join w1.heap.size 0 xs.length ((xs.map dec).map fun l => (⟨l.toArray⟩ : ByteArray)) ⟨#[43]⟩ wr hcells hbl (by simp; omega) (by simp) (by rw [join_all]; omega))
        have HJ2 : Hid (Calls Tryd.prog 72 #[.slice (some ⟨w1.heap.size, 0, none⟩) xs.length xs.length, .string ⟨#[43]⟩] wr (RetS (showE xs) wr)) := by
          have := HJ.out
          rw [join_all, List.length_map, List.length_map] at this
          exact this
        clear hcells HJ
        go_wp2_with fail
        go_fit HJ2.out; rintro e w4 ⟨rfl, hb4⟩
        go_wp2
        go_ret
        exact ⟨rfl, by (repeat' (first | (with_reducible exact Below.refl _ _) | (with_reducible assumption) | (with_reducible refine Below.drew ?_) | (with_reducible refine belowDrewN ?_ _) | (with_reducible refine Below.alloc ?_ ?_ _) | (with_reducible refine Below.setCell ?_ ?_ _) | (with_reducible refine belowStep (by assumption) ?_ ?_) | (with_reducible exact Below.size (by assumption)) | go_size))⟩
theorem textE_yes (w : World) (Axs : Option Addr) (cxs : Nat) (xs : List Int) (hxs : Reads w Axs xs) (lxs : xs.length ≤ 1048576) (h : expB xs = true) (hE : EnvI w) : Calls Tryd.prog 13 #[.slice Axs xs.length cxs] w (RetSB (showE xs) true w) := by
  have hl24 := expB_len h
  have Hsm := Lib.hid (expB_small h)
  have H64 := Lib.hid (show In64 xs from fun i x hx => by have := expB_small h x (List.mem_of_getElem? hx); omega)
  have Hxs := Lib.hid hxs
  have HE := Lib.hid hE
  have H := Lib.hid h
  clear hxs hE h
  go_enter Tryd.func13, Tryd.ntmps13
  go_wp2_with fail
  refine (isExpansion_any _ _ _ _ (Hxs.out.below (by (repeat' (first | (with_reducible exact Below.refl _ _) | (with_reducible assumption) | (with_reducible refine Below.drew ?_) | (with_reducible refine belowDrewN ?_ _) | (with_reducible refine Below.alloc ?_ ?_ _) | (with_reducible refine Below.setCell ?_ ?_ _) | (with_reducible refine belowStep (by assumption) ?_ ?_) | (with_reducible exact Below.size (by assumption)) | go_size)))) lxs H64.out).mono ?_; rintro e w1 ⟨rfl, hb1⟩; have hz1 := hb1.size; (try simp only [World.size_alloc, World.size_setCell, World.size_drew, World.heap_drewN] at hz1)
  rw [H.out]
  obtain ⟨hc1, hf1⟩ := bcellB hb1; have hz1 := hb1.size; (try simp only [World.size_alloc, World.size_setCell, World.size_drew, World.heap_drewN] at hc1 hf1 hz1); (try have hy1_r_0 : wr.heap.size < w1.heap.size := by omega); (try have hn1_r_0 : wr.heap.size ≠ w1.heap.size := by omega); (try have hm1_r_0 : w1.heap.size ≠ wr.heap.size := by omega); (try have hy1_r_1 : wr.heap.size + 1 < w1.heap.size := by omega); (try have hn1_r_1 : wr.heap.size + 1 ≠ w1.heap.size := by omega); (try have hm1_r_1 : w1.heap.size ≠ wr.heap.size + 1 := by omega); (try have hy1_r_2 : wr.heap.size + 1 + 1 < w1.heap.size := by omega); (try have hp1_r_1 : wr.heap.size < w1.heap.size + 1 := by omega); (try have hp1_r_2 : wr.heap.size < w1.heap.size + 1 + 1 := by omega); (try have hy1_0_0 : w.heap.size < w1.heap.size := by omega); (try have hn1_0_0 : w.heap.size ≠ w1.heap.size := by omega); (try have hm1_0_0 : w1.heap.size ≠ w.heap.size := by omega); (try have hy1_0_1 : w.heap.size + 1 < w1.heap.size := by omega); (try have hn1_0_1 : w.heap.size + 1 ≠ w1.heap.size := by omega); (try have hm1_0_1 : w1.heap.size ≠ w.heap.size + 1 := by omega); (try have hy1_0_2 : w.heap.size + 1 + 1 < w1.heap.size := by omega); (try have hp1_0_1 : w.heap.size < w1.heap.size + 1 := by omega); (try have hp1_0_2 : w.heap.size < w1.heap.size + 1 + 1 := by omega); (try have hg1_g1 : g1 < w1.heap.size := by omega); (try have hi1_g1 : g1 ≠ w1.heap.size := by omega); (try have hj1_g1 : w1.heap.size ≠ g1 := by omega); (try have hk1_g1 : g1 < w1.heap.size + 1 := by omega); (try have hg1_g2 : g2 < w1.heap.size := by omega); (try have hi1_g2 : g2 ≠ w1.heap.size := by omega); (try have hj1_g2 : w1.heap.size ≠ g2 := by omega); (try have hk1_g2 : g2 < w1.heap.size + 1 := by omega)
  go_wp2_with fail
  refine (joinNumbers_any _ _ _ xs (Hxs.out.below (by (repeat' (first | (with_reducible exact Below.refl _ _) | (with_reducible assumption) | (with_reducible refine Below.drew ?_) | (with_reducible refine belowDrewN ?_ _) | (with_reducible refine Below.alloc ?_ ?_ _) | (with_reducible refine Below.setCell ?_ ?_ _) | (with_reducible refine belowStep (by assumption) ?_ ?_) | (with_reducible exact Below.size (by assumption)) | go_size)))) hl24 (fun x hx => by have := Hsm.out x hx; omega) (HE.out.below (by (repeat' (first | (with_reducible exact Below.refl _ _) | (with_reducible assumption) | (with_reducible refine Below.drew ?_) | (with_reducible refine belowDrewN ?_ _) | (with_reducible refine Below.alloc ?_ ?_ _) | (with_reducible refine Below.setCell ?_ ?_ _) | (with_reducible refine belowStep (by assumption) ?_ ?_) | (with_reducible exact Below.size (by assumption)) | go_size))))).mono ?_; rintro e w2 ⟨rfl, hb2⟩; have hz2 := hb2.size; (try simp only [World.size_alloc, World.size_setCell, World.size_drew, World.heap_drewN] at hz2)
  go_wp2
  go_ret2
  exact ⟨rfl, by (repeat' (first | (with_reducible exact Below.refl _ _) | (with_reducible assumption) | (with_reducible refine Below.drew ?_) | (with_reducible refine belowDrewN ?_ _) | (with_reducible refine Below.alloc ?_ ?_ _) | (with_reducible refine Below.setCell ?_ ?_ _) | (with_reducible refine belowStep (by assumption) ?_ ?_) | (with_reducible exact Below.size (by assumption)) | go_size))⟩
theorem textE_no (w : World) (Axs : Option Addr) (cxs : Nat) (xs : List Int) (hxs : Reads w Axs xs) (lxs : xs.length ≤ 1048576) (h64 : In64 xs) (h : expB xs = false) : Calls Tryd.prog 13 #[.slice Axs xs.length cxs] w (RetSB [] false w) := by
  have Hxs := Lib.hid hxs
  have H64 := Lib.hid h64
  have H := Lib.hid h
  clear hxs h64 h
  go_enter Tryd.func13, Tryd.ntmps13
  go_wp2_with fail
  refine (isExpansion_any _ _ _ _ (Hxs.out.below (by (repeat' (first | (with_reducible exact Below.refl _ _) | (with_reducible assumption) | (with_reducible refine Below.drew ?_) | (with_reducible refine belowDrewN ?_ _) | (with_reducible refine Below.alloc ?_ ?_ _) | (with_reducible refine Below.setCell ?_ ?_ _) | (with_reducible refine belowStep (by assumption) ?_ ?_) | (with_reducible exact Below.size (by assumption)) | go_size)))) lxs H64.out).mono ?_; rintro e w1 ⟨rfl, hb1⟩; have hz1 := hb1.size; (try simp only [World.size_alloc, World.size_setCell, World.size_drew, World.heap_drewN] at hz1)
  rw [H.out]
  go_wp2
  go_ret2
  exact ⟨rfl, by (repeat' (first | (with_reducible exact Below.refl _ _) | (with_reducible assumption) | (with_reducible refine Below.drew ?_) | (with_reducible refine belowDrewN ?_ _) | (with_reducible refine Below.alloc ?_ ?_ _) | (with_reducible refine Below.setCell ?_ ?_ _) | (with_reducible refine belowStep (by assumption) ?_ ?_) | (with_reducible exact Below.size (by assumption)) | go_size))⟩
theorem spec_textE_yes (w : World) (Axs : Option Addr) (cxs : Nat) (xs : List Int) (hxs : Reads w Axs xs) (lxs : xs.length ≤ 1048576) (h : expB xs = true) : Calls Tryd.prog 11 #[.slice Axs xs.length cxs] w (RetSB (showE xs) true w) := by
  have hl24 := expB_len h
  have Hsm := Lib.hid (show ∀ x ∈ xs, 0 ≤ x ∧ x ≤ 9223372036854775807 from fun x hx => by have := expB_small h x hx; omega)
  have Hxs := Lib.hid hxs
  have H := Lib.hid h
  clear hxs h
  go_enter Tryd.func11, Tryd.ntmps11
  go_wp2_with fail
  refine (unExpansion_any _ _ _ _ (Hxs.out.below (by (repeat' (first | (with_reducible exact Below.refl _ _) | (with_reducible assumption) | (with_reducible refine Below.drew ?_) | (with_reducible refine belowDrewN ?_ _) | (with_reducible refine Below.alloc ?_ ?_ _) | (with_reducible refine Below.setCell ?_ ?_ _) | (with_reducible refine belowStep (by assumption) ?_ ?_) | (with_reducible exact Below.size (by assumption)) | go_size)))) lxs).mono ?_; rintro e w1 ⟨rfl, hb1⟩; have hz1 := hb1.size; (try simp only [World.size_alloc, World.size_setCell, World.size_drew, World.heap_drewN] at hz1)
  rw [H.out]
  go_wp2_with fail
  refine (unShow_any _ _ _ _ (Hxs.out.below (by (repeat' (first | (with_reducible exact Below.refl _ _) | (with_reducible assumption) | (with_reducible refine Below.drew ?_) | (with_reducible refine belowDrewN ?_ _) | (with_reducible refine Below.alloc ?_ ?_ _) | (with_reducible refine Below.setCell ?_ ?_ _) | (with_reducible refine belowStep (by assumption) ?_ ?_) | (with_reducible exact Below.size (by assumption)) | go_size)))) lxs (by omega) Hsm.out).mono ?_; rintro e w2 ⟨rfl, hb2⟩; have hz2 := hb2.size; (try simp only [World.size_alloc, World.size_setCell, World.size_drew, World.heap_drewN] at hz2)
  go_wp2
  go_ret2
  exact ⟨rfl, by (repeat' (first | (with_reducible exact Below.refl _ _) | (with_reducible assumption) | (with_reducible refine Below.drew ?_) | (with_reducible refine belowDrewN ?_ _) | (with_reducible refine Below.alloc ?_ ?_ _) | (with_reducible refine Below.setCell ?_ ?_ _) | (with_reducible refine belowStep (by assumption) ?_ ?_) | (with_reducible exact Below.size (by assumption)) | go_size))⟩
theorem spec_textE_no (w : World) (Axs : Option Addr) (cxs : Nat) (xs : List Int) (hxs : Reads w Axs xs) (lxs : xs.length ≤ 1048576) (h : expB xs = false) : Calls Tryd.prog 11 #[.slice Axs xs.length cxs] w (RetSB [] false w) := by
  have Hxs := Lib.hid hxs
  have H := Lib.hid h
  clear hxs h
  go_enter Tryd.func11, Tryd.ntmps11
  go_wp2_with fail
  refine (unExpansion_any _ _ _ _ (Hxs.out.below (by (repeat' (first | (with_reducible exact Below.refl _ _) | (with_reducible assumption) | (with_reducible refine Below.drew ?_) | (with_reducible refine belowDrewN ?_ _) | (with_reducible refine Below.alloc ?_ ?_ _) | (with_reducible refine Below.setCell ?_ ?_ _) | (with_reducible refine belowStep (by assumption) ?_ ?_) | (with_reducible exact Below.size (by assumption)) | go_size)))) lxs).mono ?_; rintro e w1 ⟨rfl, hb1⟩; have hz1 := hb1.size; (try simp only [World.size_alloc, World.size_setCell, World.size_drew, World.heap_drewN] at hz1)
  rw [H.out]
  go_wp2
  go_ret2
  exact ⟨rfl, by (repeat' (first | (with_reducible exact Below.refl _ _) | (with_reducible assumption) | (with_reducible refine Below.drew ?_) | (with_reducible refine belowDrewN ?_ _) | (with_reducible refine Below.alloc ?_ ?_ _) | (with_reducible refine Below.setCell ?_ ?_ _) | (with_reducible refine belowStep (by assumption) ?_ ?_) | (with_reducible exact Below.size (by assumption)) | go_size))⟩
end Go.Proofs.YtbjblkfibinenabDoor
