
/-
  The contract of putting fresh numbers into an expansion.
-/
import Derived.Test.YtbjblkfibinenacPut
import Derived.Test.YtbjblkfibinenacKeep
namespace Go.Proofs.Ytbjblkfibinenac
open Go.RowKit
/-- the list with the fresh numbers in it, if none is there -/
def intoL : List Int → List Int → Option (List Int)
  | xs, [] => some xs
  | xs, f :: fs => if hasB xs f = true then none else intoL (insAt xs (pos xs f) f) fs
def intoB (xs fs : List Int) : Bool := match intoL xs fs with | some ys => expB ys | none => false
def intoR (xs fs : List Int) : List Int := match intoL xs fs with | some ys => if expB ys = true then ys else [] | none => []
theorem into_yes {xs fs : List Int} {f : Int} (h : hasB xs f = true) : intoL xs (f :: fs) = none := by rw [intoL, if_pos h]
theorem into_no {xs fs : List Int} {f : Int} (h : hasB xs f = false) : intoL xs (f :: fs) = intoL (insAt xs (pos xs f) f) fs := by rw [intoL, h]; rfl
theorem into_none {xs fs : List Int} (h : intoL xs fs = none) : intoB xs fs = false ∧ intoR xs fs = [] := by simp [intoB, intoR, h]
theorem into_some {xs fs ys : List Int} (h : intoL xs fs = some ys) : intoB xs fs = expB ys ∧ intoR xs fs = if expB ys = true then ys else [] := by simp [intoB, intoR, h]
theorem In64.ins {xs : List Int} {v : Int} (h : In64 xs) (hv : -9223372036854775808 ≤ v ∧ v ≤ 9223372036854775807) (p : Nat) : In64 (insAt xs p v) := In64.of_mem (fun x hx => by
  rcases ins_mem.1 hx with rfl | hx
  · exact hv
  · exact h.mem x hx)
theorem ret_lnil {w w' : World} (h : Below w.heap.size w w') : RetLB [] false w (.returned (.tuple #[.slice none 0 0, .bool false])) w' := ⟨_, rfl, OwnI.empty _ _, h⟩
set_option maxHeartbeats 2000000 in
theorem putInto_any (w : World) (Axs : Option Addr) (cxs : Nat) (xs : List Int) (hxs : Reads w Axs xs) (lxs : xs.length ≤ 1048576) (Afs : Option Addr) (cfs : Nat) (fs : List Int) (hfs : Reads w Afs fs) (lfs : fs.length ≤ 1048576) (hcap : xs.length ≤ cxs) (hs : Rising xs) (h64 : In64 xs) (f64 : In64 fs) (h24 : xs.length ≤ 24) (hf : fs.length ≤ 4) (hf0 : 0 < fs.length) :
    Calls Try.prog 119 #[.slice Axs xs.length cxs, .slice Afs fs.length cfs] w (RetLB (intoR xs fs) (intoB xs fs) w) := by
  have Hxs := Lib.hid hxs
  have Hfs := Lib.hid hfs
  have F64 := Lib.hid f64
  have H64 := Lib.hid h64
  have Hs := Lib.hid hs
  clear hxs hfs f64 h64 hs
  go_enter Try.func119, Try.ntmps119
  go_wp2
  go_loopw [0, 12] (fun v0 v12 wr => ∃ (k : Nat) (ys : List Int) (A' : Option Addr) (c' : Nat), k ≤ fs.length ∧ v12 = .int .i64 k ∧ v0 = .slice A' ys.length c' ∧ ys.length ≤ c' ∧ Reads wr A' ys ∧ Rising ys ∧ ys.length = xs.length + k ∧ In64 ys ∧ intoL xs fs = intoL ys (fs.drop k) ∧ (0 < k → OwnI wr w.heap.size v0 ys) ∧ Below w.heap.size w wr) (fun _ v12 _ => fs.length - (intOf v12).toNat)
  case atStart => exact ⟨0, xs, _, _, Nat.zero_le _, rfl, rfl, hcap, Hxs.out, Hs.out, rfl, H64.out, rfl, fun h => absurd h (by omega), by (repeat' (first | (with_reducible exact Below.refl _ _) | (with_reducible assumption) | (with_reducible refine Below.drew ?_) | (with_reducible refine belowDrewN ?_ _) | (with_reducible refine Below.alloc ?_ ?_ _) | (with_reducible refine Below.setCell ?_ ?_ _) | (with_reducible refine belowStep (by assumption) ?_ ?_) | (with_reducible exact Below.size (by assumption)) | go_size))⟩
  case round =>
    obtain ⟨k, ys, A', c', hk, rfl, rfl, hcy, hry, hsy, hly, hy64, hin, hoy, hbr⟩ := hrel
    have hly' : ys.length ≤ 1048576 := by omega
    have Hly := Lib.hid hly
    have Hry := Lib.hid hry
    have Hsy := Lib.hid hsy
    have Hy64 := Lib.hid hy64
    have Hin := Lib.hid hin
    have Hoy := Lib.hid hoy
    have hsz := hbr.size
    clear hly hry hsy hy64 hin hoy
    by_cases hlt : k < fs.length
    · obtain ⟨b, o, x, rfl, hb, hx, hcell⟩ := (Hfs.out.below hbr).at_ hlt
      have hx64 := F64.out k x hx
      have Hx := Lib.hid hx
      clear hx
      cases hh : hasB ys x with
      | true =>
        have Hn : Hid (intoL xs fs = none) := by
          show intoL xs fs = none
          rw [Hin.out, drop_at Hx.out, into_yes hh]
        go_wp2_with fail
        refine (putIn_yes _ _ _ _ _ Hry.out hly' Hsy.out hh).mono ?_; rintro e w1 ⟨rfl, hb1⟩
        go_wp2
        go_ret2
        rw [(into_none Hn.out).1, (into_none Hn.out).2]
        exact ret_lnil (by (repeat' (first | (with_reducible exact Below.refl _ _) | (with_reducible assumption) | (with_reducible refine Below.drew ?_) | (with_reducible refine belowDrewN ?_ _) | (with_reducible refine Below.alloc ?_ ?_ _) | (with_reducible refine Below.setCell ?_ ?_ _) | (with_reducible refine belowStep (by assumption) ?_ ?_) | (with_reducible exact Below.size (by assumption)) | go_size)))
      | false =>
        have Hn : Hid (intoL xs fs = intoL (insAt ys (pos ys x) x) (fs.drop (k + 1))) := by
          show intoL xs fs = _
          rw [Hin.out, drop_at Hx.out, into_no hh]
        have hi := pos_le ys x
        have Hil := Lib.hid (ins_len ys _ x hi)
        have Hir := Lib.hid (Hsy.out.ins (v := x) (by rw [hh]; simp))
        have Hi64 := Lib.hid (Hy64.out.ins hx64 (pos ys x))
        go_wp2_with fail
        refine (putIn_no _ _ _ _ _ Hry.out hly' hcy Hsy.out hh).mono ?_; rintro e w1 ⟨v1, rfl, ho1, hb1⟩
        obtain ⟨A1, c1, rfl, hr1⟩ := ho1.form
        have hc1 := ho1.cap_
        have Ho1 := Lib.hid ho1
        have Hr1 := Lib.hid hr1
        clear ho1 hr1
        go_wp2
        go_roundw
        case rel => exact ⟨k + 1, _, _, _, by omega, by go_num, rfl, hc1, Hr1.out, Hir.out, by rw [Hil.out, Hly.out]; omega, Hi64.out, Hn.out, fun _ => Ho1.out.mono hsz, by (repeat' (first | (with_reducible exact Below.refl _ _) | (with_reducible assumption) | (with_reducible refine Below.drew ?_) | (with_reducible refine belowDrewN ?_ _) | (with_reducible refine Below.alloc ?_ ?_ _) | (with_reducible refine Below.setCell ?_ ?_ _) | (with_reducible refine belowStep (by assumption) ?_ ?_) | (with_reducible exact Below.size (by assumption)) | go_size))⟩
        case measure => simp [intOf]; omega
    · obtain rfl : k = fs.length := by omega
      have Hn : Hid (intoL xs fs = some ys) := by
        show intoL xs fs = some ys
        rw [Hin.out, drop_all]; rfl
      cases he : expB ys with
      | true =>
        go_wp2_with fail
        refine (ifExp_yes _ _ _ _ Hry.out hly' Hy64.out he).mono ?_; rintro e w1 ⟨rfl, hb1⟩
        go_wp2
        go_ret2
        rw [(into_some Hn.out).1, (into_some Hn.out).2, he, if_pos rfl]
        exact ⟨_, rfl, (Hoy.out hf0).below hb1, by (repeat' (first | (with_reducible exact Below.refl _ _) | (with_reducible assumption) | (with_reducible refine Below.drew ?_) | (with_reducible refine belowDrewN ?_ _) | (with_reducible refine Below.alloc ?_ ?_ _) | (with_reducible refine Below.setCell ?_ ?_ _) | (with_reducible refine belowStep (by assumption) ?_ ?_) | (with_reducible exact Below.size (by assumption)) | go_size))⟩
      | false =>
        go_wp2_with fail
        refine (ifExp_no _ _ _ _ Hry.out hly' Hy64.out he).mono ?_; rintro e w1 ⟨rfl, hb1⟩
        go_wp2
        go_ret2
        rw [(into_some Hn.out).1, (into_some Hn.out).2, he]
        exact ret_lnil (by (repeat' (first | (with_reducible exact Below.refl _ _) | (with_reducible assumption) | (with_reducible refine Below.drew ?_) | (with_reducible refine belowDrewN ?_ _) | (with_reducible refine Below.alloc ?_ ?_ _) | (with_reducible refine Below.setCell ?_ ?_ _) | (with_reducible refine belowStep (by assumption) ?_ ?_) | (with_reducible exact Below.size (by assumption)) | go_size)))
end Go.Proofs.Ytbjblkfibinenac
