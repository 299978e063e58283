
/-
  Contract of DivisorsFor in the program.
-/
import Derived.Test.YtbjblkfibinenadReaQ
import Derived.Test.YtbjblkfibinenadForS
namespace Go.Proofs.Ytbjblkfibinenad
open Go.RowKit
/-- a chain that reads as a list -/
def ChainAt (w : World) : List Nat → Value → Prop
  | [], v => v = .pointer none
  | d :: ds, v => ∃ g u, v = .pointer (some ⟨g, 0, none⟩) ∧ w.heap[g]? = some (.cells #[.int .i64 (d : Int), u] 73) ∧ ChainAt w ds u
theorem ChainAt.grown {w w' : World} {row : Option Nat} (hg : w.grownBy w' row) (hr : ∀ j, row = some j → ∀ c t, w.heap[j]? ≠ some (.cells c t)) : ∀ {xs : List Nat} {v : Value}, ChainAt w xs v → ChainAt w' xs v
  | [], v, h => h
  | d :: ds, v, h => by
    obtain ⟨g, u, e, hc, ht⟩ := h
    have hlt : g < w.heap.size := (Array.getElem?_eq_some_iff.1 hc).1
    refine ⟨g, u, e, ?_, ChainAt.grown hg hr ht⟩
    rw [hg.block g hlt (fun e => hr g e.symm _ _ hc)]
    exact hc
theorem ChainAt.below {w w' : World} (hb : Below w.heap.size w w') : ∀ {xs : List Nat} {v : Value}, ChainAt w xs v → ChainAt w' xs v
  | [], v, h => h
  | d :: ds, v, h => by
    obtain ⟨g, u, e, hc, ht⟩ := h
    have hlt : g < w.heap.size := (Array.getElem?_eq_some_iff.1 hc).1
    refine ⟨g, u, e, ?_, ChainAt.below hb ht⟩
    rw [hb.block g hlt]
    exact hc
theorem ChainAt.reads {w : World} {xs : List Nat} {v : Value} (h : ChainAt w xs v) : ∃ dt ps, RQ v = some (dt, ps) := by
  cases xs with
  | nil => exact ⟨_, _, by rw [show v = .pointer none from h]; exact zeroRQ⟩
  | cons d ds => obtain ⟨g, u, rfl, _⟩ := h; exact ⟨_, _, RQ_mk g⟩
theorem chain_cells {w : World} {g : Nat} {a u : Value} {T : TypeId} (h : w.heap[g]? = some (.cells #[a, u] T)) : g < w.heap.size ∧ w.cell? ⟨g, 0, none⟩ = some a ∧ w.cell? ⟨g, 1, none⟩ = some u := by
  refine ⟨(Array.getElem?_eq_some_iff.1 h).1, ?_, ?_⟩ <;> simp [World.cell?, h]
set_option maxRecDepth 100000 in
theorem joinD_any (d : Nat) (x y : Value) (w : World) (xs : List Nat) (h : ChainAt w xs y) : Calls Try.prog 63 #[.int .i64 (d : Int), x, y] w (fun e w' => ∃ v, e = .returned v ∧ ChainAt w' (d :: xs) v ∧ Below w.heap.size w w') := by
  obtain ⟨p, rfl⟩ : ∃ p, y = .pointer p := by
    cases xs with
    | nil => exact ⟨_, h⟩
    | cons a tl => obtain ⟨g, u, e, _⟩ := h; exact ⟨_, e⟩
  have H := Lib.hid h
  clear h
  go_enter Try.func63, Try.ntmps63
  go_wp2
  go_ret
  have hb : Below w.heap.size w (w.alloc (.cells #[.int .i64 (d : Int), .pointer p] 73)) := by (repeat' (first | (with_reducible exact Below.refl _ _) | (with_reducible assumption) | (with_reducible refine Below.drew ?_) | (with_reducible refine belowDrewN ?_ _) | (with_reducible refine Below.alloc ?_ ?_ _) | (with_reducible refine Below.setCell ?_ ?_ _) | (with_reducible refine belowStep (by assumption) ?_ ?_) | (with_reducible exact Below.size (by assumption)) | go_size))
  exact ⟨_, rfl, ⟨w.heap.size, .pointer p, rfl, (MapKept.heap_alloc w _).1, H.out.below hb⟩, hb⟩
set_option maxRecDepth 100000 in
theorem reachFor_any (N S : Nat) (w : World) (h1 : 1 ≤ N) (h2 : N ≤ 2000) (hS : S ≤ 100000) :
    Calls Try.prog 62 #[.int .i64 (N : Int), .int .i64 (S : Int), .pointer none, .func (.func 63) #[] #[]] w (fun e w' => ∃ v, e = .returned (.tuple #[v, .bool (decide (0 < ways (dsc N N) S))]) ∧ (0 < ways (dsc N N) S → ChainAt w' (pick (dsc N N) S) v) ∧ Below w.heap.size w w') := by
  refine (reachQ_any 63 #[] (fun w P s v => ChainAt w (pick P s) v) N S (.pointer none) w h1 h2 hS (fun _ _ => rfl) (fun w1 w2 row hg hr P s v h => h.grown hg hr) ⟨_, _, zeroRQ⟩ rfl ?_ ?_ RQ_inj).mono ?_
  · intro w P d s v h hn
    show ChainAt w (pick (d :: P) s) v
    rw [pick_no hn]
    exact h
  · intro w1 P d s x y hd hl hw hy hx
    refine (joinD_any d x y w1 _ hy).mono ?_
    rintro e w2 ⟨v, rfl, hc, hb⟩
    refine ⟨v, rfl, ?_, hc.reads, hb⟩
    show ChainAt w2 (pick (d :: P) (s + d)) v
    rw [pick_yes (by omega) (by rw [Nat.add_sub_cancel]; exact hw), Nat.add_sub_cancel]
    exact hc
  · rintro e w' ⟨v, rfl, hv, _, hb⟩
    exact ⟨v, rfl, hv, hb⟩
def lenOf (v : Value) : Nat := match v with | .slice _ n _ => n | _ => 0
set_option maxRecDepth 100000 in
set_option maxHeartbeats 8000000 in
theorem divisorsFor_any (n s : Int) (w : World) : Calls Try.prog 35 #[.int .i64 n, .int .i64 s] w (RetLB (ints ((dfO n s).getD [])) (dfO n s).isSome w) := by
  have HN := Lib.hid fun (w : World) => isNumber_any n w
  have HT := Lib.hid fun (w : World) => isAskedSum_any s w
  cases hn : numB n with
  | false =>
    have E := Lib.hid (dfO_n (s := s) hn)
    rw [hn] at HN
    clear hn
    go_enter Try.func35, Try.ntmps35
    go_wp2_with fail
    refine (HN.out _).mono ?_; rintro e w1 ⟨rfl, k1, rfl⟩
    go_wp2
    go_ret2
    rw [E.out]
    exact ⟨_, rfl, OwnI.empty _ _, by (repeat' (first | (with_reducible exact Below.refl _ _) | (with_reducible assumption) | (with_reducible refine Below.drew ?_) | (with_reducible refine belowDrewN ?_ _) | (with_reducible refine Below.alloc ?_ ?_ _) | (with_reducible refine Below.setCell ?_ ?_ _) | (with_reducible refine belowStep (by assumption) ?_ ?_) | (with_reducible exact Below.size (by assumption)) | go_size))⟩
  | true =>
    cases hs : askB s with
    | false =>
      have E := Lib.hid (dfO_s (n := n) hs)
      rw [hn] at HN
      rw [hs] at HT
      clear hn hs
      go_enter Try.func35, Try.ntmps35
      go_wp2_with fail
      refine (HN.out _).mono ?_; rintro e w1 ⟨rfl, k1, rfl⟩
      go_wp2_with fail
      refine (HT.out _).mono ?_; rintro e w2 ⟨rfl, k2, rfl⟩
      go_wp2
      go_ret2
      rw [E.out]
      exact ⟨_, rfl, OwnI.empty _ _, by (repeat' (first | (with_reducible exact Below.refl _ _) | (with_reducible assumption) | (with_reducible refine Below.drew ?_) | (with_reducible refine belowDrewN ?_ _) | (with_reducible refine Below.alloc ?_ ?_ _) | (with_reducible refine Below.setCell ?_ ?_ _) | (with_reducible refine belowStep (by assumption) ?_ ?_) | (with_reducible exact Below.size (by assumption)) | go_size))⟩
    | true =>
      obtain ⟨N, rfl, h1, h2⟩ := numB_nat hn
      obtain ⟨S, rfl, hS⟩ := askB_nat hs
      have HW := Lib.hid fun (w : World) => reachFor_any N S w h1 h2 hS
      have EV := Lib.hid fun (h : 0 < ways (dsc N N) S) => dfO_yes hn hs h
      have EB := Lib.hid fun (h : ¬ 0 < ways (dsc N N) S) => dfO_no h
      rw [hn] at HN
      rw [hs] at HT
      have hpl := pick_len (dsc N N) S
      have hpl2 := dsc_few h1 h2
      clear hn hs
      by_cases hw : 0 < ways (dsc N N) S
      · have E := Lib.hid (EV.out hw)
        have HW2 : Hid (∀ w, Calls Try.prog 62 #[.int .i64 (N : Int), .int .i64 (S : Int), .pointer none, .func (.func 63) #[] #[]] w (fun e w' => ∃ v, e = .returned (.tuple #[v, .bool true]) ∧ ChainAt w' (pick (dsc N N) S) v ∧ Below w.heap.size w w')) := Lib.hid fun w => (HW.out w).mono fun e w' ⟨v, a, b, c⟩ => ⟨v, by rw [a, decide_eq_true hw], b hw, c⟩
        clear EV EB HW hw
        generalize pick (dsc N N) S = ls at *
        go_enter Try.func35, Try.ntmps35
        go_wp2_with fail
        refine (HN.out _).mono ?_; rintro e w1 ⟨rfl, k1, rfl⟩
        go_wp2_with fail
        refine (HT.out _).mono ?_; rintro e w2 ⟨rfl, k2, rfl⟩
        go_wp2_with fail
        refine (HW2.out _).mono ?_; rintro e w4 ⟨v4, rfl, hc4, hb4⟩
        have hz4 := hb4.size
        (try simp only [World.heap_drewN] at hz4)
        have H4 := Lib.hid hc4
        clear hc4
        have OZ := Lib.hid (OwnI.zero w4 w4.heap.size (Nat.le_refl _))
        go_wp2
        go_loopw [6, 8] (fun v6 v8 wr => ∃ (xs ys : List Nat) (A : Option Addr) (n c : Nat), ls = xs ++ ys ∧ ChainAt w4 ys v6 ∧ v8 = .slice A n c ∧ n ≤ xs.length ∧ xs.length ≤ n ∧ OwnI wr w4.heap.size v8 (ints xs) ∧ Below w4.heap.size w4 wr) (fun _ v8 _ => 45 - lenOf v8)
        case atStart => exact ⟨[], ls, _, 0, _, rfl, H4.out, rfl, Nat.le_refl _, Nat.le_refl _, OZ.out, by (repeat' (first | (with_reducible exact Below.refl _ _) | (with_reducible assumption) | (with_reducible refine Below.drew ?_) | (with_reducible refine belowDrewN ?_ _) | (with_reducible refine Below.alloc ?_ ?_ _) | (with_reducible refine Below.setCell ?_ ?_ _) | (with_reducible refine belowStep (by assumption) ?_ ?_) | (with_reducible exact Below.size (by assumption)) | go_size))⟩
        case round =>
          obtain ⟨xs, ys, A, n, c, hls, hch, rfl, n1, n2, ho, hbr⟩ := hrel
          have hzr := hbr.size
          have hll : xs.length + ys.length ≤ 44 := by rw [hls, List.length_append] at hpl; omega
          have HLS := Lib.hid hls
          have Ho := Lib.hid ho
          have hxl := ints_len xs
          have hx1 : (ints xs).length ≤ 44 := by omega
          clear ho hls hxl
          cases ys with
          | nil =>
            have hv : _ = Value.pointer none := hch
            subst hv
            go_wp2
            go_ret2
            rw [E.out, Option.getD_some, HLS.out, List.append_nil]
            exact ⟨_, rfl, Ho.out.mono (by (first | (go_size; done) | ((try simp only [World.size_alloc, World.size_setCell, World.size_drew, World.heap_drewN]); omega))), by (repeat' (first | (with_reducible exact Below.refl _ _) | (with_reducible assumption) | (with_reducible refine Below.drew ?_) | (with_reducible refine belowDrewN ?_ _) | (with_reducible refine Below.alloc ?_ ?_ _) | (with_reducible refine Below.setCell ?_ ?_ _) | (with_reducible refine belowStep (by assumption) ?_ ?_) | (with_reducible exact Below.size (by assumption)) | go_size))⟩
          | cons d ys =>
            obtain ⟨g, u, rfl, hcs, hct⟩ := hch
            obtain ⟨g1, g2, g3⟩ := chain_cells hcs
            have g4 := ((bcell hbr).1 g 0 g1).trans g2
            have g5 := ((bcell hbr).1 g 1 g1).trans g3
            have HCT := Lib.hid hct
            rw [List.length_cons] at hll
            clear hct hcs
            go_wp2_with ((at_builtin; refine wpList_app _ (o := ⟨some 38, _, _, _, _, _⟩) (ys := [(d : Int)]) rfl _ _ rfl rfl (OwnI.below Ho.out ((Below.refl _ _).alloc (Nat.le_refl _) _)) (1) (1) (by first | (simp; done) | (simp; omega)) rfl (Reads.one _ (d : Int)) (by (try simp only [List.length_nil, List.length_cons]); omega) (by first | exact Nat.le_refl _ | ((try simp only [World.size_alloc]); omega)) ?_; intro v6 w6 ho6 hb6 hg6 ht6; clear hg6 ht6; have hz6 := hb6.size; (try simp only [World.size_alloc] at hz6)); have g6 : w6.cell? ⟨g, 1, none⟩ = some u := ((bcellB (show Below w4.heap.size w4 w6 by (repeat' (first | (with_reducible exact Below.refl _ _) | (with_reducible assumption) | (with_reducible refine Below.drew ?_) | (with_reducible refine belowDrewN ?_ _) | (with_reducible refine Below.alloc ?_ ?_ _) | (with_reducible refine Below.setCell ?_ ?_ _) | (with_reducible refine belowStep (by assumption) ?_ ?_) | (with_reducible exact Below.size (by assumption)) | go_size)))).1 g 1 g1).trans g3)
            obtain ⟨A6, c6, rfl, hr6⟩ := ho6.form
            have hi6 := ints_len (xs ++ [d])
            have hi7 : (ints xs ++ [(d : Int)]).length ≤ xs.length + 1 := by simp [ints]
            have hi8 : xs.length + 1 ≤ (ints xs ++ [(d : Int)]).length := by simp [ints]
            go_roundw
            case rel => exact ⟨xs ++ [d], ys, A6, _, c6, by rw [HLS.out, List.append_assoc]; rfl, HCT.out, rfl, by simp [ints], by simp [ints], by rw [ints_app]; exact ho6, by (repeat' (first | (with_reducible exact Below.refl _ _) | (with_reducible assumption) | (with_reducible refine Below.drew ?_) | (with_reducible refine belowDrewN ?_ _) | (with_reducible refine Below.alloc ?_ ?_ _) | (with_reducible refine Below.setCell ?_ ?_ _) | (with_reducible refine belowStep (by assumption) ?_ ?_) | (with_reducible exact Below.size (by assumption)) | go_size))⟩
            case measure => simp only [lenOf]; omega
      · have E := Lib.hid (EB.out hw)
        have HW2 : Hid (∀ w, Calls Try.prog 62 #[.int .i64 (N : Int), .int .i64 (S : Int), .pointer none, .func (.func 63) #[] #[]] w (fun e w' => ∃ v, e = .returned (.tuple #[v, .bool false]) ∧ Below w.heap.size w w')) := Lib.hid fun w => (HW.out w).mono fun e w' ⟨v, a, b, c⟩ => ⟨v, by rw [a, decide_eq_false hw], c⟩
        clear EV EB HW hw
        go_enter Try.func35, Try.ntmps35
        go_wp2_with fail
        refine (HN.out _).mono ?_; rintro e w1 ⟨rfl, k1, rfl⟩
        go_wp2_with fail
        refine (HT.out _).mono ?_; rintro e w2 ⟨rfl, k2, rfl⟩
        go_wp2_with fail
        refine (HW2.out _).mono ?_; rintro e w4 ⟨v4, rfl, hb4⟩; have hz4 := hb4.size; (try simp only [World.heap_drewN] at hz4)
        go_wp2
        go_ret2
        rw [E.out]
        exact ⟨_, rfl, OwnI.empty _ _, by (repeat' (first | (with_reducible exact Below.refl _ _) | (with_reducible assumption) | (with_reducible refine Below.drew ?_) | (with_reducible refine belowDrewN ?_ _) | (with_reducible refine Below.alloc ?_ ?_ _) | (with_reducible refine Below.setCell ?_ ?_ _) | (with_reducible refine belowStep (by assumption) ?_ ?_) | (with_reducible exact Below.size (by assumption)) | go_size))⟩
end Go.Proofs.Ytbjblkfibinenad
