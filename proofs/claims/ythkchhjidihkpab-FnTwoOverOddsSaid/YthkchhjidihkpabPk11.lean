import Derived.Test.YthkchhjidihkpabPk1
import Derived.Test.YthkchhjidihkpabPk6
import Derived.Test.YthkchhjidihkpabPk3
import Derived.Lib.AppendZeros

/-
  Contracts of the search for a number in a list.
-/
namespace Go.Proofs.Ythkchhjidihkpab
open Go.RowKit
def hasB : List Int → Int → Bool
  | [], _ => false
  | y :: ys, x => decide (y = x) || hasB ys x
def idxFrom : Nat → List Int → Int → Int
  | _, [], _ => -1
  | k, y :: ys, x => if y = x then (k : Int) else idxFrom (k + 1) ys x
theorem hasB_iff (xs : List Int) (x : Int) : hasB xs x = true ↔ x ∈ xs := by
  induction xs with
  | nil => simp [hasB]
  | cons y ys ih =>
    simp only [hasB, Bool.or_eq_true, decide_eq_true_eq, ih, List.mem_cons]
    exact ⟨fun h => h.imp Eq.symm id, fun h => h.imp Eq.symm id⟩
theorem idx_hit {k : Nat} {ys : List Int} {x y : Int} (h : y = x) : idxFrom k (y :: ys) x = k := by simp [idxFrom, h]
theorem idx_miss {k : Nat} {ys : List Int} {x y : Int} (h : y ≠ x) : idxFrom k (y :: ys) x = idxFrom (k + 1) ys x := by simp [idxFrom, h]
theorem idx_has (xs : List Int) (x : Int) : ∀ k : Nat, decide (0 ≤ idxFrom k xs x) = hasB xs x := by
  induction xs with
  | nil => intro k; rfl
  | cons y ys ih =>
    intro k
    by_cases h : y = x
    · rw [idx_hit h]; simp [hasB, h]
    · rw [idx_miss h, ih]; simp [hasB, h]
theorem has_hit {ys : List Int} {x y : Int} (h : y = x) : hasB (y :: ys) x = true := by simp [hasB, h]
theorem has_miss {ys : List Int} {x y : Int} (h : y ≠ x) : hasB (y :: ys) x = hasB ys x := by simp [hasB, h]

set_option maxHeartbeats 1000000 in
theorem index_any (w : World) (v : Int) (Axs : Option Addr) (cxs : Nat) (xs : List Int) (hxs : Reads w Axs xs) (lxs : xs.length ≤ 1048576) : Calls Try.prog 114 #[.slice Axs xs.length cxs, .int .i64 v] w (RetQ (.int .i64 (idxFrom 0 xs v)) w) := by
  go_enter Try.func114, Try.ntmps114
  go_wp2
  go_loopw [8] (fun v8 wr => ∃ k : Nat, k ≤ xs.length ∧ v8 = .int .i64 k ∧ idxFrom 0 xs v = idxFrom k (xs.drop k) v ∧ ∃ n, wr = w.drewN n) (fun v8 _ => xs.length - (intOf v8).toNat)
  case atStart => exact ⟨0, Nat.zero_le _, rfl, rfl, 0, rfl⟩
  case round =>
    obtain ⟨k, hk, rfl, hr, n, rfl⟩ := hrel
    have Hr := Lib.hid hr
    clear hr
    by_cases hlt : k < xs.length
    · obtain ⟨b, o, x, rfl, hb, hx, hcell⟩ := hxs.at_ hlt
      have Hx := Lib.hid hx
      clear hx
      by_cases he : x = v
      · have hee : (v == x) = true := by simp [he]
        have He := Lib.hid he
        clear he
        go_wp2
        go_ret
        exact ⟨ret_int (by rw [Hr.out, drop_at Hx.out, idx_hit He.out]), n, rfl⟩
      · have hee : (v == x) = false := by simp; omega
        have He := Lib.hid he
        clear he
        go_wp2
        go_roundw
        case rel => exact ⟨k + 1, by omega, by go_num, by rw [Hr.out, drop_at Hx.out, idx_miss He.out], n, rfl⟩
        case measure => simp [intOf]; omega
    · obtain rfl : k = xs.length := by omega
      go_wp2
      go_ret
      exact ⟨ret_int (by rw [Hr.out, drop_all]; rfl), n, rfl⟩
theorem contains_any (w : World) (v : Int) (Axs : Option Addr) (cxs : Nat) (xs : List Int) (hxs : Reads w Axs xs) (lxs : xs.length ≤ 1048576) : Calls Try.prog 68 #[.slice Axs xs.length cxs, .int .i64 v] w (RetQ (.bool (hasB xs v)) w) := by
  have Hxs := Lib.hid hxs
  clear hxs
  go_enter Try.func68, Try.ntmps68
  go_wp2_with (go_at_call 114; refine (index_any _ _ _ _ _ Hxs.out lxs).mono ?_; rintro e w1 ⟨rfl, k1, rfl⟩)
  go_ret
  exact ⟨ret_bool (idx_has xs v 0), _, rfl⟩
set_option maxHeartbeats 1000000 in
theorem l1Has_any (w : World) (v : Int) (Axs : Option Addr) (cxs : Nat) (xs : List Int) (hxs : Reads w Axs xs) (lxs : xs.length ≤ 1048576) : Calls Try.prog 63 #[.slice Axs xs.length cxs, .int .i64 v] w (RetQ (.bool (hasB xs v)) w) := by
  go_enter Try.func63, Try.ntmps63
  go_wp2
  go_loopw [9] (fun v8 wr => ∃ k : Nat, k ≤ xs.length ∧ v8 = .int .i64 k ∧ hasB xs v = hasB (xs.drop k) v ∧ ∃ n, wr = w.drewN n) (fun v8 _ => xs.length - (intOf v8).toNat)
  case atStart => exact ⟨0, Nat.zero_le _, rfl, rfl, 0, rfl⟩
  case round =>
    obtain ⟨k, hk, rfl, hr, n, rfl⟩ := hrel
    have Hr := Lib.hid hr
    clear hr
    by_cases hlt : k < xs.length
    · obtain ⟨b, o, x, rfl, hb, hx, hcell⟩ := hxs.at_ hlt
      have Hx := Lib.hid hx
      clear hx
      by_cases he : x = v
      · have hee : (x == v) = true := by simp [he]
        have He := Lib.hid he
        clear he
        go_wp2
        go_ret
        exact ⟨ret_bool (by rw [Hr.out, drop_at Hx.out, has_hit He.out]), n, rfl⟩
      · have hee : (x == v) = false := by simp; omega
        have He := Lib.hid he
        clear he
        go_wp2
        go_roundw
        case rel => exact ⟨k + 1, by omega, by go_num, by rw [Hr.out, drop_at Hx.out, has_miss He.out], n, rfl⟩
        case measure => simp [intOf]; omega
    · obtain rfl : k = xs.length := by omega
      go_wp2
      go_ret
      exact ⟨ret_bool (by rw [Hr.out, drop_all]; rfl), n, rfl⟩
end Go.Proofs.Ythkchhjidihkpab


/-
  Plain facts on putting a number into a rising list.
-/
namespace Go.Proofs.Ythkchhjidihkpab
open Go.RowKit
/-- how many numbers at the list's beginning are less -/
def pos : List Int → Int → Nat
  | [], _ => 0
  | y :: ys, v => if y < v then pos ys v + 1 else 0
def insAt (xs : List Int) (p : Nat) (v : Int) : List Int := xs.take p ++ v :: xs.drop p
/-- what a rising list becomes that gets a number, unless it is there -/
def putL (xs : List Int) (v : Int) : List Int := if xs[pos xs v]? = some v then xs else insAt xs (pos xs v) v
def Rising (xs : List Int) : Prop := xs.Pairwise (· < ·)
theorem pos_le (xs : List Int) (v : Int) : pos xs v ≤ xs.length := by
  induction xs with
  | nil => simp [pos]
  | cons y ys ih => unfold pos; split <;> simp; omega
theorem pos_below (xs : List Int) (v : Int) : ∀ (i : Nat) (x : Int), i < pos xs v → xs[i]? = some x → x < v := by
  induction xs with
  | nil => intro i x h; simp [pos] at h
  | cons y ys ih =>
    intro i x h hx
    unfold pos at h
    split at h
    · cases i with
      | zero => simp at hx; omega
      | succ i => exact ih i x (by omega) (by simpa using hx)
    · omega
theorem pos_at (xs : List Int) (v : Int) : ∀ (x : Int), xs[pos xs v]? = some x → v ≤ x := by
  induction xs with
  | nil => intro x h; simp at h
  | cons y ys ih =>
    intro x h
    unfold pos at h
    split at h
    · exact ih x (by simpa using h)
    · simp at h; omega
/-- the place is told by what lies before and behind -/
theorem pos_of {xs : List Int} {v : Int} {p : Nat} (hp : p ≤ xs.length) (h1 : ∀ (i : Nat) (x : Int), i < p → xs[i]? = some x → x < v) (h2 : ∀ (x : Int), xs[p]? = some x → v ≤ x) : pos xs v = p := by
  rcases Nat.lt_trichotomy (pos xs v) p with h | h | h
  · have hl : pos xs v < xs.length := by omega
    have a := h1 _ xs[pos xs v] h (List.getElem?_eq_getElem hl)
    have b := pos_at xs v xs[pos xs v] (List.getElem?_eq_getElem hl)
    omega
  · exact h
  · have hl : p < xs.length := by have := pos_le xs v; omega
    have a := pos_below xs v p xs[p] h (List.getElem?_eq_getElem hl)
    have b := h2 xs[p] (List.getElem?_eq_getElem hl)
    omega
theorem Rising.lt {xs : List Int} (h : Rising xs) {i j : Nat} {x y : Int} (hij : i < j) (hx : xs[i]? = some x) (hy : xs[j]? = some y) : x < y := by
  obtain ⟨hi, rfl⟩ := List.getElem?_eq_some_iff.1 hx
  obtain ⟨hj, rfl⟩ := List.getElem?_eq_some_iff.1 hy
  exact List.pairwise_iff_getElem.1 h i j hi hj hij
theorem Rising.le {xs : List Int} (h : Rising xs) {i j : Nat} {x y : Int} (hij : i ≤ j) (hx : xs[i]? = some x) (hy : xs[j]? = some y) : x ≤ y := by
  rcases Nat.lt_or_eq_of_le hij with h1 | h1
  · have := h.lt h1 hx hy; omega
  · subst h1; rw [hx] at hy; injection hy; omega
theorem found_iff {xs : List Int} (h : Rising xs) (v : Int) : xs[pos xs v]? = some v ↔ hasB xs v = true := by
  rw [hasB_iff]
  constructor
  · exact fun h => List.mem_of_getElem? h
  · intro hm
    obtain ⟨i, hi⟩ := List.getElem?_of_mem hm
    have hle : pos xs v ≤ i := by
      rcases Nat.lt_or_ge i (pos xs v) with h1 | h1
      · have := pos_below xs v i v h1 hi; omega
      · exact h1
    have hl : pos xs v < xs.length := by have := (List.getElem?_eq_some_iff.1 hi).1; omega
    have a := pos_at xs v xs[pos xs v] (List.getElem?_eq_getElem hl)
    have b := h.le hle (List.getElem?_eq_getElem hl) hi
    rw [List.getElem?_eq_getElem hl]
    congr 1
    omega
theorem ins_mem {xs : List Int} {p : Nat} {v x : Int} : x ∈ insAt xs p v ↔ x = v ∨ x ∈ xs := by
  unfold insAt
  rw [List.mem_append, List.mem_cons]
  constructor
  · rintro (h | h | h)
    · exact .inr (List.mem_of_mem_take h)
    · exact .inl h
    · exact .inr (List.mem_of_mem_drop h)
  · rintro (h | h)
    · exact .inr (.inl h)
    · rw [← List.take_append_drop p xs, List.mem_append] at h
      rcases h with h | h
      · exact .inl h
      · exact .inr (.inr h)
theorem ins_len (xs : List Int) (p : Nat) (v : Int) (hp : p ≤ xs.length) : (insAt xs p v).length = xs.length + 1 := by simp [insAt]; omega
theorem Rising.ins {xs : List Int} (h : Rising xs) {v : Int} (hv : ¬ hasB xs v = true) : Rising (insAt xs (pos xs v) v) := by
  unfold insAt Rising
  have hs := h
  unfold Rising at hs
  rw [← List.take_append_drop (pos xs v) xs, List.pairwise_append] at hs
  obtain ⟨h1, h2, h3⟩ := hs
  rw [List.pairwise_append, List.pairwise_cons]
  have hlow : ∀ x ∈ xs.take (pos xs v), x < v := fun x hx => by
    obtain ⟨i, hi⟩ := List.getElem?_of_mem hx
    rw [List.getElem?_take] at hi
    split at hi
    · rename_i hlt
      exact pos_below xs v i x hlt hi
    · cases hi
  have hhigh : ∀ x ∈ xs.drop (pos xs v), v < x := fun x hx => by
    obtain ⟨i, hi⟩ := List.getElem?_of_mem hx
    rw [List.getElem?_drop] at hi
    have hl : pos xs v < xs.length := by have := (List.getElem?_eq_some_iff.1 hi).1; omega
    have a := pos_at xs v xs[pos xs v] (List.getElem?_eq_getElem hl)
    have b := h.le (Nat.le_add_right (pos xs v) i) (List.getElem?_eq_getElem hl) hi
    have c : x ≠ v := fun e => hv ((hasB_iff xs v).2 (by rw [← e]; exact List.mem_of_getElem? hi))
    omega
  refine ⟨h1, ⟨hhigh, h2⟩, fun a ha b hb => ?_⟩
  rcases List.mem_cons.1 hb with rfl | hb
  · exact hlow a ha
  · exact h3 a ha b hb
theorem put_no {xs : List Int} (h : Rising xs) {v : Int} (hv : ¬ hasB xs v = true) : putL xs v = insAt xs (pos xs v) v := by
  rw [putL, if_neg (fun e => hv ((found_iff h v).1 e))]
theorem put_yes {xs : List Int} (h : Rising xs) {v : Int} (hv : hasB xs v = true) : putL xs v = xs := by
  rw [putL, if_pos ((found_iff h v).2 hv)]
theorem rise_rising {lo hi : Int} : ∀ {xs : List Int} {p : Option Int}, rise lo hi p xs = true → Rising xs ∧ ∀ q, p = some q → ∀ x ∈ xs, q < x
  | [], p, _ => ⟨List.Pairwise.nil, fun q _ x hx => by simp at hx⟩
  | t :: ts, p, hr => by
    unfold rise at hr
    simp only [Bool.and_eq_true, decide_eq_true_eq] at hr
    obtain ⟨ih1, ih2⟩ := rise_rising hr.2
    refine ⟨List.pairwise_cons.2 ⟨fun x hx => ih2 t rfl x hx, ih1⟩, fun q hq x hx => ?_⟩
    subst hq
    have h1 : q < t := by simpa using hr.1.2
    rcases List.mem_cons.1 hx with rfl | hx
    · exact h1
    · have := ih2 t rfl x hx; omega
theorem expB_rising {xs : List Int} (h : expB xs = true) : Rising xs := (rise_rising (expB_parts h).2.1).1
end Go.Proofs.Ythkchhjidihkpab


/-
  Contracts of the model's own helpers on lists: a copy, and a number put into a rising list.
-/
namespace Go.Proofs.Ythkchhjidihkpab
open Go.RowKit
theorem l1Own_any (w : World) (Axs : Option Addr) (cxs : Nat) (xs : List Int) (hxs : Reads w Axs xs) (lxs : xs.length ≤ 1048576) : Calls Try.prog 155 #[.slice Axs xs.length cxs] w (RetL xs w) := by
  have Hxs := Lib.hid hxs
  clear hxs
  go_enter Try.func155, Try.ntmps155
  go_wp2_with (at_builtin; refine wpList_app _ rfl _ _ rfl rfl (OwnI.zero w w.heap.size (Nat.le_refl _)) xs.length cxs rfl rfl (Hxs.out.below (by (repeat' (first | (with_reducible exact Below.refl _ _) | (with_reducible assumption) | (with_reducible refine Below.drew ?_) | (with_reducible refine belowDrewN ?_ _) | (with_reducible refine Below.alloc ?_ ?_ _) | (with_reducible refine Below.setCell ?_ ?_ _) | (with_reducible refine belowStep (by assumption) ?_ ?_) | (with_reducible exact Below.size (by assumption)) | go_size)))) (by simp; omega) (by simp) ?_; intro v3 w3 ho3 hb3 hg3 ht3; clear hg3 ht3)
  go_ret
  exact ⟨_, rfl, by simpa using ho3, by (repeat' (first | (with_reducible exact Below.refl _ _) | (with_reducible assumption) | (with_reducible refine Below.drew ?_) | (with_reducible refine belowDrewN ?_ _) | (with_reducible refine Below.alloc ?_ ?_ _) | (with_reducible refine Below.setCell ?_ ?_ _) | (with_reducible refine belowStep (by assumption) ?_ ?_) | (with_reducible exact Below.size (by assumption)) | go_size))⟩
theorem l1Own_n (w : World) (A : Option Addr) (n c : Nat) (ys : List Int) (hn : ys.length = n) (hr : Reads w A ys) (hl : n ≤ 1048576) : Calls Try.prog 155 #[.slice A n c] w (RetL ys w) := by
  subst hn
  exact l1Own_any w A c ys hr hl
/-- what is left by a function that hands out its list again or a new one -/
def RetP (ys xs : List Int) (Axs : Option Addr) (cxs : Nat) (w : World) (e : Ending) (w' : World) : Prop := ∃ A c, e = .returned (.slice A ys.length c) ∧ ys.length ≤ c ∧ Reads w' A ys ∧ Below w.heap.size w w' ∧ (OwnI w' w.heap.size (.slice A ys.length c) ys ∨ (A = Axs ∧ c = cxs ∧ ys = xs))
set_option maxHeartbeats 2000000 in
theorem l1Put_old (w : World) (v : Int) (Axs : Option Addr) (cxs : Nat) (xs : List Int) (hxs : Reads w Axs xs) (lxs : xs.length ≤ 1048576) (hcap : xs.length ≤ cxs) : Calls Try.prog 70 #[.slice Axs xs.length cxs, .int .i64 v] w (RetP (putL xs v) xs Axs cxs w) := by
  have Hxs := Lib.hid hxs
  clear hxs
  go_enter Try.func70, Try.ntmps70
  go_wp2
  go_loopw [5] (fun v5 wr => ∃ k : Nat, k ≤ xs.length ∧ v5 = .int .i64 k ∧ (∀ (i : Nat) (x : Int), i < k → xs[i]? = some x → x < v) ∧ ∃ n, wr = w.drewN n) (fun v5 _ => xs.length - (intOf v5).toNat)
  case atStart => exact ⟨0, Nat.zero_le _, rfl, fun i x h => by omega, 0, rfl⟩
  case round =>
    obtain ⟨k, hk, rfl, hlow, n, rfl⟩ := hrel
    have Hlow := Lib.hid hlow
    clear hlow
    by_cases hlt : k < xs.length
    · obtain ⟨b, o, x, rfl, hb, hx, hcell⟩ := Hxs.out.at_ hlt
      have Hx := Lib.hid hx
      clear hx
      by_cases hv : x < v
      · go_wp2
        go_roundw
        case rel => exact ⟨k + 1, by omega, by go_num, (fun i y hi hy => by
          rcases Nat.lt_or_eq_of_le (Nat.le_of_lt_succ hi) with h | h
          · exact Hlow.out i y h hy
          · subst h; rw [Hx.out] at hy; injection hy with hy; omega), n, rfl⟩
        case measure => simp [intOf]; omega
      · have Hp := Lib.hid (pos_of hk Hlow.out (fun y hy => by rw [Hx.out] at hy; injection hy with hy; omega))
        by_cases he : x = v
        · have hee : (x == v) = true := by simp [he]
          have Hput : Hid (putL xs v = xs) := by show putL xs v = xs; rw [putL, Hp.out, Hx.out, if_pos (by rw [he])]
          clear he
          go_wp2
          go_ret
          rw [Hput.out]
          exact ⟨_, _, rfl, hcap, Hxs.out, by (repeat' (first | (with_reducible exact Below.refl _ _) | (with_reducible assumption) | (with_reducible refine Below.drew ?_) | (with_reducible refine belowDrewN ?_ _) | (with_reducible refine Below.alloc ?_ ?_ _) | (with_reducible refine Below.setCell ?_ ?_ _) | (with_reducible refine belowStep (by assumption) ?_ ?_) | (with_reducible exact Below.size (by assumption)) | go_size)), .inr ⟨rfl, rfl, rfl⟩⟩
        · have hee : (x == v) = false := by simp [he]
          have Hput : Hid (putL xs v = [] ++ xs.take k ++ [v] ++ xs.drop k) := by show putL xs v = _; rw [putL, Hp.out, Hx.out, if_neg (by simpa using he), insAt]; simp
          clear he
          have hcp : ¬ cxs = k := by omega
          go_wp2_with (first
            | (at_builtin; refine wpList_app _ (o := ⟨some 38, _, _, _, _, _⟩) (ys := xs.take k) rfl _ _ rfl rfl (OwnI.zero (w.drewN n) w.heap.size (Nat.le_refl _)) (k) (cxs) (by first | (simp; done) | (simp; omega)) rfl ((Hxs.out.below (by (repeat' (first | (with_reducible exact Below.refl _ _) | (with_reducible assumption) | (with_reducible refine Below.drew ?_) | (with_reducible refine belowDrewN ?_ _) | (with_reducible refine Below.alloc ?_ ?_ _) | (with_reducible refine Below.setCell ?_ ?_ _) | (with_reducible refine belowStep (by assumption) ?_ ?_) | (with_reducible exact Below.size (by assumption)) | go_size)))).cutTo k) (by (try simp only [List.length_take, List.length_nil]); omega) (by first | exact Nat.le_refl _ | ((try simp only [World.size_alloc, World.heap_drewN]); omega)) ?_; intro v3 w3 ho3 hb3 hg3 ht3; clear hg3 ht3; have hz3 := hb3.size; (try simp only [World.size_alloc, World.heap_drewN] at hz3))
            | (at_builtin; refine wpList_app _ (o := ⟨some 42, _, _, _, _, _⟩) (ys := [v]) rfl _ _ rfl rfl (OwnI.below ho3 ((Below.refl _ _).alloc (Nat.le_refl _) _)) (1) (1) (by first | (simp; done) | (simp; omega)) rfl (Reads.one _ v) (by (try simp only [List.length_append, List.length_take, List.length_nil, List.length_cons]); omega) (by first | exact Nat.le_refl _ | ((try simp only [World.size_alloc]); omega)) ?_; intro v4 w4 ho4 hb4 hg4 ht4; clear hg4 ht4; have hz4 := hb4.size; (try simp only [World.size_alloc] at hz4))
            | (at_builtin; refine wpList_app _ (o := ⟨some 47, _, _, _, _, _⟩) (ys := xs.drop k) rfl _ _ rfl rfl (ho4) ((xs.length - k)) ((cxs - k)) (by first | (simp; done) | (simp; omega)) rfl (Reads.cutS (Hxs.out.below (by (repeat' (first | (with_reducible exact Below.refl _ _) | (with_reducible assumption) | (with_reducible refine Below.drew ?_) | (with_reducible refine belowDrewN ?_ _) | (with_reducible refine Below.alloc ?_ ?_ _) | (with_reducible refine Below.setCell ?_ ?_ _) | (with_reducible refine belowStep (by assumption) ?_ ?_) | (with_reducible exact Below.size (by assumption)) | go_size))))) (by (try simp only [List.length_append, List.length_take, List.length_drop, List.length_nil, List.length_cons]); omega) (by first | exact Nat.le_refl _ | ((try simp only [World.size_alloc, World.size_setCell, World.size_drew, World.heap_drewN]); omega)) ?_; intro v5 w5 ho5 hb5 hg5 ht5; clear hg5 ht5; have hz5 := hb5.size; (try simp only [World.size_alloc, World.size_setCell, World.size_drew, World.heap_drewN] at hz5)))
          go_ret
          rw [Hput.out]
          obtain ⟨A5, c5, rfl, hr5⟩ := ho5.form
          exact ⟨_, _, rfl, ho5.cap_, by simpa using hr5, by (repeat' (first | (with_reducible exact Below.refl _ _) | (with_reducible assumption) | (with_reducible refine Below.drew ?_) | (with_reducible refine belowDrewN ?_ _) | (with_reducible refine Below.alloc ?_ ?_ _) | (with_reducible refine Below.setCell ?_ ?_ _) | (with_reducible refine belowStep (by assumption) ?_ ?_) | (with_reducible exact Below.size (by assumption)) | go_size)), .inl (ho5.mono (by (first | (go_size; done) | ((try simp only [World.size_alloc, World.size_setCell, World.size_drew, World.heap_drewN]); omega))))⟩
    · obtain rfl : k = xs.length := by omega
      have Hp := Lib.hid (pos_of hk Hlow.out (fun y hy => by rw [List.getElem?_eq_none (Nat.le_refl _)] at hy; cases hy))
      have Hput : Hid (putL xs v = [] ++ xs.take xs.length ++ [v] ++ []) := by show putL xs v = _; rw [putL, Hp.out, List.getElem?_eq_none (Nat.le_refl _), if_neg (by simp), insAt]; simp
      by_cases hcp : cxs = xs.length
      · subst hcp
        go_wp2_with (first
          | (at_builtin; refine wpList_app _ (o := ⟨some 38, _, _, _, _, _⟩) (ys := xs.take xs.length) rfl _ _ rfl rfl (OwnI.zero (w.drewN n) w.heap.size (Nat.le_refl _)) (xs.length) (xs.length) (by first | (simp; done) | (simp; omega)) rfl ((Hxs.out.below (by (repeat' (first | (with_reducible exact Below.refl _ _) | (with_reducible assumption) | (with_reducible refine Below.drew ?_) | (with_reducible refine belowDrewN ?_ _) | (with_reducible refine Below.alloc ?_ ?_ _) | (with_reducible refine Below.setCell ?_ ?_ _) | (with_reducible refine belowStep (by assumption) ?_ ?_) | (with_reducible exact Below.size (by assumption)) | go_size)))).cutTo xs.length) (by (try simp only [List.length_take, List.length_nil]); omega) (by first | exact Nat.le_refl _ | ((try simp only [World.size_alloc, World.heap_drewN]); omega)) ?_; intro v3 w3 ho3 hb3 hg3 ht3; clear hg3 ht3; have hz3 := hb3.size; (try simp only [World.size_alloc, World.heap_drewN] at hz3))
          | (at_builtin; refine wpList_app _ (o := ⟨some 42, _, _, _, _, _⟩) (ys := [v]) rfl _ _ rfl rfl (OwnI.below ho3 ((Below.refl _ _).alloc (Nat.le_refl _) _)) (1) (1) (by first | (simp; done) | (simp; omega)) rfl (Reads.one _ v) (by (try simp only [List.length_append, List.length_take, List.length_nil, List.length_cons]); omega) (by first | exact Nat.le_refl _ | ((try simp only [World.size_alloc]); omega)) ?_; intro v4 w4 ho4 hb4 hg4 ht4; clear hg4 ht4; have hz4 := hb4.size; (try simp only [World.size_alloc] at hz4))
          | (at_builtin; refine wpList_app _ (o := ⟨some 47, _, _, _, _, _⟩) (ys := []) rfl _ _ rfl rfl (ho4) (0) (0) (by first | (simp; done) | (simp; omega)) rfl (Reads.nil) (by (try simp only [List.length_append, List.length_take, List.length_nil, List.length_cons]); omega) (by first | exact Nat.le_refl _ | ((try simp only [World.size_alloc, World.size_setCell, World.size_drew, World.heap_drewN]); omega)) ?_; intro v5 w5 ho5 hb5 hg5 ht5; clear hg5 ht5; have hz5 := hb5.size; (try simp only [World.size_alloc, World.size_setCell, World.size_drew, World.heap_drewN] at hz5)))
        go_ret
        rw [Hput.out]
        obtain ⟨A5, c5, rfl, hr5⟩ := ho5.form
        exact ⟨_, _, rfl, ho5.cap_, by simpa using hr5, by (repeat' (first | (with_reducible exact Below.refl _ _) | (with_reducible assumption) | (with_reducible refine Below.drew ?_) | (with_reducible refine belowDrewN ?_ _) | (with_reducible refine Below.alloc ?_ ?_ _) | (with_reducible refine Below.setCell ?_ ?_ _) | (with_reducible refine belowStep (by assumption) ?_ ?_) | (with_reducible exact Below.size (by assumption)) | go_size)), .inl (ho5.mono (by (first | (go_size; done) | ((try simp only [World.size_alloc, World.size_setCell, World.size_drew, World.heap_drewN]); omega))))⟩
      · go_wp2_with (first
          | (at_builtin; refine wpList_app _ (o := ⟨some 38, _, _, _, _, _⟩) (ys := xs.take xs.length) rfl _ _ rfl rfl (OwnI.zero (w.drewN n) w.heap.size (Nat.le_refl _)) (xs.length) (cxs) (by first | (simp; done) | (simp; omega)) rfl ((Hxs.out.below (by (repeat' (first | (with_reducible exact Below.refl _ _) | (with_reducible assumption) | (with_reducible refine Below.drew ?_) | (with_reducible refine belowDrewN ?_ _) | (with_reducible refine Below.alloc ?_ ?_ _) | (with_reducible refine Below.setCell ?_ ?_ _) | (with_reducible refine belowStep (by assumption) ?_ ?_) | (with_reducible exact Below.size (by assumption)) | go_size)))).cutTo xs.length) (by (try simp only [List.length_take, List.length_nil]); omega) (by first | exact Nat.le_refl _ | ((try simp only [World.size_alloc, World.heap_drewN]); omega)) ?_; intro v3 w3 ho3 hb3 hg3 ht3; clear hg3 ht3; have hz3 := hb3.size; (try simp only [World.size_alloc, World.heap_drewN] at hz3))
          | (at_builtin; refine wpList_app _ (o := ⟨some 42, _, _, _, _, _⟩) (ys := [v]) rfl _ _ rfl rfl (OwnI.below ho3 ((Below.refl _ _).alloc (Nat.le_refl _) _)) (1) (1) (by first | (simp; done) | (simp; omega)) rfl (Reads.one _ v) (by (try simp only [List.length_append, List.length_take, List.length_nil, List.length_cons]); omega) (by first | exact Nat.le_refl _ | ((try simp only [World.size_alloc]); omega)) ?_; intro v4 w4 ho4 hb4 hg4 ht4; clear hg4 ht4; have hz4 := hb4.size; (try simp only [World.size_alloc] at hz4))
          | (at_builtin; refine wpList_app _ (o := ⟨some 47, _, _, _, _, _⟩) (ys := []) rfl _ _ rfl rfl (ho4) (0) ((cxs - xs.length)) (by first | (simp; done) | (simp; omega)) rfl (Reads.nil) (by (try simp only [List.length_append, List.length_take, List.length_nil, List.length_cons]); omega) (by first | exact Nat.le_refl _ | ((try simp only [World.size_alloc, World.size_setCell, World.size_drew, World.heap_drewN]); omega)) ?_; intro v5 w5 ho5 hb5 hg5 ht5; clear hg5 ht5; have hz5 := hb5.size; (try simp only [World.size_alloc, World.size_setCell, World.size_drew, World.heap_drewN] at hz5)))
        go_ret
        rw [Hput.out]
        obtain ⟨A5, c5, rfl, hr5⟩ := ho5.form
        exact ⟨_, _, rfl, ho5.cap_, by simpa using hr5, by (repeat' (first | (with_reducible exact Below.refl _ _) | (with_reducible assumption) | (with_reducible refine Below.drew ?_) | (with_reducible refine belowDrewN ?_ _) | (with_reducible refine Below.alloc ?_ ?_ _) | (with_reducible refine Below.setCell ?_ ?_ _) | (with_reducible refine belowStep (by assumption) ?_ ?_) | (with_reducible exact Below.size (by assumption)) | go_size)), .inl (ho5.mono (by (first | (go_size; done) | ((try simp only [World.size_alloc, World.size_setCell, World.size_drew, World.heap_drewN]); omega))))⟩
theorem l1Put_any (w : World) (v : Int) (Axs : Option Addr) (cxs : Nat) (xs : List Int) (hxs : Reads w Axs xs) (lxs : xs.length ≤ 1048576) (hcap : xs.length ≤ cxs) : Calls Try.prog 70 #[.slice Axs xs.length cxs, .int .i64 v] w (RetR (putL xs v) w) :=
  (l1Put_old w v Axs cxs xs hxs lxs hcap).mono fun _ _ ⟨A, c, h1, h2, h3, h4, _⟩ => ⟨A, c, h1, h2, h3, h4⟩
/-- onto a list of the call's own -/
theorem l1Put_own (w : World) (v : Int) (base : Nat) (A : Option Addr) (c : Nat) (xs : List Int) (hown : OwnI w base (.slice A xs.length c) xs) (lxs : xs.length ≤ 1048576) (hbase : base ≤ w.heap.size) : Calls Try.prog 70 #[.slice A xs.length c, .int .i64 v] w (fun e w' => ∃ v', e = .returned v' ∧ OwnI w' base v' (putL xs v) ∧ Below w.heap.size w w') :=
  (l1Put_old w v A c xs hown.reads.1 lxs hown.cap_).mono fun _ _ ⟨A', c', h1, h2, h3, h4, h5⟩ => by
    refine ⟨_, h1, ?_, h4⟩
    rcases h5 with h5 | ⟨rfl, rfl, h5⟩
    · exact h5.mono hbase
    · rw [h5]; exact hown.below h4
end Go.Proofs.Ythkchhjidihkpab


/-
  The contract of the library's Concat of lists of ints.
-/
namespace Go.Proofs.Ythkchhjidihkpab
open Go.RowKit
set_option maxRecDepth 100000 in
set_option maxHeartbeats 1000000 in
theorem growNil_any (w : World) (n : Nat) (hn : n ≤ 100000) : Calls Try.prog 120 #[.slice none 0 0, .int .i64 n] w (RetL [] w) := by
  obtain ⟨i0, hi, hz0, hz1, hz2⟩ := info_parts intInfo
  rcases Nat.eq_zero_or_pos n with h0 | h0
  · subst h0
    go_enter Try.func120, Try.ntmps120
    go_wp2
    go_ret
    exact ⟨_, rfl, OwnI.empty _ _, by (repeat' (first | (with_reducible exact Below.refl _ _) | (with_reducible assumption) | (with_reducible refine Below.drew ?_) | (with_reducible refine belowDrewN ?_ _) | (with_reducible refine Below.alloc ?_ ?_ _) | (with_reducible refine Below.setCell ?_ ?_ _) | (with_reducible refine belowStep (by assumption) ?_ ?_) | (with_reducible exact Below.size (by assumption)) | go_size))⟩
  · have h0' : 0 < (n : Int) := by omega
    have hge := grownCap_ge w n 0 3
    have hle := grownCap_le_maxLen w n 0 3 (by unfold maxLen; omega)
    have hle' := hle
    unfold maxLen at hle'
    have hrun := Lib.run_append_nil_zeros (P := Try.prog) w 22 3 22 3 i0 (.int .i64 0) .i64 .i64 Try.underlying22 Try.underlying3 hi hz0 n h0 (by omega) (by omega) (by rw [hz2]; omega)
    have hsz : (Builtin.zeroCells (Value.int .i64 0).cells n ++ Builtin.zeroCells (Value.int .i64 0).cells (grownCap w n 0 3 - n)).size = grownCap w n 0 3 * 1 := by
      rw [Array.size_append, size_zeroCells, size_zeroCells, show (Value.int .i64 0).cells.size = 1 from rfl]; omega
    generalize Builtin.zeroCells (Value.int .i64 0).cells n ++ Builtin.zeroCells (Value.int .i64 0).cells (grownCap w n 0 3 - n) = cs at *
    generalize grownCap w n 0 3 = g at *
    have Hrun := Lib.hid hrun
    have Hsz := Lib.hid hsz
    have Hle := Lib.hid hle
    clear hrun hsz hle
    go_enter Try.func120, Try.ntmps120
    go_wp2_with (at_builtin; refine Lib.wpList_append_run _ rfl _ _ _ _ rfl _ _ rfl rfl _ _ Hrun.out ?_)
    go_ret
    exact ⟨_, rfl, ⟨rfl, .inr ⟨w.heap.size, g, cs, rfl, Nat.le_refl _, heap_alloc_new w _, Nat.zero_le _, Hle.out, Hsz.out, by simp⟩⟩, by (repeat' (first | (with_reducible exact Below.refl _ _) | (with_reducible assumption) | (with_reducible refine Below.drew ?_) | (with_reducible refine belowDrewN ?_ _) | (with_reducible refine Below.alloc ?_ ?_ _) | (with_reducible refine Below.setCell ?_ ?_ _) | (with_reducible refine belowStep (by assumption) ?_ ?_) | (with_reducible exact Below.size (by assumption)) | go_size))⟩
theorem flat_take {L : List (List Int)} {k : Nat} {zs : List Int} (h : L[k]? = some zs) : (L.take (k + 1)).flatten = (L.take k).flatten ++ zs := by
  have hk : k < L.length := (List.getElem?_eq_some_iff.1 h).1
  rw [List.take_succ_eq_append_getElem hk, (List.getElem?_eq_some_iff.1 h).2]
  simp
theorem flat_le (L : List (List Int)) (k : Nat) : (L.take k).flatten.length ≤ L.flatten.length := by
  have := congrArg (fun l : List (List Int) => l.flatten.length) (List.take_append_drop k L)
  simp only [List.flatten_append, List.length_append] at this
  omega
set_option maxHeartbeats 2000000 in
theorem concat_any (w : World) (b n c : Nat) (L : List (List Int)) (hn : L.length = n) (hn2 : n ≤ 1000) (hf : L.flatten.length ≤ 100000) (hb : b < w.heap.size)
    (hL : ∀ (i : Nat) (zs : List Int), L[i]? = some zs → ∃ A c, w.cell? ⟨b, i, none⟩ = some (.slice A zs.length c) ∧ Reads w A zs) :
    Calls Try.prog 89 #[.slice (some ⟨b, 0, none⟩) n c] w (RetL L.flatten w) := by
  have HL := Lib.hid hL
  have Hn := Lib.hid hn
  clear hL hn
  go_enter Try.func89, Try.ntmps89
  go_wp2
  go_loopw [3, 11] (fun v3 v11 wr => ∃ k : Nat, k ≤ n ∧ v11 = .int .i64 k ∧ v3 = .int .i64 ((L.take k).flatten.length : Nat) ∧ ∃ m, wr = w.drewN m) (fun _ v11 _ => n - (intOf v11).toNat)
  case atStart => exact ⟨0, Nat.zero_le _, rfl, by simp, 0, rfl⟩
  case round =>
    obtain ⟨k, hk, rfl, rfl, m, rfl⟩ := hrel
    by_cases hlt : k < n
    · obtain ⟨zs, hzs⟩ : ∃ zs, L[k]? = some zs := ⟨_, List.getElem?_eq_getElem (by rw [Hn.out]; exact hlt)⟩
      obtain ⟨A, c1, hcell, hr⟩ := HL.out k zs hzs
      have Hfl := Lib.hid (flat_take hzs)
      clear hzs
      have hfl := flat_le L (k + 1)
      have Hr := Lib.hid hr
      clear hr
      rw [Hfl.out, List.length_append] at hfl
      generalize hf0 : (L.take k).flatten = fs at *
      have Hf0 := Lib.hid hf0
      clear hf0
      go_wp2
      go_roundw
      case rel => exact ⟨k + 1, by omega, by go_num, by rw [Hfl.out, List.length_append]; go_num, _, rfl⟩
      case measure => simp [intOf]; omega
    · obtain rfl : k = n := by omega
      have hfl := flat_le L k
      have Hk : Hid (L.take k = L) := by show L.take k = L; rw [← Hn.out, List.take_length]
      rw [Hk.out] at hfl ⊢
      go_wp2_with fail
      refine (growNil_any _ _ (by first | omega | (have := hf; rw [List.length_flatten] at this; omega))).mono ?_; rintro e w1 ⟨v1, rfl, ho1, hb1⟩
      have Ho1 := Lib.hid ho1
      have hz1 := hb1.size
      (try simp only [World.heap_drewN] at hz1)
      clear ho1
      go_wp2
      go_loopw [6, 27] (fun v6 v27 wr => ∃ j : Nat, j ≤ k ∧ v27 = .int .i64 j ∧ OwnI wr w.heap.size v6 (L.take j).flatten ∧ Below w.heap.size w wr) (fun _ v27 _ => k - (intOf v27).toNat)
      case atStart => exact ⟨0, Nat.zero_le _, rfl, Ho1.out, by (repeat' (first | (with_reducible exact Below.refl _ _) | (with_reducible assumption) | (with_reducible refine Below.drew ?_) | (with_reducible refine belowDrewN ?_ _) | (with_reducible refine Below.alloc ?_ ?_ _) | (with_reducible refine Below.setCell ?_ ?_ _) | (with_reducible refine belowStep (by assumption) ?_ ?_) | (with_reducible exact Below.size (by assumption)) | go_size))⟩
      case round =>
        obtain ⟨j, hj, rfl, ho, hbr⟩ := hrel
        by_cases hjk : j < k
        · obtain ⟨zs, hzs⟩ : ∃ zs, L[j]? = some zs := ⟨_, List.getElem?_eq_getElem (by rw [Hn.out]; exact hjk)⟩
          obtain ⟨A, c2, hcell, hr⟩ := HL.out j zs hzs
          have hcell := (hbr.cell (p := ⟨b, j, none⟩) hb).trans hcell
          have Hfl := Lib.hid (flat_take hzs)
          clear hzs
          have hfl2 := flat_le L (j + 1)
          have Hr := Lib.hid hr
          clear hr
          rw [Hfl.out, List.length_append] at hfl2
          have Ho := Lib.hid ho
          have hsz := hbr.size
          clear ho
          generalize hf0 : (L.take j).flatten = fs at *
          have Hf0 := Lib.hid hf0
          clear hf0
          go_wp2_with (at_builtin; refine wpList_app _ (o := ⟨some 33, _, _, _, _, _⟩) (ys := zs) rfl _ _ rfl rfl (Ho.out) (zs.length) (c2) (by first | (simp; done) | (simp; omega)) rfl (Hr.out.below (by (repeat' (first | (with_reducible exact Below.refl _ _) | (with_reducible assumption) | (with_reducible refine Below.drew ?_) | (with_reducible refine belowDrewN ?_ _) | (with_reducible refine Below.alloc ?_ ?_ _) | (with_reducible refine Below.setCell ?_ ?_ _) | (with_reducible refine belowStep (by assumption) ?_ ?_) | (with_reducible exact Below.size (by assumption)) | go_size)))) (by (try simp only [List.length_append, List.length_take, List.length_drop, List.length_nil, List.length_singleton, List.length_cons]); omega) (by first | exact Nat.le_refl _ | ((try simp only [World.size_alloc, World.size_setCell, World.size_drew, World.heap_drewN]); omega)) ?_; intro v3 w3 ho3 hb3 hg3 ht3; clear hg3 ht3; have hz3 := hb3.size; (try simp only [World.size_alloc, World.size_setCell, World.size_drew, World.heap_drewN] at hz3))
          go_roundw
          case rel => exact ⟨j + 1, by omega, by go_num, by rw [Hfl.out]; exact ho3, by (repeat' (first | (with_reducible exact Below.refl _ _) | (with_reducible assumption) | (with_reducible refine Below.drew ?_) | (with_reducible refine belowDrewN ?_ _) | (with_reducible refine Below.alloc ?_ ?_ _) | (with_reducible refine Below.setCell ?_ ?_ _) | (with_reducible refine belowStep (by assumption) ?_ ?_) | (with_reducible exact Below.size (by assumption)) | go_size))⟩
          case measure => simp [intOf]; omega
        · obtain rfl : j = k := by omega
          rw [Hk.out] at ho
          have Ho := Lib.hid ho
          clear ho
          go_wp2
          go_ret
          exact ⟨_, rfl, Ho.out, hbr⟩
theorem concat2_any (w : World) (b c : Nat) {xs ys : List Int} {Ax Ay : Option Addr} {cx cy : Nat} (hb : b < w.heap.size) (h0 : w.cell? ⟨b, 0, none⟩ = some (.slice Ax xs.length cx)) (h1 : w.cell? ⟨b, 1, none⟩ = some (.slice Ay ys.length cy)) (hx : Reads w Ax xs) (hy : Reads w Ay ys) (hf : xs.length + ys.length ≤ 100000) :
    Calls Try.prog 89 #[.slice (some ⟨b, 0, none⟩) 2 c] w (RetL (xs ++ ys) w) := by
  have := concat_any w b 2 c [xs, ys] rfl (by omega) (by simpa using hf) hb (fun i zs h => by
    match i, h with
    | 0, h => simp only [List.getElem?_cons_zero, Option.some.injEq] at h; subst h; exact ⟨_, _, h0, hx⟩
    | 1, h => simp only [List.getElem?_cons_succ, List.getElem?_cons_zero, Option.some.injEq] at h; subst h; exact ⟨_, _, h1, hy⟩)
  simpa using this
end Go.Proofs.Ythkchhjidihkpab
