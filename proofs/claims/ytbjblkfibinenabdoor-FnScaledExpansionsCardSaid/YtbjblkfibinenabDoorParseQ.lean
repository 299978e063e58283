
/-
  Plain facts on texts of fractions and expansions: the program's way of reading them and the model's tell the same.
-/
import Derived.Test.YtbjblkfibinenabDoorParseP
import Derived.Test.YtbjblkfibinenabDoorSum2
namespace Go.Proofs.YtbjblkfibinenabDoor
/-! cutting at a byte -/
def glue (x : List UInt8) : List (List UInt8) → List (List UInt8)
  | [] => [x]
  | p :: ps => (x ++ p) :: ps
theorem glue_glue (x y : List UInt8) (L : List (List UInt8)) : glue x (glue y L) = glue (x ++ y) L := by cases L <;> simp [glue]
theorem glue_nil {L : List (List UInt8)} (h : L ≠ []) : glue [] L = L := by
  cases L with
  | nil => exact absurd rfl h
  | cons p ps => simp [glue]
theorem glue_len {L : List (List UInt8)} (x : List UInt8) (h : L ≠ []) : (glue x L).length = L.length := by
  cases L with
  | nil => exact absurd rfl h
  | cons p ps => simp [glue]
def splitL (b : UInt8) : List UInt8 → List (List UInt8)
  | [] => [[]]
  | c :: r => if c = b then [] :: splitL b r else glue [c] (splitL b r)
theorem split_ne (b : UInt8) (l : List UInt8) : splitL b l ≠ [] := by
  cases l with
  | nil => simp [splitL]
  | cons c r =>
    rw [splitL]
    split
    · simp
    · cases splitL b r <;> simp [glue]
theorem split_no : ∀ {b : UInt8} {l : List UInt8}, b ∉ l → splitL b l = [l]
  | b, [], _ => rfl
  | b, c :: r, h => by
    rw [splitL, if_neg (fun e => h (by simp [e])), split_no (fun e => h (by simp [e]))]
    rfl
theorem split_mid : ∀ {b : UInt8} {x : List UInt8} (r : List UInt8), b ∉ x → splitL b (x ++ b :: r) = x :: splitL b r
  | b, [], r, _ => by rw [List.nil_append, splitL, if_pos rfl]
  | b, c :: x, r, h => by
    rw [List.cons_append, splitL, if_neg (fun e => h (by simp [e])), split_mid r (fun e => h (by simp [e]))]
    rfl
theorem split_len : ∀ (b : UInt8) (l : List UInt8), (splitL b l).length ≤ l.length + 1
  | b, [] => by simp [splitL]
  | b, c :: r => by
    have := split_len b r
    rw [splitL]
    split
    · simp; omega
    · rw [glue_len _ (split_ne b r)]; simp; omega
/-- the first place of a byte, if there is one -/
theorem first_of (b : UInt8) : ∀ (l : List UInt8), b ∉ l ∨ ∃ x r, b ∉ x ∧ l = x ++ b :: r
  | [] => .inl (by simp)
  | c :: l => by
    by_cases h : c = b
    · exact .inr ⟨[], l, by simp, by simp [h]⟩
    · rcases first_of b l with h1 | ⟨x, r, h1, h2⟩
      · exact .inl (by simp [h1]; exact fun e => h e.symm)
      · exact .inr ⟨c :: x, r, by simp [h1]; exact fun e => h e.symm, by simp [h2]⟩
theorem ib_no {b : UInt8} {l : List UInt8} (h : b ∉ l) : Lib.index l [b] = -1 := by
  rw [Lib.index_one]
  have := Lib.indexByte_ge l b
  by_cases h1 : Lib.indexByte l b = -1
  · exact h1
  · obtain ⟨o, ho⟩ := Int.eq_ofNat_of_zero_le (by omega : 0 ≤ Lib.indexByte l b)
    exact absurd (List.mem_of_getElem? (Lib.indexByte_some ho).1) h
theorem ib_mid {b : UInt8} {x r : List UInt8} (h : b ∉ x) : Lib.index (x ++ b :: r) [b] = x.length := by
  rw [Lib.index_one]
  have hge := Lib.indexByte_ge (x ++ b :: r) b
  have hat : (x ++ b :: r)[x.length]? = some b := by rw [List.getElem?_append_right (Nat.le_refl _), Nat.sub_self]; rfl
  by_cases h1 : Lib.indexByte (x ++ b :: r) b = -1
  · exact absurd hat (Lib.indexByte_none h1 _)
  · obtain ⟨o, ho⟩ := Int.eq_ofNat_of_zero_le (by omega : 0 ≤ Lib.indexByte (x ++ b :: r) b)
    obtain ⟨h2, h3⟩ := Lib.indexByte_some ho
    rw [ho]
    rcases Nat.lt_trichotomy o x.length with h4 | h4 | h4
    · rw [List.getElem?_append_left h4] at h2
      exact absurd (List.mem_of_getElem? h2) h
    · rw [h4]
    · exact absurd hat (h3 _ h4)
theorem cut_no {b : UInt8} {l : List UInt8} (h : b ∉ l) : Lib.cut l [b] = (l, [], false) := by
  rw [Lib.cut, ib_no h, if_neg (by omega)]
theorem cut_mid {b : UInt8} {x r : List UInt8} (h : b ∉ x) : Lib.cut (x ++ b :: r) [b] = (x, r, true) := by
  rw [Lib.cut, ib_mid h, if_pos (by omega)]
  have e1 : (x ++ b :: r).take ((x.length : Int).toNat) = x := by simp
  have e2 : (x ++ b :: r).drop ((x.length : Int).toNat + [b].length) = r := by
    rw [show ((x.length : Int).toNat + [b].length) = x.length + 1 from by simp, List.drop_append]
    simp
  rw [e1, e2]
/-! texts of fractions -/
def textF (n d : Int) : List UInt8 := if d = 1 then Lib.decDigits n.toNat else Lib.decDigits n.toNat ++ ([47] ++ Lib.decDigits d.toNat)
theorem text_one {n d : Int} (h : d = 1) : textF n d = Lib.decDigits n.toNat := by rw [textF, if_pos h]
theorem text_two {n d : Int} (h : ¬ d = 1) : textF n d = Lib.decDigits n.toNat ++ ([47] ++ Lib.decDigits d.toNat) := by rw [textF, if_neg h]
theorem dd_no47 (u : Nat) : (47 : UInt8) ∉ Lib.decDigits u := fun h => by have := dd_digits u 47 h; simp at this
theorem dd_no43 (u : Nat) : (43 : UInt8) ∉ Lib.decDigits u := fun h => by have := dd_digits u 43 h; simp at this
def progF (l : List UInt8) : Option (Int × Int) :=
  match parseN (Lib.cut l [47]).1 with
  | none => none
  | some n =>
    if (Lib.cut l [47]).2.2 = true then
      match parseN (Lib.cut l [47]).2.1 with
      | none => none
      | some d => if d = 1 then none else if goodB n d = true then some (n, d) else none
    else if goodB n 1 = true then some (n, 1) else none
theorem progF_iff (l : List UInt8) (n d : Int) : progF l = some (n, d) ↔ goodB n d = true ∧ textF n d = l := by
  constructor
  · intro h
    unfold progF at h
    rcases first_of 47 l with h1 | ⟨x, r, h1, rfl⟩
    · rw [cut_no h1] at h
      simp only at h
      cases hp : parseN l with
      | none => rw [hp] at h; cases h
      | some m =>
        rw [hp] at h
        simp only [Bool.false_eq_true, if_false] at h
        split at h
        · rename_i hg
          injection h with h
          injection h with h2 h3
          subst h2 h3
          exact ⟨hg, by rw [text_one rfl]; exact parseN_back hp (good_bounds hg).1⟩
        · cases h
    · rw [cut_mid h1] at h
      simp only at h
      cases hp : parseN x with
      | none => rw [hp] at h; cases h
      | some m =>
        rw [hp] at h
        simp only [if_true] at h
        cases hq : parseN r with
        | none => rw [hq] at h; cases h
        | some k =>
          rw [hq] at h
          simp only at h
          split at h
          · cases h
          · rename_i h4
            split at h
            · rename_i hg
              injection h with h
              injection h with h2 h3
              subst h2 h3
              obtain ⟨g1, g2, g3, g4⟩ := good_bounds hg
              exact ⟨hg, by rw [text_two h4, parseN_back hp g1, parseN_back hq (by omega)]; rfl⟩
            · cases h
  · rintro ⟨hg, rfl⟩
    obtain ⟨g1, g2, g3, g4⟩ := good_bounds hg
    by_cases h1 : d = 1
    · subst h1
      unfold progF
      rw [text_one rfl, cut_no (dd_no47 _)]
      simp only
      rw [parseN_dd n g1 (by omega)]
      simp only [Bool.false_eq_true, if_false]
      rw [if_pos hg]
    · unfold progF
      rw [text_two h1, List.singleton_append, cut_mid (dd_no47 _)]
      simp only
      rw [parseN_dd n g1 (by omega), parseN_dd d (by omega) (by omega)]
      simp only [if_true]
      rw [if_neg h1, if_pos hg]
def modN (l : List UInt8) : Int := rdI ((splitL 47 l).headD [])
def modD (l : List UInt8) : Int := if (splitL 47 l).length = 2 then rdI ((splitL 47 l).getD 1 []) else 1
/-- the model tells a fraction -/
def modB (l : List UInt8) : Bool := decide ((splitL 47 l).length ≤ 2) && goodB (modN l) (modD l) && decide (textF (modN l) (modD l) = l)
theorem mod_of_text {n d : Int} (hg : goodB n d = true) : (splitL 47 (textF n d)).length ≤ 2 ∧ modN (textF n d) = n ∧ modD (textF n d) = d := by
  obtain ⟨g1, g2, g3, g4⟩ := good_bounds hg
  have e1 : rdI (Lib.decDigits n.toNat) = n := by rw [rdI_dd _ (by omega)]; omega
  have e2 : rdI (Lib.decDigits d.toNat) = d := by rw [rdI_dd _ (by omega)]; omega
  unfold modN modD
  by_cases h1 : d = 1
  · rw [text_one h1, split_no (dd_no47 _)]
    simp [e1, h1]
  · rw [text_two h1, List.singleton_append, split_mid _ (dd_no47 _), split_no (dd_no47 _)]
    simp [e1, e2]
theorem progF_yes {l : List UInt8} {n d : Int} (h : progF l = some (n, d)) : modB l = true ∧ modN l = n ∧ modD l = d := by
  obtain ⟨hg, ht⟩ := (progF_iff l n d).1 h
  obtain ⟨h1, h2, h3⟩ := mod_of_text hg
  rw [ht] at h1 h2 h3
  refine ⟨?_, h2, h3⟩
  simp [modB, h1, h2, h3, hg, ht]
theorem progF_no {l : List UInt8} (h : progF l = none) : modB l = false := by
  cases hm : modB l with
  | false => rfl
  | true =>
    simp only [modB, Bool.and_eq_true, decide_eq_true_eq] at hm
    have := (progF_iff l _ _).2 ⟨hm.1.2, hm.2⟩
    rw [h] at this
    cases this
theorem modB_iff (l : List UInt8) : modB l = true ↔ (splitL 47 l).length ≤ 2 ∧ goodB (modN l) (modD l) = true ∧ textF (modN l) (modD l) = l := by
  simp [modB, and_assoc]
/-! texts of expansions -/
theorem split_K (b : UInt8) : ∀ (k : Nat) (l : List UInt8), ((splitL b l).length ≤ k + 1 ∧ Lib.splitK [b] 0 k l = splitL b l) ∨ (k + 1 < (splitL b l).length ∧ ∃ w ∈ Lib.splitK [b] 0 k l, b ∈ w)
  | 0, l => by
    rcases first_of b l with h | ⟨x, r, h1, rfl⟩
    · exact .inl ⟨by rw [split_no h]; simp, by rw [split_no h]; rfl⟩
    · refine .inr ⟨?_, _, List.mem_singleton.2 rfl, by simp⟩
      rw [split_mid r h1]
      have := List.length_pos_iff.2 (split_ne b r)
      simp; omega
  | k + 1, l => by
    rcases first_of b l with h | ⟨x, r, h1, rfl⟩
    · refine .inl ⟨by rw [split_no h]; simp, ?_⟩
      rw [split_no h, Lib.splitK, ib_no h]
      rfl
    · have e : Lib.splitK [b] 0 (k + 1) (x ++ b :: r) = x :: Lib.splitK [b] 0 k r := by
        rw [Lib.splitK, ib_mid h1, if_neg (by simp)]
        have e1 : (x ++ b :: r).take ((x.length : Int).toNat + 0) = x := by simp
        have e2 : (x ++ b :: r).drop ((x.length : Int).toNat + [b].length) = r := by
          rw [show ((x.length : Int).toNat + [b].length) = x.length + 1 from by simp, List.drop_append]
          simp
        rw [e1, e2]
      rw [e, split_mid r h1]
      rcases split_K b k r with ⟨h2, h3⟩ | ⟨h2, w, h3, h4⟩
      · exact .inl ⟨by simp; omega, by rw [h3]⟩
      · exact .inr ⟨by simp; omega, w, by simp [h3], h4⟩
/-- the words that the program goes over -/
def wordsE (l : List UInt8) : List (List UInt8) := Lib.splitK [43] 0 (min 25 (l.length + 1) - 1) l
/-- the numbers of the model -/
def modE (l : List UInt8) : List Int := if l = [] then [] else (splitL 43 l).map rdI
theorem expB_in {xs : List Int} (h : expB xs = true) : xs.length ≤ 24 ∧ ∀ x ∈ xs, 1 ≤ x ∧ x ≤ 1000000000 := ⟨(expB_parts h).1, fun x hx => by
  obtain ⟨i, hi⟩ := List.getElem?_of_mem hx
  exact rise_in (expB_parts h).2.1 i x hi⟩
theorem itoa_no43 (v : Int) : (43 : UInt8) ∉ Lib.itoa v := fun h => by
  unfold Lib.itoa at h
  split at h
  · rcases List.mem_cons.1 h with h | h
    · cases h
    · exact dd_no43 _ h
  · exact dd_no43 _ h
theorem words_of (l : List UInt8) : wordsE l = splitL 43 l ∨ (24 < (splitL 43 l).length ∧ ∃ w ∈ wordsE l, parseN w = none) := by
  rcases split_K 43 (min 25 (l.length + 1) - 1) l with ⟨_, h⟩ | ⟨h1, w, h2, h3⟩
  · exact .inl h
  · refine .inr ⟨?_, w, h2, ?_⟩
    · have := split_len 43 l
      omega
    · cases hp : parseN w with
      | none => rfl
      | some v =>
        have := parseN_itoa hp
        rw [← this] at h3
        exact absurd h3 (itoa_no43 v)
theorem map_at {ws : List (List UInt8)} {xs : List Int} (h : ws.map parseN = xs.map some) : ws.length = xs.length ∧ ∀ w ∈ ws, ∃ x ∈ xs, parseN w = some x := by
  refine ⟨by simpa using congrArg List.length h, fun w hw => ?_⟩
  have : parseN w ∈ ws.map parseN := List.mem_map.2 ⟨w, hw, rfl⟩
  rw [h] at this
  obtain ⟨x, hx, e⟩ := List.mem_map.1 this
  exact ⟨x, hx, e.symm⟩
/-- all words are numbers, and the numbers are an expansion: the model has the same -/
theorem progE_yes {l : List UInt8} {xs : List Int} (hl : l ≠ []) (h : (wordsE l).map parseN = xs.map some) (he : expB xs = true) : modE l = xs := by
  rcases words_of l with hw | ⟨_, w, hw, hn⟩
  · rw [hw] at h
    rw [modE, if_neg hl]
    have hs := (expB_in he).2
    clear he hw hl
    generalize splitL 43 l = ws at h
    induction ws generalizing xs with
    | nil => cases xs <;> simp_all
    | cons w ws ih =>
      cases xs with
      | nil => simp at h
      | cons x xs =>
        simp only [List.map_cons, List.cons.injEq] at h ⊢
        have hx := hs x (by simp)
        refine ⟨?_, ih (fun y hy => hs y (by simp [hy])) h.2⟩
        rw [← parseN_back h.1 (by omega), rdI_dd _ (by omega)]; omega
  · obtain ⟨x, _, hx⟩ := (map_at h).2 w hw
    rw [hn] at hx; cases hx
/-- a word that is no number: the model's list is no expansion -/
theorem progE_word {l : List UInt8} {w : List UInt8} (hl : l ≠ []) (hw : w ∈ wordsE l) (hn : parseN w = none) : expB (modE l) = false := by
  cases he : expB (modE l) with
  | false => rfl
  | true =>
    obtain ⟨h1, h2⟩ := expB_in he
    rw [modE, if_neg hl] at h1 h2
    rw [List.length_map] at h1
    rcases words_of l with h3 | ⟨h3, _⟩
    · rw [h3] at hw
      have hx := h2 (rdI w) (List.mem_map.2 ⟨w, hw, rfl⟩)
      have hb := rdI_back (l := w) rfl (by omega)
      rw [← hb, parseN_dd _ (by omega) (by omega)] at hn
      cases hn
    · omega
/-- numbers that are no expansion: the model's are none either -/
theorem progE_no {l : List UInt8} {xs : List Int} (hl : l ≠ []) (h : (wordsE l).map parseN = xs.map some) (he : expB xs = false) : expB (modE l) = false := by
  cases hm : expB (modE l) with
  | false => rfl
  | true =>
    obtain ⟨h1, h2⟩ := expB_in hm
    rw [modE, if_neg hl] at h1 h2
    rw [List.length_map] at h1
    rcases words_of l with h3 | ⟨h3, _⟩
    · have hx : (splitL 43 l).map rdI = xs := by
        rw [h3] at h
        clear hm h1 h3 he hl
        generalize splitL 43 l = ws at h h2
        induction ws generalizing xs with
        | nil => cases xs <;> simp_all
        | cons w ws ih =>
          cases xs with
          | nil => simp at h
          | cons x xs =>
            simp only [List.map_cons, List.cons.injEq] at h ⊢
            have hx := h2 (rdI w) (by simp)
            have hb := rdI_back (l := w) rfl (by omega)
            have h4 := h.1
            rw [← hb, parseN_dd _ (by omega) (by omega)] at h4
            injection h4 with h4
            exact ⟨h4, ih h.2 (fun y hy => h2 y (by simp only [List.map_cons, List.mem_cons]; exact .inr hy))⟩
      rw [modE, if_neg hl, hx, he] at hm
      cases hm
    · omega
end Go.Proofs.YtbjblkfibinenabDoor
