
/-
  Plain facts on the products of the terms of two expansions.
-/
import Derived.Test.YtleookfdngnphaaSortP
namespace Go.Proofs.Ytleookfdngnphaa
open Go.RowKit
/-- all products, in the order in which they are made -/
def prd (a b : List Int) : List Int := a.flatMap (fun d => b.map (d * ·))
def poO (a b : List Int) : Option (List Int) := if expB a = true ∧ expB b = true ∧ expB (srt (prd a b)) = true then some (srt (prd a b)) else none
theorem poO_a {a b : List Int} (h : expB a = false) : poO a b = none := by unfold poO; rw [if_neg (fun e => by rw [h] at e; cases e.1)]
theorem poO_b {a b : List Int} (h : expB b = false) : poO a b = none := by unfold poO; rw [if_neg (fun e => by rw [h] at e; cases e.2.1)]
theorem poO_no {a b : List Int} (h : expB (srt (prd a b)) = false) : poO a b = none := by unfold poO; rw [if_neg (fun e => by rw [h] at e; cases e.2.2)]
theorem poO_yes {a b : List Int} (ha : expB a = true) (hb : expB b = true) (h : expB (srt (prd a b)) = true) : poO a b = some (srt (prd a b)) := by unfold poO; rw [if_pos ⟨ha, hb, h⟩]
theorem poO_len (a b : List Int) : ((poO a b).getD []).length ≤ 24 := by
  unfold poO
  split
  · rename_i h; exact expB_len h.2.2
  · simp
theorem prd_cons (d : Int) (a b : List Int) : prd (d :: a) b = b.map (d * ·) ++ prd a b := by simp [prd]
theorem prd_append (a c b : List Int) : prd (a ++ c) b = prd a b ++ prd c b := by simp [prd]
theorem prd_len (a b : List Int) : (prd a b).length = a.length * b.length := by
  induction a with
  | nil => simp [prd]
  | cons d a ih => rw [prd_cons, List.length_append, ih, List.length_map, List.length_cons, Nat.succ_mul]; omega
theorem prd_mem {a b : List Int} {x : Int} : x ∈ prd a b ↔ ∃ d ∈ a, ∃ e ∈ b, x = d * e := by
  unfold prd
  rw [List.mem_flatMap]
  constructor
  · rintro ⟨d, hd, hx⟩
    obtain ⟨e, he, rfl⟩ := List.mem_map.1 hx
    exact ⟨d, hd, e, he, rfl⟩
  · rintro ⟨d, hd, e, he, rfl⟩
    exact ⟨d, hd, List.mem_map.2 ⟨e, he, rfl⟩⟩
theorem prd_in {a b : List Int} (ha : expB a = true) (hb : expB b = true) : ∀ x ∈ prd a b, 1 ≤ x ∧ x ≤ 1000000000000000000 := fun x hx => by
  obtain ⟨d, hd, e, he, rfl⟩ := prd_mem.1 hx
  have h1 := expB_small ha d hd
  have h2 := expB_small hb e he
  have := mul_bounds (a := d) (b := e) (by omega) h1.2 (by omega) h2.2
  exact ⟨mul_pos1 h1.1 h2.1, this.2⟩
theorem prd_64 {a b : List Int} (ha : expB a = true) (hb : expB b = true) : In64 (prd a b) := In64.of_mem fun x hx => by have := prd_in ha hb x hx; omega
/-- the products up to a place in both lists -/
def prT (a b : List Int) (i : Nat) (d : Int) (j : Nat) : List Int := prd (a.take i) b ++ (b.take j).map (d * ·)
theorem prT_zero (a b : List Int) (i : Nat) (d : Int) : prT a b i d 0 = prd (a.take i) b := by simp [prT]
theorem prT_next {a b : List Int} {i j : Nat} {d e : Int} (h : b[j]? = some e) : prT a b i d (j + 1) = prT a b i d j ++ [d * e] := by
  unfold prT
  rw [List.take_add_one, h]
  simp
theorem prT_all {a b : List Int} {i : Nat} {d : Int} (h : a[i]? = some d) : prT a b i d b.length = prd (a.take (i + 1)) b := by
  unfold prT
  rw [List.take_add_one, h, List.take_length, prd_append]
  simp [prd]
theorem prT_len {a b : List Int} {i j : Nat} {d : Int} (ha : expB a = true) (hb : expB b = true) (hi : i ≤ a.length) (hj : j ≤ b.length) : (prT a b i d j).length ≤ 600 := by
  have h1 := expB_len ha
  have h2 := expB_len hb
  unfold prT
  rw [List.length_append, prd_len, List.length_map, List.length_take, List.length_take]
  have : min i a.length * b.length ≤ 24 * 24 := Nat.mul_le_mul (by omega) h2
  omega
theorem putAll_full : ∀ {ys xs : List Int}, Rising xs → (putAll xs ys).length = xs.length + ys.length → (xs ++ ys).Nodup
  | [], xs, hx, _ => by rw [List.append_nil]; exact hx.imp (fun h => by omega)
  | y :: ys, xs, hx, hl => by
    rw [putAll] at hl
    have h1 := putAll_len ys (putL xs y)
    have h2 := put_len xs y
    rw [List.length_cons] at hl
    have hy : y ∉ xs := fun h => by
      have := put_yes hx ((hasB_iff xs y).2 h)
      rw [this] at h1 hl
      omega
    have hp := put_perm hx hy
    have ih := putAll_full (ys := ys) (hx.put y) (by omega)
    exact ((hp.append_right ys).trans (List.perm_middle (a := y) (l₁ := xs) (l₂ := ys)).symm).nodup_iff.1 ih
theorem srt_nodup {xs : List Int} (h : expB (srt xs) = true) : xs.Nodup := (srt_perm xs).nodup_iff.1 ((expB_rising h).imp (fun h => by omega))
/-- what the model's puts come to -/
theorem put_srt {xs : List Int} (h : (putAll [] xs).length = xs.length) : putAll [] xs = srt xs := putAll_srt (by simpa using putAll_full (xs := []) (ys := xs) List.Pairwise.nil (by simpa using h))
theorem put_less {xs : List Int} (h : (putAll [] xs).length ≠ xs.length) : expB (srt xs) = false := by
  cases he : expB (srt xs) with
  | false => rfl
  | true =>
    exfalso
    apply h
    rw [putAll_srt (srt_nodup he), srt_len]
theorem srt_big {xs : List Int} {x : Int} (hx : x ∈ xs) (h : ¬ x ≤ 1000000000) : expB (srt xs) = false := by
  cases he : expB (srt xs) with
  | false => rfl
  | true => exact absurd (expB_small he x (srt_mem.2 hx)).2 h
theorem prd_two (xs : List Int) : prd xs [2] = xs.map (2 * ·) := by
  induction xs with
  | nil => rfl
  | cons x xs ih => rw [prd_cons, ih]; simp; omega
theorem rising_two {xs : List Int} (h : Rising xs) : Rising (xs.map (2 * ·)) := by
  unfold Rising at h ⊢
  rw [List.pairwise_map]
  exact h.imp (fun h => by omega)
theorem expB_two : expB [2] = true := by decide +kernel
theorem expB_26 : expB [2, 6] = true := by decide +kernel
end Go.Proofs.Ytleookfdngnphaa
