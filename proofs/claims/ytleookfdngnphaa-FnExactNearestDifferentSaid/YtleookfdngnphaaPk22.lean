import Derived.Test.YtleookfdngnphaaPk21
import Derived.Deep.LoopGhost
import Derived.StillTailTactics

/-
  The contract of the search, for whatever it is made of.
-/
namespace Go.Proofs.Ytleookfdngnphaa
open Go.RowKit
theorem mkF2 (w : World) : (Instr.makeSlice 134 (.int .i64 2) (.int .i64 2)).run Try.prog w = .ok (.slice (some ⟨w.heap.size, 0, none⟩) 2 2) (w.alloc (.cells #[.int .i64 0, .int .i64 0, .int .i64 0, .int .i64 0] 38)) := by kernel_rfl
theorem mkF3 (w : World) : (Instr.makeSlice 134 (.int .i64 3) (.int .i64 3)).run Try.prog w = .ok (.slice (some ⟨w.heap.size, 0, none⟩) 3 3) (w.alloc (.cells #[.int .i64 0, .int .i64 0, .int .i64 0, .int .i64 0, .int .i64 0, .int .i64 0] 38)) := by kernel_rfl
theorem mkF4 (w : World) : (Instr.makeSlice 134 (.int .i64 4) (.int .i64 4)).run Try.prog w = .ok (.slice (some ⟨w.heap.size, 0, none⟩) 4 4) (w.alloc (.cells #[.int .i64 0, .int .i64 0, .int .i64 0, .int .i64 0, .int .i64 0, .int .i64 0, .int .i64 0, .int .i64 0] 38)) := by kernel_rfl
theorem mkF5 (w : World) : (Instr.makeSlice 134 (.int .i64 5) (.int .i64 5)).run Try.prog w = .ok (.slice (some ⟨w.heap.size, 0, none⟩) 5 5) (w.alloc (.cells #[.int .i64 0, .int .i64 0, .int .i64 0, .int .i64 0, .int .i64 0, .int .i64 0, .int .i64 0, .int .i64 0, .int .i64 0, .int .i64 0] 38)) := by kernel_rfl
theorem litFs (W W' : World) (base g k : Nat) (cs : Array Value) (hcs : cs.toList = fcells (List.replicate k (0, 0))) (hk : k ≤ 16) (hg : g = W.heap.size) (hb : base ≤ W.heap.size) (h : Below (W.alloc (.cells cs 38)).heap.size (W.alloc (.cells cs 38)) W') : OwnF W' base (.slice (some ⟨g, 0, none⟩) k k) (List.replicate k (0, 0)) := by
  subst hg
  have hl : cs.size = k * 2 := by
    have := congrArg List.length hcs
    rw [fcells_len, List.length_replicate] at this
    simpa using this
  have h0 : OwnF (W.alloc (.cells cs 38)) base (.slice (some ⟨W.heap.size, 0, none⟩) k k) (List.replicate k (0, 0)) := by
    unfold OwnF
    rw [List.length_replicate, ← hcs]
    exact World.ownsRow_lit W cs k hb (by unfold maxLen; omega) hl
  exact h0.below h
theorem sum_init {xs : List Int} {l : Int} (h : (sumL 0 1 (xs ++ [l])).isSome = true) : (sumL 0 1 xs).isSome = true := (pre_snoc h).1
theorem clone_n (w : World) (A : Option Addr) (n c : Nat) (ys : List Int) (hn : ys.length = n) (hr : Reads w A ys) (hl : n ≤ 1048576) (hne : ys ≠ []) : Calls Try.prog 98 #[.slice A n c] w (RetL ys w) := by
  subst hn
  exact clone_ne w A c ys hr hl hne
/-- what the search's rounds keep: so many steps are to come -/
def SR {σ : Type} (S : Srch σ) (K : Nat) (I : σ → Nat → Nat → World → Prop) (B0 : Nat) (w : World) (gs : Nat) (f1 f2 f3 : Value) (t : σ) (f : Nat) (v2 v4 : Value) (wr : World) : Prop :=
  ∃ (xs : List Int) (m : Nat) (d : Int) (s : σ) (gl c : Nat) (zs : List (Int × Int)), v2 = .slice (some ⟨gl, 0, none⟩) m c ∧ v4 = .int .i64 d ∧ gl ≠ gs ∧ w.heap.size + 1 ≤ gl ∧ m = xs.length ∧ m ≤ K ∧ S.Ends f xs d s t ∧ (sumL 0 1 xs).isSome = true ∧ (∀ x ∈ xs, 1 ≤ x ∧ x ≤ 1000000) ∧ OwnI wr (w.heap.size + 1) (.slice (some ⟨gl, 0, none⟩) m c) xs ∧ OwnF wr (w.heap.size + 1) (.slice (some ⟨gs, 0, none⟩) (K + 1) (K + 1)) zs ∧ Sums K xs zs ∧ SAt wr w.heap.size (K : Int) f1 f2 f3 ∧ I s gl gs wr ∧ Below B0 w wr ∧ w.heap.size ≤ wr.heap.size
set_option maxRecDepth 100000 in
set_option maxHeartbeats 8000000 in
theorem run_any {σ : Type} (S : Srch σ) (K : Nat) (κ : Int) (hκ : κ = (K : Int)) (hK : S.k = K) (hK1 : 1 ≤ K) (hK4 : K ≤ 4) (K1 K2 K3 : Nat) (cs1 cs2 cs3 : Array Value) (I : σ → Nat → Nat → World → Prop) (B0 : Nat) (w : World) (s t : σ) (N : Nat) (hB0 : B0 ≤ w.heap.size)
    (hent1 : ∀ args w1, Sem.run Try.prog (callFunc K1 args) w1 = .ok (.enter K1 args) w1) (hent2 : ∀ args w1, Sem.run Try.prog (callFunc K2 args) w1 = .ok (.enter K2 args) w1) (hent3 : ∀ args w1, Sem.run Try.prog (callFunc K3 args) w1 = .ok (.enter K3 args) w1)
    (hI1 : ∀ s gl gs w1 w2, I s gl gs w1 → Below w1.heap.size w1 w2 → I s gl gs w2)
    (hI2 : ∀ s gl gl' gs w1 w2, I s gl gs w1 → w1.grownBy w2 (some gl) → (gl' = gl ∨ w1.heap.size ≤ gl') → I s gl' gs w2)
    (hI3 : ∀ s gl gs w1 w2, I s gl gs w1 → w1.grownBy w2 (some gs) → I s gl gs w2)
    (hI0 : ∀ gl gs w1, w.heap.size ≤ gl → w.heap.size ≤ gs → Below w.heap.size w w1 → I s gl gs w1)
    (hF : ∀ s gl gs last n m (more : Nat) w1, I s gl gs w1 → goodB n m = true → S.cf (n, m) = true → 0 ≤ last → last ≤ 1000000 → more ≤ 4 → Calls Try.prog K1 (#[.int .i64 last, .agg #[.int .i64 n, .int .i64 m], .int .i64 (more : Int)] ++ cs1) w1 (Ret (.int .i64 (S.fr last (n, m) more)) w1))
    (hW : ∀ s gl gs d n m (more : Nat) w1, I s gl gs w1 → goodB n m = true → S.ck s d (n, m) more = true → more ≤ 4 → Calls Try.prog K2 (#[.int .i64 d, .agg #[.int .i64 n, .int .i64 m], .int .i64 (more : Int)] ++ cs2) w1 (Ret (.bool (S.wo s d (n, m) more)) w1))
    (hD : ∀ s gl gs xs n m v w1, I s gl gs w1 → goodB n m = true → xs ≠ [] → w.heap.size ≤ w1.heap.size → OwnI w1 w.heap.size v xs → v.ownBlock ≠ some gl → v.ownBlock ≠ some gs → Calls Try.prog K3 (#[v, .agg #[.int .i64 n, .int .i64 m]] ++ cs3) w1 (fun e w2 => e = .returned (.tuple #[]) ∧ I (S.fo s xs (n, m)) gl gs w2 ∧ Below B0 w1 w2 ∧ ∀ b, w.heap.size ≤ b → b < w1.heap.size → w2.heap[b]? = w1.heap[b]?))
    (hcf : S.cf (0, 1) = true) (hE : S.Ends N [] (S.fr 0 (0, 1) K) s t) :
    Calls Try.prog 166 #[.agg #[.int .i64 κ, .func (.func K1) #[] cs1, .func (.func K2) #[] cs2, .func (.func K3) #[] cs3]] w (fun e w' => e = .returned (.tuple #[]) ∧ (∃ gl gs, I t gl gs w') ∧ Below B0 w w') := by
  have HI1 := Lib.hid hI1
  have HI2 := Lib.hid hI2
  have HI3 := Lib.hid hI3
  have HI0 := Lib.hid hI0
  have HF := Lib.hid hF
  have HW := Lib.hid hW
  have HD := Lib.hid hD
  have HE1 := Lib.hid hent1
  have HE2 := Lib.hid hent2
  have HE3 := Lib.hid hent3
  have HE := Lib.hid hE
  have HK := Lib.hid hK
  have Hκ := Lib.hid hκ
  have HCF := Lib.hid hcf
  have HS0 := Lib.hid (SAt.new w κ (.func (.func K1) #[] cs1) (.func (.func K2) #[] cs2) (.func (.func K3) #[] cs3) 125)
  clear hI1 hI2 hI3 hI0 hF hW hD hent1 hent2 hent3 hE hK hcf hκ
  go_enter Try.func166, Try.ntmps166
  go_wp2
  go_step3
  go_upto_region 1 with fail
  go_cut [2, 3] (fun s2 s3 wx => ∃ (gl gs : Nat), s2 = .slice (some ⟨gl, 0, none⟩) 0 0 ∧ s3 = .slice (some ⟨gs, 0, none⟩) (K + 1) (K + 1) ∧ gl ≠ gs ∧ w.heap.size + 1 ≤ gl ∧ w.heap.size + 1 ≤ gs ∧ OwnI wx (w.heap.size + 1) (.slice (some ⟨gl, 0, none⟩) 0 0) [] ∧ OwnF wx (w.heap.size + 1) (.slice (some ⟨gs, 0, none⟩) (K + 1) (K + 1)) (List.replicate (K + 1) (0, 0)) ∧ SAt wx w.heap.size κ (.func (.func K1) #[] cs1) (.func (.func K2) #[] cs2) (.func (.func K3) #[] cs3) ∧ Below w.heap.size w wx ∧ w.heap.size + 1 ≤ wx.heap.size)
  case first =>
    obtain ⟨q1, q2, q3, q4, q5⟩ := HS0.out
    have hm2 := mkF2
    have hm3 := mkF3
    have hm4 := mkF4
    have hm5 := mkF5
    obtain rfl | rfl | rfl | rfl : K = 1 ∨ K = 2 ∨ K = 3 ∨ K = 4 := by omega
    · obtain rfl : κ = 1 := Hκ.out
      clear Hκ
      go_region
      all_goals go_wp2_with fail
      all_goals go_meet
      all_goals refine ⟨_, _, rfl, rfl, by omega, by omega, by omega, ?_, ?_, ?_, by (repeat' (first | (with_reducible exact Below.refl _ _) | (with_reducible assumption) | (with_reducible refine Below.drew ?_) | (with_reducible refine belowDrewN ?_ _) | (with_reducible refine Below.alloc ?_ ?_ _) | (with_reducible refine Below.setCell ?_ ?_ _) | (with_reducible refine belowStep (by assumption) ?_ ?_) | (with_reducible exact Below.size (by assumption)) | go_size)), by (first | (go_size; done) | ((try simp only [World.size_alloc, World.size_setCell, World.size_drew, World.heap_drewN]); omega))⟩
      all_goals first
        | exact HS0.out.below (by (repeat' (first | (with_reducible exact Below.refl _ _) | (with_reducible assumption) | (with_reducible refine Below.drew ?_) | (with_reducible refine belowDrewN ?_ _) | (with_reducible refine Below.alloc ?_ ?_ _) | (with_reducible refine Below.setCell ?_ ?_ _) | (with_reducible refine belowStep (by assumption) ?_ ?_) | (with_reducible exact Below.size (by assumption)) | go_size)))
        | exact litI (w.alloc (.cells #[.int .i64 1, .func (.func K1) #[] cs1, .func (.func K2) #[] cs2, .func (.func K3) #[] cs3] 125)) _ _ _ (by (first | (go_size; done) | ((try simp only [World.size_alloc]); omega))) (by (first | (go_size; done) | ((try simp only [World.size_alloc, World.size_setCell, World.size_drew, World.heap_drewN]); omega))) (by (repeat' (first | (with_reducible exact Below.refl _ _) | (with_reducible assumption) | (with_reducible refine Below.drew ?_) | (with_reducible refine belowDrewN ?_ _) | (with_reducible refine Below.alloc ?_ ?_ _) | (with_reducible refine Below.setCell ?_ ?_ _) | (with_reducible refine belowStep (by assumption) ?_ ?_) | (with_reducible exact Below.size (by assumption)) | go_size)))
        | exact litI ((w.alloc (.cells #[.int .i64 1, .func (.func K1) #[] cs1, .func (.func K2) #[] cs2, .func (.func K3) #[] cs3] 125)).alloc (.cells #[.int .i64 0, .int .i64 0, .int .i64 0, .int .i64 0] 38)) _ _ _ (by (first | (go_size; done) | ((try simp only [World.size_alloc]); omega))) (by (first | (go_size; done) | ((try simp only [World.size_alloc, World.size_setCell, World.size_drew, World.heap_drewN]); omega))) (by (repeat' (first | (with_reducible exact Below.refl _ _) | (with_reducible assumption) | (with_reducible refine Below.drew ?_) | (with_reducible refine belowDrewN ?_ _) | (with_reducible refine Below.alloc ?_ ?_ _) | (with_reducible refine Below.setCell ?_ ?_ _) | (with_reducible refine belowStep (by assumption) ?_ ?_) | (with_reducible exact Below.size (by assumption)) | go_size)))
        | exact litFs (w.alloc (.cells #[.int .i64 1, .func (.func K1) #[] cs1, .func (.func K2) #[] cs2, .func (.func K3) #[] cs3] 125)) _ _ _ _ #[.int .i64 0, .int .i64 0, .int .i64 0, .int .i64 0] rfl (by omega) (by (first | (go_size; done) | ((try simp only [World.size_alloc]); omega))) (by (first | (go_size; done) | ((try simp only [World.size_alloc, World.size_setCell, World.size_drew, World.heap_drewN]); omega))) (by (repeat' (first | (with_reducible exact Below.refl _ _) | (with_reducible assumption) | (with_reducible refine Below.drew ?_) | (with_reducible refine belowDrewN ?_ _) | (with_reducible refine Below.alloc ?_ ?_ _) | (with_reducible refine Below.setCell ?_ ?_ _) | (with_reducible refine belowStep (by assumption) ?_ ?_) | (with_reducible exact Below.size (by assumption)) | go_size)))
        | exact litFs ((w.alloc (.cells #[.int .i64 1, .func (.func K1) #[] cs1, .func (.func K2) #[] cs2, .func (.func K3) #[] cs3] 125)).alloc (.cells #[] 3)) _ _ _ _ #[.int .i64 0, .int .i64 0, .int .i64 0, .int .i64 0] rfl (by omega) (by (first | (go_size; done) | ((try simp only [World.size_alloc, World.size_setCell, World.size_drew, World.heap_drewN]); omega))) (by (first | (go_size; done) | ((try simp only [World.size_alloc, World.size_setCell, World.size_drew, World.heap_drewN]); omega))) (by (repeat' (first | (with_reducible exact Below.refl _ _) | (with_reducible assumption) | (with_reducible refine Below.drew ?_) | (with_reducible refine belowDrewN ?_ _) | (with_reducible refine Below.alloc ?_ ?_ _) | (with_reducible refine Below.setCell ?_ ?_ _) | (with_reducible refine belowStep (by assumption) ?_ ?_) | (with_reducible exact Below.size (by assumption)) | go_size)))
    · obtain rfl : κ = 2 := Hκ.out
      clear Hκ
      go_region
      all_goals go_wp2_with fail
      all_goals go_meet
      all_goals refine ⟨_, _, rfl, rfl, by omega, by omega, by omega, ?_, ?_, ?_, by (repeat' (first | (with_reducible exact Below.refl _ _) | (with_reducible assumption) | (with_reducible refine Below.drew ?_) | (with_reducible refine belowDrewN ?_ _) | (with_reducible refine Below.alloc ?_ ?_ _) | (with_reducible refine Below.setCell ?_ ?_ _) | (with_reducible refine belowStep (by assumption) ?_ ?_) | (with_reducible exact Below.size (by assumption)) | go_size)), by (first | (go_size; done) | ((try simp only [World.size_alloc, World.size_setCell, World.size_drew, World.heap_drewN]); omega))⟩
      all_goals first
        | exact HS0.out.below (by (repeat' (first | (with_reducible exact Below.refl _ _) | (with_reducible assumption) | (with_reducible refine Below.drew ?_) | (with_reducible refine belowDrewN ?_ _) | (with_reducible refine Below.alloc ?_ ?_ _) | (with_reducible refine Below.setCell ?_ ?_ _) | (with_reducible refine belowStep (by assumption) ?_ ?_) | (with_reducible exact Below.size (by assumption)) | go_size)))
        | exact litI (w.alloc (.cells #[.int .i64 2, .func (.func K1) #[] cs1, .func (.func K2) #[] cs2, .func (.func K3) #[] cs3] 125)) _ _ _ (by (first | (go_size; done) | ((try simp only [World.size_alloc]); omega))) (by (first | (go_size; done) | ((try simp only [World.size_alloc, World.size_setCell, World.size_drew, World.heap_drewN]); omega))) (by (repeat' (first | (with_reducible exact Below.refl _ _) | (with_reducible assumption) | (with_reducible refine Below.drew ?_) | (with_reducible refine belowDrewN ?_ _) | (with_reducible refine Below.alloc ?_ ?_ _) | (with_reducible refine Below.setCell ?_ ?_ _) | (with_reducible refine belowStep (by assumption) ?_ ?_) | (with_reducible exact Below.size (by assumption)) | go_size)))
        | exact litI ((w.alloc (.cells #[.int .i64 2, .func (.func K1) #[] cs1, .func (.func K2) #[] cs2, .func (.func K3) #[] cs3] 125)).alloc (.cells #[.int .i64 0, .int .i64 0, .int .i64 0, .int .i64 0, .int .i64 0, .int .i64 0] 38)) _ _ _ (by (first | (go_size; done) | ((try simp only [World.size_alloc]); omega))) (by (first | (go_size; done) | ((try simp only [World.size_alloc, World.size_setCell, World.size_drew, World.heap_drewN]); omega))) (by (repeat' (first | (with_reducible exact Below.refl _ _) | (with_reducible assumption) | (with_reducible refine Below.drew ?_) | (with_reducible refine belowDrewN ?_ _) | (with_reducible refine Below.alloc ?_ ?_ _) | (with_reducible refine Below.setCell ?_ ?_ _) | (with_reducible refine belowStep (by assumption) ?_ ?_) | (with_reducible exact Below.size (by assumption)) | go_size)))
        | exact litFs (w.alloc (.cells #[.int .i64 2, .func (.func K1) #[] cs1, .func (.func K2) #[] cs2, .func (.func K3) #[] cs3] 125)) _ _ _ _ #[.int .i64 0, .int .i64 0, .int .i64 0, .int .i64 0, .int .i64 0, .int .i64 0] rfl (by omega) (by (first | (go_size; done) | ((try simp only [World.size_alloc]); omega))) (by (first | (go_size; done) | ((try simp only [World.size_alloc, World.size_setCell, World.size_drew, World.heap_drewN]); omega))) (by (repeat' (first | (with_reducible exact Below.refl _ _) | (with_reducible assumption) | (with_reducible refine Below.drew ?_) | (with_reducible refine belowDrewN ?_ _) | (with_reducible refine Below.alloc ?_ ?_ _) | (with_reducible refine Below.setCell ?_ ?_ _) | (with_reducible refine belowStep (by assumption) ?_ ?_) | (with_reducible exact Below.size (by assumption)) | go_size)))
        | exact litFs ((w.alloc (.cells #[.int .i64 2, .func (.func K1) #[] cs1, .func (.func K2) #[] cs2, .func (.func K3) #[] cs3] 125)).alloc (.cells #[] 3)) _ _ _ _ #[.int .i64 0, .int .i64 0, .int .i64 0, .int .i64 0, .int .i64 0, .int .i64 0] rfl (by omega) (by (first | (go_size; done) | ((try simp only [World.size_alloc, World.size_setCell, World.size_drew, World.heap_drewN]); omega))) (by (first | (go_size; done) | ((try simp only [World.size_alloc, World.size_setCell, World.size_drew, World.heap_drewN]); omega))) (by (repeat' (first | (with_reducible exact Below.refl _ _) | (with_reducible assumption) | (with_reducible refine Below.drew ?_) | (with_reducible refine belowDrewN ?_ _) | (with_reducible refine Below.alloc ?_ ?_ _) | (with_reducible refine Below.setCell ?_ ?_ _) | (with_reducible refine belowStep (by assumption) ?_ ?_) | (with_reducible exact Below.size (by assumption)) | go_size)))
    · obtain rfl : κ = 3 := Hκ.out
      clear Hκ
      go_region
      all_goals go_wp2_with fail
      all_goals go_meet
      all_goals refine ⟨_, _, rfl, rfl, by omega, by omega, by omega, ?_, ?_, ?_, by (repeat' (first | (with_reducible exact Below.refl _ _) | (with_reducible assumption) | (with_reducible refine Below.drew ?_) | (with_reducible refine belowDrewN ?_ _) | (with_reducible refine Below.alloc ?_ ?_ _) | (with_reducible refine Below.setCell ?_ ?_ _) | (with_reducible refine belowStep (by assumption) ?_ ?_) | (with_reducible exact Below.size (by assumption)) | go_size)), by (first | (go_size; done) | ((try simp only [World.size_alloc, World.size_setCell, World.size_drew, World.heap_drewN]); omega))⟩
      all_goals first
        | exact HS0.out.below (by (repeat' (first | (with_reducible exact Below.refl _ _) | (with_reducible assumption) | (with_reducible refine Below.drew ?_) | (with_reducible refine belowDrewN ?_ _) | (with_reducible refine Below.alloc ?_ ?_ _) | (with_reducible refine Below.setCell ?_ ?_ _) | (with_reducible refine belowStep (by assumption) ?_ ?_) | (with_reducible exact Below.size (by assumption)) | go_size)))
        | exact litI (w.alloc (.cells #[.int .i64 3, .func (.func K1) #[] cs1, .func (.func K2) #[] cs2, .func (.func K3) #[] cs3] 125)) _ _ _ (by (first | (go_size; done) | ((try simp only [World.size_alloc]); omega))) (by (first | (go_size; done) | ((try simp only [World.size_alloc, World.size_setCell, World.size_drew, World.heap_drewN]); omega))) (by (repeat' (first | (with_reducible exact Below.refl _ _) | (with_reducible assumption) | (with_reducible refine Below.drew ?_) | (with_reducible refine belowDrewN ?_ _) | (with_reducible refine Below.alloc ?_ ?_ _) | (with_reducible refine Below.setCell ?_ ?_ _) | (with_reducible refine belowStep (by assumption) ?_ ?_) | (with_reducible exact Below.size (by assumption)) | go_size)))
        | exact litI ((w.alloc (.cells #[.int .i64 3, .func (.func K1) #[] cs1, .func (.func K2) #[] cs2, .func (.func K3) #[] cs3] 125)).alloc (.cells #[.int .i64 0, .int .i64 0, .int .i64 0, .int .i64 0, .int .i64 0, .int .i64 0, .int .i64 0, .int .i64 0] 38)) _ _ _ (by (first | (go_size; done) | ((try simp only [World.size_alloc]); omega))) (by (first | (go_size; done) | ((try simp only [World.size_alloc, World.size_setCell, World.size_drew, World.heap_drewN]); omega))) (by (repeat' (first | (with_reducible exact Below.refl _ _) | (with_reducible assumption) | (with_reducible refine Below.drew ?_) | (with_reducible refine belowDrewN ?_ _) | (with_reducible refine Below.alloc ?_ ?_ _) | (with_reducible refine Below.setCell ?_ ?_ _) | (with_reducible refine belowStep (by assumption) ?_ ?_) | (with_reducible exact Below.size (by assumption)) | go_size)))
        | exact litFs (w.alloc (.cells #[.int .i64 3, .func (.func K1) #[] cs1, .func (.func K2) #[] cs2, .func (.func K3) #[] cs3] 125)) _ _ _ _ #[.int .i64 0, .int .i64 0, .int .i64 0, .int .i64 0, .int .i64 0, .int .i64 0, .int .i64 0, .int .i64 0] rfl (by omega) (by (first | (go_size; done) | ((try simp only [World.size_alloc]); omega))) (by (first | (go_size; done) | ((try simp only [World.size_alloc, World.size_setCell, World.size_drew, World.heap_drewN]); omega))) (by (repeat' (first | (with_reducible exact Below.refl _ _) | (with_reducible assumption) | (with_reducible refine Below.drew ?_) | (with_reducible refine belowDrewN ?_ _) | (with_reducible refine Below.alloc ?_ ?_ _) | (with_reducible refine Below.setCell ?_ ?_ _) | (with_reducible refine belowStep (by assumption) ?_ ?_) | (with_reducible exact Below.size (by assumption)) | go_size)))
        | exact litFs ((w.alloc (.cells #[.int .i64 3, .func (.func K1) #[] cs1, .func (.func K2) #[] cs2, .func (.func K3) #[] cs3] 125)).alloc (.cells #[] 3)) _ _ _ _ #[.int .i64 0, .int .i64 0, .int .i64 0, .int .i64 0, .int .i64 0, .int .i64 0, .int .i64 0, .int .i64 0] rfl (by omega) (by (first | (go_size; done) | ((try simp only [World.size_alloc, World.size_setCell, World.size_drew, World.heap_drewN]); omega))) (by (first | (go_size; done) | ((try simp only [World.size_alloc, World.size_setCell, World.size_drew, World.heap_drewN]); omega))) (by (repeat' (first | (with_reducible exact Below.refl _ _) | (with_reducible assumption) | (with_reducible refine Below.drew ?_) | (with_reducible refine belowDrewN ?_ _) | (with_reducible refine Below.alloc ?_ ?_ _) | (with_reducible refine Below.setCell ?_ ?_ _) | (with_reducible refine belowStep (by assumption) ?_ ?_) | (with_reducible exact Below.size (by assumption)) | go_size)))
    · obtain rfl : κ = 4 := Hκ.out
      clear Hκ
      go_region
      all_goals go_wp2_with fail
      all_goals go_meet
      all_goals refine ⟨_, _, rfl, rfl, by omega, by omega, by omega, ?_, ?_, ?_, by (repeat' (first | (with_reducible exact Below.refl _ _) | (with_reducible assumption) | (with_reducible refine Below.drew ?_) | (with_reducible refine belowDrewN ?_ _) | (with_reducible refine Below.alloc ?_ ?_ _) | (with_reducible refine Below.setCell ?_ ?_ _) | (with_reducible refine belowStep (by assumption) ?_ ?_) | (with_reducible exact Below.size (by assumption)) | go_size)), by (first | (go_size; done) | ((try simp only [World.size_alloc, World.size_setCell, World.size_drew, World.heap_drewN]); omega))⟩
      all_goals first
        | exact HS0.out.below (by (repeat' (first | (with_reducible exact Below.refl _ _) | (with_reducible assumption) | (with_reducible refine Below.drew ?_) | (with_reducible refine belowDrewN ?_ _) | (with_reducible refine Below.alloc ?_ ?_ _) | (with_reducible refine Below.setCell ?_ ?_ _) | (with_reducible refine belowStep (by assumption) ?_ ?_) | (with_reducible exact Below.size (by assumption)) | go_size)))
        | exact litI (w.alloc (.cells #[.int .i64 4, .func (.func K1) #[] cs1, .func (.func K2) #[] cs2, .func (.func K3) #[] cs3] 125)) _ _ _ (by (first | (go_size; done) | ((try simp only [World.size_alloc]); omega))) (by (first | (go_size; done) | ((try simp only [World.size_alloc, World.size_setCell, World.size_drew, World.heap_drewN]); omega))) (by (repeat' (first | (with_reducible exact Below.refl _ _) | (with_reducible assumption) | (with_reducible refine Below.drew ?_) | (with_reducible refine belowDrewN ?_ _) | (with_reducible refine Below.alloc ?_ ?_ _) | (with_reducible refine Below.setCell ?_ ?_ _) | (with_reducible refine belowStep (by assumption) ?_ ?_) | (with_reducible exact Below.size (by assumption)) | go_size)))
        | exact litI ((w.alloc (.cells #[.int .i64 4, .func (.func K1) #[] cs1, .func (.func K2) #[] cs2, .func (.func K3) #[] cs3] 125)).alloc (.cells #[.int .i64 0, .int .i64 0, .int .i64 0, .int .i64 0, .int .i64 0, .int .i64 0, .int .i64 0, .int .i64 0, .int .i64 0, .int .i64 0] 38)) _ _ _ (by (first | (go_size; done) | ((try simp only [World.size_alloc]); omega))) (by (first | (go_size; done) | ((try simp only [World.size_alloc, World.size_setCell, World.size_drew, World.heap_drewN]); omega))) (by (repeat' (first | (with_reducible exact Below.refl _ _) | (with_reducible assumption) | (with_reducible refine Below.drew ?_) | (with_reducible refine belowDrewN ?_ _) | (with_reducible refine Below.alloc ?_ ?_ _) | (with_reducible refine Below.setCell ?_ ?_ _) | (with_reducible refine belowStep (by assumption) ?_ ?_) | (with_reducible exact Below.size (by assumption)) | go_size)))
        | exact litFs (w.alloc (.cells #[.int .i64 4, .func (.func K1) #[] cs1, .func (.func K2) #[] cs2, .func (.func K3) #[] cs3] 125)) _ _ _ _ #[.int .i64 0, .int .i64 0, .int .i64 0, .int .i64 0, .int .i64 0, .int .i64 0, .int .i64 0, .int .i64 0, .int .i64 0, .int .i64 0] rfl (by omega) (by (first | (go_size; done) | ((try simp only [World.size_alloc]); omega))) (by (first | (go_size; done) | ((try simp only [World.size_alloc, World.size_setCell, World.size_drew, World.heap_drewN]); omega))) (by (repeat' (first | (with_reducible exact Below.refl _ _) | (with_reducible assumption) | (with_reducible refine Below.drew ?_) | (with_reducible refine belowDrewN ?_ _) | (with_reducible refine Below.alloc ?_ ?_ _) | (with_reducible refine Below.setCell ?_ ?_ _) | (with_reducible refine belowStep (by assumption) ?_ ?_) | (with_reducible exact Below.size (by assumption)) | go_size)))
        | exact litFs ((w.alloc (.cells #[.int .i64 4, .func (.func K1) #[] cs1, .func (.func K2) #[] cs2, .func (.func K3) #[] cs3] 125)).alloc (.cells #[] 3)) _ _ _ _ #[.int .i64 0, .int .i64 0, .int .i64 0, .int .i64 0, .int .i64 0, .int .i64 0, .int .i64 0, .int .i64 0, .int .i64 0, .int .i64 0] rfl (by omega) (by (first | (go_size; done) | ((try simp only [World.size_alloc, World.size_setCell, World.size_drew, World.heap_drewN]); omega))) (by (first | (go_size; done) | ((try simp only [World.size_alloc, World.size_setCell, World.size_drew, World.heap_drewN]); omega))) (by (repeat' (first | (with_reducible exact Below.refl _ _) | (with_reducible assumption) | (with_reducible refine Below.drew ?_) | (with_reducible refine belowDrewN ?_ _) | (with_reducible refine Below.alloc ?_ ?_ _) | (with_reducible refine Below.setCell ?_ ?_ _) | (with_reducible refine belowStep (by assumption) ?_ ?_) | (with_reducible exact Below.size (by assumption)) | go_size)))
  case rest =>
    have hκ := Hκ.out
    clear Hκ
    subst hκ
    obtain ⟨wz, rfl⟩ : ∃ wz : World, wz = wc := ⟨_, rfl⟩
    obtain ⟨gl, gs, rfl, rfl, hne, hgl, hgs, ho, hf, hs, hbw, hzb⟩ := hcut
    have hzw : w.heap.size ≤ wz.heap.size := by omega
    obtain ⟨z1, z2, z3, z4⟩ := hf.cell2 (by simp) (k := 0) (p := (0, 0)) (by simp)
    rw [Nat.zero_mul] at z1 z2 z3 z4
    have hns : w.heap.size ≠ gs := by omega
    have hgz : gs < wz.heap.size := (hf.block gs rfl).2
    obtain ⟨w3, hw3⟩ : ∃ w3, w3 = (wz.setCell ⟨gs, 0, none⟩ (.int .i64 0)).setCell ⟨gs, 1, none⟩ (.int .i64 1) := ⟨_, rfl⟩
    have hg3 : wz.grownBy w3 (some gs) := by rw [hw3]; exact grownSet (grownSet (World.grownBy.refl _ _) rfl _ _) rfl _ _
    have Ho := Lib.hid (ho.ne hg3 (by simpa [Value.ownBlock] using hne))
    have Hf : Hid (OwnF w3 (w.heap.size + 1) (.slice (some ⟨gs, 0, none⟩) (K + 1) (K + 1)) ((List.replicate (K + 1) ((0 : Int), (0 : Int))).set 0 (0, 1))) := Lib.hid (by rw [hw3]; exact hf.set2 (by simp) 0 (by simp) 0 1)
    have Hs := Lib.hid (hs.grown hg3 hns)
    have Hb : Hid (Below w.heap.size w w3) := Lib.hid (by rw [hw3]; exact (hbw.setCell (show w.heap.size ≤ gs by omega) _).setCell (show w.heap.size ≤ gs by omega) _)
    have Hi := Lib.hid (HI0.out gl gs w3 (by omega) (by omega) Hb.out)
    have hz3 : wz.heap.size ≤ w3.heap.size := hg3.size
    have Hw3 := Lib.hid hw3
    clear ho hf hs hbw hg3 hw3
    have Hgs := Lib.hid hgs
    have hne' := hne
    go_upto_region 3 with fail
    rw [← Hw3.out]
    clear z1 z2 z3 z4
    obtain ⟨z1, z2, z3, z4⟩ := Hf.out.cell2 (by simp) (k := 0) (p := (0, 1)) (by simp)
    rw [Nat.zero_mul] at z1 z2 z3 z4
    obtain ⟨q1, q2, q3, q4, q5⟩ := Hs.out
    go_cut [4] (fun s4 wx => s4 = .int .i64 (S.fr 0 (0, 1) K) ∧ Below w3.heap.size w3 wx)
    case first =>
      go_still_tail 7, (by kernel_rfl)
      change wpList _ _ _ _ _ w3.drew
      go_wp2_with fail
      rw [HE1.out, Oper.upon_enter]
      refine (HF.out s gl gs 0 0 1 K _ (HI1.out _ _ _ _ _ Hi.out (by (repeat' (first | (with_reducible exact Below.refl _ _) | (with_reducible assumption) | (with_reducible refine Below.drew ?_) | (with_reducible refine belowDrewN ?_ _) | (with_reducible refine Below.alloc ?_ ?_ _) | (with_reducible refine Below.setCell ?_ ?_ _) | (with_reducible refine belowStep (by assumption) ?_ ?_) | (with_reducible exact Below.size (by assumption)) | go_size)))) good_zero HCF.out (by omega) (by omega) hK4).mono ?_; rintro e w4 ⟨rfl, hb4⟩
      go_wp2_with fail
      go_meet
      exact ⟨rfl, by (repeat' (first | (with_reducible exact Below.refl _ _) | (with_reducible assumption) | (with_reducible refine Below.drew ?_) | (with_reducible refine belowDrewN ?_ _) | (with_reducible refine Below.alloc ?_ ?_ _) | (with_reducible refine Below.setCell ?_ ?_ _) | (with_reducible refine belowStep (by assumption) ?_ ?_) | (with_reducible exact Below.size (by assumption)) | go_size))⟩
    case rest =>
      obtain ⟨w5, rfl⟩ : ∃ w5 : World, w5 = wc := ⟨_, rfl⟩
      obtain ⟨rfl, hb5⟩ := hcut
      have hz5 := hb5.size
      have Ho := Lib.hid (Ho.out.below hb5)
      have Hf := Lib.hid (Hf.out.below hb5)
      have Hs := Lib.hid (Hs.out.below hb5)
      have Hi := Lib.hid (HI1.out _ _ _ _ _ Hi.out hb5)
      have Hb : Hid (Below B0 w w5) := Lib.hid ((Hb.out.mono hB0).trans (hb5.mono (by omega)))
      clear z1 z2 z3 z4 q1 q2 q3 q4 q5 Hw3 hb5 HS0 HI0
      go_wp2
      go_step3
      go_wp2
      go_loopg [2, 4] N (fun g v2 v4 wr => SR S K I B0 w gs (.func (.func K1) #[] cs1) (.func (.func K2) #[] cs2) (.func (.func K3) #[] cs3) t g v2 v4 wr)
      case atStart => exact ⟨[], 0, _, s, gl, 0, _, rfl, rfl, hne, hgl, rfl, Nat.zero_le _, HE.out, rfl, fun x hx => absurd hx (by simp), Ho.out, Hf.out, Sums.start K, Hs.out, Hi.out, Hb.out, by omega⟩
      case round =>
        obtain ⟨go, hgo⟩ : ∃ go, gk = go := ⟨_, rfl⟩
        subst hgo
        have Hrel := Lib.hid hrel
        clear hrel
        go_wp2
        go_loopg [2, 4] gk (fun g v2 v4 wr => SR S K I B0 w gs (.func (.func K1) #[] cs1) (.func (.func K2) #[] cs2) (.func (.func K3) #[] cs3) t g v2 v4 wr ∧ g ≤ gk)
        case atStart => exact ⟨Hrel.out, Nat.le_refl _⟩
        case round =>
          clear Hrel
          obtain ⟨hrel, hgo⟩ := hrel
          obtain ⟨xs, m, d, s, gl, c, zs, rfl, rfl, hne, hgl, hm, hmK, hE, hsm, hin, ho, hf, hsum, hs, hi, hb, hzr⟩ := hrel
          have Hf := Lib.hid hf
          have Hs := Lib.hid hs
          have Hi := Lib.hid hi
          have Hb := Lib.hid hb
          have Ho := Lib.hid ho
          have Hin := Lib.hid hin
          have Hsum := Lib.hid hsum
          clear hf hs hi hb ho hin hsum
          obtain ⟨q1, q2, q3, q4, q5⟩ := Hs.out
          cases hE with
          | full f xs l d s _ hl hE2 =>
            have HE2' := Lib.hid hE2
            have Hm := Lib.hid hm
            have Hsm := Lib.hid hsm
            have hmK2 : m = K := by rw [hm, hl]; exact HK.out
            clear hE2 hl hm hsm
            have hxl : m = xs.length + 1 := by have := Hm.out; rw [List.length_append, List.length_singleton] at this; exact this
            obtain ⟨j, hj⟩ : ∃ j, j = m - 1 := ⟨_, rfl⟩
            have hw : IntKind.i64.wrap ((m : Int) - 1) = (j : Int) := by rw [show (m : Int) - 1 = (j : Int) by omega]; exact IntWalk.i64_in _ (by omega)
            have hj1 : (j : Int) < (m : Int) := by omega
            have hj2 : ¬ (j : Int) < 0 := by omega
            have hcap : (j : Int) ≤ (c : Int) := by
              have := Ho.out.cap_
              omega
            have hjx : (xs ++ [l])[j]? = some l := by rw [show j = xs.length by omega, List.getElem?_append_right (Nat.le_refl _)]; simp
            obtain ⟨hcl, hfl⟩ := Ho.out.cell_ (by rw [List.length_append, List.length_singleton]; exact hxl) hjx
            obtain ⟨l1, l2⟩ := Hin.out l (by simp)
            have o1 : IntKind.i64.wrap (l + 1) = l + 1 := IntWalk.i64_in _ (by omega)
            have Hjm := Lib.hid (show j = xs.length by omega)
            have Hxl := Lib.hid hxl
            clear hxl hj hjx
            subst hmK2
            go_wp2
            go_region
            all_goals go_wp2
            go_region
            all_goals
              go_wp2
              go_roundg f
              case measure => omega
              case rel => exact ⟨⟨xs, j, l + 1, s, gl, c, zs, rfl, rfl, hne, hgl, Hjm.out, by omega, HE2'.out, sum_init Hsm.out, fun x hx => Hin.out x (List.mem_append_left _ hx), (Ho.out.cut1 j Hjm.out).below (by (repeat' (first | (with_reducible exact Below.refl _ _) | (with_reducible assumption) | (with_reducible refine Below.drew ?_) | (with_reducible refine belowDrewN ?_ _) | (with_reducible refine Below.alloc ?_ ?_ _) | (with_reducible refine Below.setCell ?_ ?_ _) | (with_reducible refine belowStep (by assumption) ?_ ?_) | (with_reducible exact Below.size (by assumption)) | go_size))), Hf.out.below (by (repeat' (first | (with_reducible exact Below.refl _ _) | (with_reducible assumption) | (with_reducible refine Below.drew ?_) | (with_reducible refine belowDrewN ?_ _) | (with_reducible refine Below.alloc ?_ ?_ _) | (with_reducible refine Below.setCell ?_ ?_ _) | (with_reducible refine belowStep (by assumption) ?_ ?_) | (with_reducible exact Below.size (by assumption)) | go_size))), Hsum.out.cut, Hs.out.below (by (repeat' (first | (with_reducible exact Below.refl _ _) | (with_reducible assumption) | (with_reducible refine Below.drew ?_) | (with_reducible refine belowDrewN ?_ _) | (with_reducible refine Below.alloc ?_ ?_ _) | (with_reducible refine Below.setCell ?_ ?_ _) | (with_reducible refine belowStep (by assumption) ?_ ?_) | (with_reducible exact Below.size (by assumption)) | go_size))), HI1.out _ _ _ _ _ Hi.out (by (repeat' (first | (with_reducible exact Below.refl _ _) | (with_reducible assumption) | (with_reducible refine Below.drew ?_) | (with_reducible refine belowDrewN ?_ _) | (with_reducible refine Below.alloc ?_ ?_ _) | (with_reducible refine Below.setCell ?_ ?_ _) | (with_reducible refine belowStep (by assumption) ?_ ?_) | (with_reducible exact Below.size (by assumption)) | go_size))), Hb.out.trans ((show Below wr.heap.size wr _ by (repeat' (first | (with_reducible exact Below.refl _ _) | (with_reducible assumption) | (with_reducible refine Below.drew ?_) | (with_reducible refine belowDrewN ?_ _) | (with_reducible refine Below.alloc ?_ ?_ _) | (with_reducible refine Below.setCell ?_ ?_ _) | (with_reducible refine belowStep (by assumption) ?_ ?_) | (with_reducible exact Below.size (by assumption)) | go_size))).mono (by omega)), by (first | (go_size; done) | ((try simp only [World.size_alloc, World.size_setCell, World.size_drew, World.heap_drewN]); omega))⟩, by omega⟩
          | back f xs l d s _ hl hck hwo hE2 =>
            rw [HK.out, ← hm] at hck hwo hl
            have hlast : zs[m]? = some (preS (xs ++ [l])) := by rw [hm]; exact Hsum.out.last
            have hgood := pre_good hsm Hin.out
            obtain ⟨⟨p1, p2⟩, hp⟩ : ∃ p, p = preS (xs ++ [l]) := ⟨_, rfl⟩
            rw [← hp] at hck hwo hlast hgood
            have Hp := Lib.hid hp
            have hck2 : S.ck s d (p1, p2) (K - m) = true := hck
            have hmn : ¬ (m : Int) = (K : Int) := by omega
            have hmn2 : ((m : Int) == (K : Int)) = false := by simp; omega
            have hmi : (m : Int) < (K : Int) + 1 := by omega
            have hm0 : ¬ (m : Int) < 0 := by omega
            have hwk : IntKind.i64.wrap ((K : Int) - (m : Int)) = ((K - m : Nat) : Int) := by rw [show (K : Int) - (m : Int) = ((K - m : Nat) : Int) by omega]; exact IntWalk.i64_in _ (by omega)
            obtain ⟨z1, z2, z3, z4⟩ := Hf.out.cell2 (p := (p1, p2)) (k := m) (by rw [Hsum.out.1]) hlast
            have HWc : Hid (∀ w1, I s gl gs w1 → Calls Try.prog K2 (#[.int .i64 d, .agg #[.int .i64 p1, .int .i64 p2], .int .i64 ((K - m : Nat) : Int)] ++ cs2) w1 (Ret (.bool false) w1)) := Lib.hid fun w1 h => by
              have := HW.out s gl gs d p1 p2 (K - m) w1 h hgood hck2 (by omega)
              rwa [hwo] at this
            obtain ⟨mo, hmo⟩ : ∃ mo, mo = K - m := ⟨_, rfl⟩
            rw [← hmo] at hwk HWc
            have Hm := Lib.hid hm
            have Hsm := Lib.hid hsm
            have Hgood := Lib.hid hgood
            have HE2' := Lib.hid hE2
            have Hlast := Lib.hid hlast
            clear hmo hm hsm hck hck2 hwo hgood hE2 hp hlast
            go_upto_region 4 with fail
            go_cut [45] (fun s45 wx => s45 = .bool true ∧ Below wr.heap.size wr wx)
            case first =>
              go_still_tail 19, (by kernel_rfl)
              change wpList _ _ _ _ _ wr.drew
              go_wp2_with fail
              rw [HE2.out, Oper.upon_enter]
              refine (HWc.out _ (HI1.out _ _ _ _ _ Hi.out (by (repeat' (first | (with_reducible exact Below.refl _ _) | (with_reducible assumption) | (with_reducible refine Below.drew ?_) | (with_reducible refine belowDrewN ?_ _) | (with_reducible refine Below.alloc ?_ ?_ _) | (with_reducible refine Below.setCell ?_ ?_ _) | (with_reducible refine belowStep (by assumption) ?_ ?_) | (with_reducible exact Below.size (by assumption)) | go_size))))).mono ?_; rintro e w6 ⟨rfl, hb6⟩
              go_wp2_with fail
              go_meet
              exact ⟨rfl, by (repeat' (first | (with_reducible exact Below.refl _ _) | (with_reducible assumption) | (with_reducible refine Below.drew ?_) | (with_reducible refine belowDrewN ?_ _) | (with_reducible refine Below.alloc ?_ ?_ _) | (with_reducible refine Below.setCell ?_ ?_ _) | (with_reducible refine belowStep (by assumption) ?_ ?_) | (with_reducible exact Below.size (by assumption)) | go_size))⟩
            case rest =>
              obtain ⟨w7, rfl⟩ : ∃ w7 : World, w7 = wc := ⟨_, rfl⟩
              obtain ⟨rfl, hb7⟩ := hcut
              have hz7 := hb7.size
              have Ho := Lib.hid (Ho.out.below hb7)
              have Hf := Lib.hid (Hf.out.below hb7)
              have Hs := Lib.hid (Hs.out.below hb7)
              have Hi := Lib.hid (HI1.out _ _ _ _ _ Hi.out hb7)
              have Hb := Lib.hid (Hb.out.trans (hb7.mono (by omega)))
              clear z1 z2 z3 z4 q1 q2 q3 q4 q5 hb7 hmn hmn2 HWc
              obtain ⟨q1, q2, q3, q4, q5⟩ := Hs.out
              have hxl : m = xs.length + 1 := by have := Hm.out; rw [List.length_append, List.length_singleton] at this; exact this
              obtain ⟨j, hj⟩ : ∃ j, j = m - 1 := ⟨_, rfl⟩
              have hw : IntKind.i64.wrap ((m : Int) - 1) = (j : Int) := by rw [show (m : Int) - 1 = (j : Int) by omega]; exact IntWalk.i64_in _ (by omega)
              have hj1 : (j : Int) < (m : Int) := by omega
              have hj2 : ¬ (j : Int) < 0 := by omega
              have hcap : (j : Int) ≤ (c : Int) := by
                have := Ho.out.cap_
                omega
              have hjx : (xs ++ [l])[j]? = some l := by rw [show j = xs.length by omega, List.getElem?_append_right (Nat.le_refl _)]; simp
              obtain ⟨hcl, hfl⟩ := Ho.out.cell_ (by rw [List.length_append, List.length_singleton]; exact hxl) hjx
              obtain ⟨l1, l2⟩ := Hin.out l (by simp)
              have o1 : IntKind.i64.wrap (l + 1) = l + 1 := IntWalk.i64_in _ (by omega)
              have Hjm := Lib.hid (show j = xs.length by omega)
              have Hxl := Lib.hid hxl
              clear hxl hj hjx
              go_wp2
              go_region
              all_goals
                go_wp2
                go_roundg f
                case measure => omega
                case rel => exact ⟨⟨xs, j, l + 1, s, gl, c, zs, rfl, rfl, hne, hgl, Hjm.out, by omega, HE2'.out, sum_init Hsm.out, fun x hx => Hin.out x (List.mem_append_left _ hx), (Ho.out.cut1 j Hjm.out).below (by (repeat' (first | (with_reducible exact Below.refl _ _) | (with_reducible assumption) | (with_reducible refine Below.drew ?_) | (with_reducible refine belowDrewN ?_ _) | (with_reducible refine Below.alloc ?_ ?_ _) | (with_reducible refine Below.setCell ?_ ?_ _) | (with_reducible refine belowStep (by assumption) ?_ ?_) | (with_reducible exact Below.size (by assumption)) | go_size))), Hf.out.below (by (repeat' (first | (with_reducible exact Below.refl _ _) | (with_reducible assumption) | (with_reducible refine Below.drew ?_) | (with_reducible refine belowDrewN ?_ _) | (with_reducible refine Below.alloc ?_ ?_ _) | (with_reducible refine Below.setCell ?_ ?_ _) | (with_reducible refine belowStep (by assumption) ?_ ?_) | (with_reducible exact Below.size (by assumption)) | go_size))), Hsum.out.cut, Hs.out.below (by (repeat' (first | (with_reducible exact Below.refl _ _) | (with_reducible assumption) | (with_reducible refine Below.drew ?_) | (with_reducible refine belowDrewN ?_ _) | (with_reducible refine Below.alloc ?_ ?_ _) | (with_reducible refine Below.setCell ?_ ?_ _) | (with_reducible refine belowStep (by assumption) ?_ ?_) | (with_reducible exact Below.size (by assumption)) | go_size))), HI1.out _ _ _ _ _ Hi.out (by (repeat' (first | (with_reducible exact Below.refl _ _) | (with_reducible assumption) | (with_reducible refine Below.drew ?_) | (with_reducible refine belowDrewN ?_ _) | (with_reducible refine Below.alloc ?_ ?_ _) | (with_reducible refine Below.setCell ?_ ?_ _) | (with_reducible refine belowStep (by assumption) ?_ ?_) | (with_reducible exact Below.size (by assumption)) | go_size))), Hb.out.trans ((show Below w7.heap.size w7 _ by (repeat' (first | (with_reducible exact Below.refl _ _) | (with_reducible assumption) | (with_reducible refine Below.drew ?_) | (with_reducible refine belowDrewN ?_ _) | (with_reducible refine Below.alloc ?_ ?_ _) | (with_reducible refine Below.setCell ?_ ?_ _) | (with_reducible refine belowStep (by assumption) ?_ ?_) | (with_reducible exact Below.size (by assumption)) | go_size))).mono (by omega)), by (first | (go_size; done) | ((try simp only [World.size_alloc, World.size_setCell, World.size_drew, World.heap_drewN]); omega))⟩, by omega⟩
          | stop d _ h0 hck hwo =>
            have hK0 : S.k = K - m := by rw [hm]; exact HK.out
            rw [hK0] at hck hwo
            have hl : m < K := by rw [hm]; exact hK1
            have hlast : zs[m]? = some (preS []) := by rw [hm]; exact Hsum.out.last
            have hE2 : True := trivial
            clear h0 hK0
            have hgood := pre_good hsm Hin.out
            obtain ⟨⟨p1, p2⟩, hp⟩ : ∃ p, p = preS [] := ⟨_, rfl⟩
            rw [show ((0 : Int), (1 : Int)) = preS [] from rfl, ← hp] at hck hwo
            rw [← hp] at hlast hgood
            have Hp := Lib.hid hp
            have hck2 : S.ck t d (p1, p2) (K - m) = true := hck
            have hmn : ¬ (m : Int) = (K : Int) := by omega
            have hmn2 : ((m : Int) == (K : Int)) = false := by simp; omega
            have hmi : (m : Int) < (K : Int) + 1 := by omega
            have hm0 : ¬ (m : Int) < 0 := by omega
            have hwk : IntKind.i64.wrap ((K : Int) - (m : Int)) = ((K - m : Nat) : Int) := by rw [show (K : Int) - (m : Int) = ((K - m : Nat) : Int) by omega]; exact IntWalk.i64_in _ (by omega)
            obtain ⟨z1, z2, z3, z4⟩ := Hf.out.cell2 (p := (p1, p2)) (k := m) (by rw [Hsum.out.1]) hlast
            have HWc : Hid (∀ w1, I t gl gs w1 → Calls Try.prog K2 (#[.int .i64 d, .agg #[.int .i64 p1, .int .i64 p2], .int .i64 ((K - m : Nat) : Int)] ++ cs2) w1 (Ret (.bool false) w1)) := Lib.hid fun w1 h => by
              have := HW.out t gl gs d p1 p2 (K - m) w1 h hgood hck2 (by omega)
              rwa [hwo] at this
            obtain ⟨mo, hmo⟩ : ∃ mo, mo = K - m := ⟨_, rfl⟩
            rw [← hmo] at hwk HWc
            have Hm := Lib.hid hm
            have Hsm := Lib.hid hsm
            have Hgood := Lib.hid hgood
            have HE2' := Lib.hid hE2
            have Hlast := Lib.hid hlast
            clear hmo hm hsm hck hck2 hwo hgood hE2 hp hlast
            go_upto_region 4 with fail
            go_cut [45] (fun s45 wx => s45 = .bool true ∧ Below wr.heap.size wr wx)
            case first =>
              go_still_tail 19, (by kernel_rfl)
              change wpList _ _ _ _ _ wr.drew
              go_wp2_with fail
              rw [HE2.out, Oper.upon_enter]
              refine (HWc.out _ (HI1.out _ _ _ _ _ Hi.out (by (repeat' (first | (with_reducible exact Below.refl _ _) | (with_reducible assumption) | (with_reducible refine Below.drew ?_) | (with_reducible refine belowDrewN ?_ _) | (with_reducible refine Below.alloc ?_ ?_ _) | (with_reducible refine Below.setCell ?_ ?_ _) | (with_reducible refine belowStep (by assumption) ?_ ?_) | (with_reducible exact Below.size (by assumption)) | go_size))))).mono ?_; rintro e w6 ⟨rfl, hb6⟩
              go_wp2_with fail
              go_meet
              exact ⟨rfl, by (repeat' (first | (with_reducible exact Below.refl _ _) | (with_reducible assumption) | (with_reducible refine Below.drew ?_) | (with_reducible refine belowDrewN ?_ _) | (with_reducible refine Below.alloc ?_ ?_ _) | (with_reducible refine Below.setCell ?_ ?_ _) | (with_reducible refine belowStep (by assumption) ?_ ?_) | (with_reducible exact Below.size (by assumption)) | go_size))⟩
            case rest =>
              obtain ⟨w7, rfl⟩ : ∃ w7 : World, w7 = wc := ⟨_, rfl⟩
              obtain ⟨rfl, hb7⟩ := hcut
              have hz7 := hb7.size
              have Ho := Lib.hid (Ho.out.below hb7)
              have Hf := Lib.hid (Hf.out.below hb7)
              have Hs := Lib.hid (Hs.out.below hb7)
              have Hi := Lib.hid (HI1.out _ _ _ _ _ Hi.out hb7)
              have Hb := Lib.hid (Hb.out.trans (hb7.mono (by omega)))
              clear z1 z2 z3 z4 q1 q2 q3 q4 q5 hb7 hmn hmn2 HWc
              obtain ⟨q1, q2, q3, q4, q5⟩ := Hs.out
              have hw : IntKind.i64.wrap ((m : Int) - 1) = -1 := by rw [show m = 0 from Hm.out]; rfl
              go_wp2
              go_end0
              exact ⟨rfl, ⟨gl, gs, Hi.out⟩, Hb.out⟩
          | last f xs d s _ hl hck hwo hsm2 hd1 hd2 hE2 =>
            have e1 : (1 : Nat) = K - m := by have := HK.out; omega
            rw [e1] at hck hwo
            rw [HK.out, ← hm] at hl
            have hlast : zs[m]? = some (preS xs) := by rw [hm]; exact Hsum.out.last
            obtain ⟨-, hred, hpre⟩ := pre_snoc hsm2
            have Hl1 := Lib.hid hl
            have hk2 : ((m : Int) + 1 == (K : Int)) = true := by simp; omega
            have hk3 : decide ((m : Int) + 1 = (K : Int)) = true := by simp; omega
            have hl : m < K := by omega
            have Hpre := Lib.hid hpre
            have Hred := Lib.hid hred
            have Hsm2 := Lib.hid hsm2
            clear hpre hred hsm2 e1
            have hgood := pre_good hsm Hin.out
            obtain ⟨⟨p1, p2⟩, hp⟩ : ∃ p, p = preS xs := ⟨_, rfl⟩
            rw [← hp] at hck hwo hlast hgood
            have Hp := Lib.hid hp
            have hck2 : S.ck s d (p1, p2) (K - m) = true := hck
            have hmn : ¬ (m : Int) = (K : Int) := by omega
            have hmn2 : ((m : Int) == (K : Int)) = false := by simp; omega
            have hmi : (m : Int) < (K : Int) + 1 := by omega
            have hm0 : ¬ (m : Int) < 0 := by omega
            have hwk : IntKind.i64.wrap ((K : Int) - (m : Int)) = ((K - m : Nat) : Int) := by rw [show (K : Int) - (m : Int) = ((K - m : Nat) : Int) by omega]; exact IntWalk.i64_in _ (by omega)
            obtain ⟨z1, z2, z3, z4⟩ := Hf.out.cell2 (p := (p1, p2)) (k := m) (by rw [Hsum.out.1]) hlast
            have HWc : Hid (∀ w1, I s gl gs w1 → Calls Try.prog K2 (#[.int .i64 d, .agg #[.int .i64 p1, .int .i64 p2], .int .i64 ((K - m : Nat) : Int)] ++ cs2) w1 (Ret (.bool true) w1)) := Lib.hid fun w1 h => by
              have := HW.out s gl gs d p1 p2 (K - m) w1 h hgood hck2 (by omega)
              rwa [hwo] at this
            obtain ⟨mo, hmo⟩ : ∃ mo, mo = K - m := ⟨_, rfl⟩
            rw [← hmo] at hwk HWc
            have Hm := Lib.hid hm
            have Hsm := Lib.hid hsm
            have Hgood := Lib.hid hgood
            have HE2' := Lib.hid hE2
            have Hlast := Lib.hid hlast
            clear hmo hm hsm hck hck2 hwo hgood hE2 hp hlast
            go_upto_region 4 with fail
            go_cut [45] (fun s45 wx => s45 = .bool false ∧ Below wr.heap.size wr wx)
            case first =>
              go_still_tail 19, (by kernel_rfl)
              change wpList _ _ _ _ _ wr.drew
              go_wp2_with fail
              rw [HE2.out, Oper.upon_enter]
              refine (HWc.out _ (HI1.out _ _ _ _ _ Hi.out (by (repeat' (first | (with_reducible exact Below.refl _ _) | (with_reducible assumption) | (with_reducible refine Below.drew ?_) | (with_reducible refine belowDrewN ?_ _) | (with_reducible refine Below.alloc ?_ ?_ _) | (with_reducible refine Below.setCell ?_ ?_ _) | (with_reducible refine belowStep (by assumption) ?_ ?_) | (with_reducible exact Below.size (by assumption)) | go_size))))).mono ?_; rintro e w6 ⟨rfl, hb6⟩
              go_wp2_with fail
              go_meet
              exact ⟨rfl, by (repeat' (first | (with_reducible exact Below.refl _ _) | (with_reducible assumption) | (with_reducible refine Below.drew ?_) | (with_reducible refine belowDrewN ?_ _) | (with_reducible refine Below.alloc ?_ ?_ _) | (with_reducible refine Below.setCell ?_ ?_ _) | (with_reducible refine belowStep (by assumption) ?_ ?_) | (with_reducible exact Below.size (by assumption)) | go_size))⟩
            case rest =>
              obtain ⟨w7, rfl⟩ : ∃ w7 : World, w7 = wc := ⟨_, rfl⟩
              obtain ⟨rfl, hb7⟩ := hcut
              have hz7 := hb7.size
              have Ho := Lib.hid (Ho.out.below hb7)
              have Hf := Lib.hid (Hf.out.below hb7)
              have Hs := Lib.hid (Hs.out.below hb7)
              have Hi := Lib.hid (HI1.out _ _ _ _ _ Hi.out hb7)
              have Hb := Lib.hid (Hb.out.trans (hb7.mono (by omega)))
              clear z1 z2 z3 z4 q1 q2 q3 q4 q5 hb7 hmn hmn2 HWc
              obtain ⟨q1, q2, q3, q4, q5⟩ := Hs.out
              clear q1 q2 q3 q4 q5
              obtain ⟨q1, q2, q3, q4, q5⟩ := Hs.out
              obtain ⟨z1, z2, z3, z4⟩ := Hf.out.cell2 (p := (p1, p2)) (k := m) (by rw [Hsum.out.1]) Hlast.out
              obtain ⟨r, hr⟩ : ∃ r, zs[m + 1]? = some r := ⟨_, List.getElem?_eq_getElem (by rw [Hsum.out.1]; omega)⟩
              have HAd := Lib.hid fun (w : World) => add_yes p1 p2 1 d w Hgood.out (good_unit hd1 (by omega))
              rw [Int.one_mul] at HAd
              rw [← Hp.out] at Hpre
              rw [← Hp.out] at Hred
              rw [Hred.out] at HAd
              have Hpre := Hpre
              obtain ⟨r1, hr1⟩ : ∃ r1, r1 = redN (p1 * d + p2) (p2 * d) := ⟨_, rfl⟩
              obtain ⟨r2, hr2⟩ : ∃ r2, r2 = redD (p1 * d + p2) (p2 * d) := ⟨_, rfl⟩
              have Hpre2 : Hid (preS (xs ++ [d]) = (r1, r2)) := Lib.hid (by rw [hr1, hr2]; exact Hpre.out)
              have HAd2 : Hid (∀ w, Calls Try.prog 52 #[.agg #[.int .i64 p1, .int .i64 p2], .agg #[.int .i64 1, .int .i64 d]] w (Ret (.tuple #[.agg #[.int .i64 r1, .int .i64 r2], .bool true]) w)) := Lib.hid (by rw [hr1, hr2]; exact HAd.out)
              have Hrr := Lib.hid hr
              have Hin2 : Hid (∀ x ∈ xs ++ [d], 1 ≤ x ∧ x ≤ 1000000) := Lib.hid (fun x hx => by
                rcases List.mem_append.1 hx with h | h
                · exact Hin.out x h
                · rw [List.mem_singleton.1 h]; exact ⟨hd1, hd2⟩)
              have hgood2 := pre_good Hsm2.out Hin2.out
              rw [Hpre2.out] at hgood2
              have Hgood2 := Lib.hid hgood2
              have hmi2 : ((m + 1 : Nat) : Int) < (K : Int) + 1 := by omega
              have hmi3 : (m : Int) + 1 < (K : Int) + 1 := by omega
              have hm02 : ¬ (m : Int) + 1 < 0 := by omega
              have hlm : xs.length ≤ 4 := by have := Hm.out; omega
              have hwb : w.heap.size + 1 ≤ w7.heap.size := by omega
              have hgl7 := (Ho.out.block gl rfl).2
              have hgs7 := (Hf.out.block gs rfl).2
              clear hr hr1 hr2 HAd hgood2 Hred
              go_upto_region 10 with (first
                | (go_at_call 52; refine (HAd2.out _).mono ?_; rintro e w8 ⟨rfl, hb8⟩; obtain ⟨hc8, hf8⟩ := bcellB hb8; have hz8 := hb8.size; (try simp only [World.size_alloc, World.size_setCell, World.size_drew, World.heap_drewN] at hc8 hf8 hz8); (try have hy8_r_0 : wr.heap.size < w8.heap.size := by omega); (try have hn8_r_0 : wr.heap.size ≠ w8.heap.size := by omega); (try have hm8_r_0 : w8.heap.size ≠ wr.heap.size := by omega); (try have hy8_r_1 : wr.heap.size + 1 < w8.heap.size := by omega); (try have hn8_r_1 : wr.heap.size + 1 ≠ w8.heap.size := by omega); (try have hm8_r_1 : w8.heap.size ≠ wr.heap.size + 1 := by omega); (try have hy8_r_2 : wr.heap.size + 1 + 1 < w8.heap.size := by omega); (try have hp8_r_1 : wr.heap.size < w8.heap.size + 1 := by omega); (try have hp8_r_2 : wr.heap.size < w8.heap.size + 1 + 1 := by omega); (try have hy8_0_0 : w.heap.size < w8.heap.size := by omega); (try have hn8_0_0 : w.heap.size ≠ w8.heap.size := by omega); (try have hm8_0_0 : w8.heap.size ≠ w.heap.size := by omega); (try have hy8_0_1 : w.heap.size + 1 < w8.heap.size := by omega); (try have hn8_0_1 : w.heap.size + 1 ≠ w8.heap.size := by omega); (try have hm8_0_1 : w8.heap.size ≠ w.heap.size + 1 := by omega); (try have hy8_0_2 : w.heap.size + 1 + 1 < w8.heap.size := by omega); (try have hp8_0_1 : w.heap.size < w8.heap.size + 1 := by omega); (try have hp8_0_2 : w.heap.size < w8.heap.size + 1 + 1 := by omega); (try have hy8_1_0 : w1.heap.size < w8.heap.size := by omega); (try have hn8_1_0 : w1.heap.size ≠ w8.heap.size := by omega); (try have hm8_1_0 : w8.heap.size ≠ w1.heap.size := by omega); (try have hy8_1_1 : w1.heap.size + 1 < w8.heap.size := by omega); (try have hn8_1_1 : w1.heap.size + 1 ≠ w8.heap.size := by omega); (try have hm8_1_1 : w8.heap.size ≠ w1.heap.size + 1 := by omega); (try have hy8_1_2 : w1.heap.size + 1 + 1 < w8.heap.size := by omega); (try have hp8_1_1 : w1.heap.size < w8.heap.size + 1 := by omega); (try have hp8_1_2 : w1.heap.size < w8.heap.size + 1 + 1 := by omega); (try have hy8_2_0 : w2.heap.size < w8.heap.size := by omega); (try have hn8_2_0 : w2.heap.size ≠ w8.heap.size := by omega); (try have hm8_2_0 : w8.heap.size ≠ w2.heap.size := by omega); (try have hy8_2_1 : w2.heap.size + 1 < w8.heap.size := by omega); (try have hn8_2_1 : w2.heap.size + 1 ≠ w8.heap.size := by omega); (try have hm8_2_1 : w8.heap.size ≠ w2.heap.size + 1 := by omega); (try have hy8_2_2 : w2.heap.size + 1 + 1 < w8.heap.size := by omega); (try have hp8_2_1 : w2.heap.size < w8.heap.size + 1 := by omega); (try have hp8_2_2 : w2.heap.size < w8.heap.size + 1 + 1 := by omega); (try have hy8_3_0 : w3.heap.size < w8.heap.size := by omega); (try have hn8_3_0 : w3.heap.size ≠ w8.heap.size := by omega); (try have hm8_3_0 : w8.heap.size ≠ w3.heap.size := by omega); (try have hy8_3_1 : w3.heap.size + 1 < w8.heap.size := by omega); (try have hn8_3_1 : w3.heap.size + 1 ≠ w8.heap.size := by omega); (try have hm8_3_1 : w8.heap.size ≠ w3.heap.size + 1 := by omega); (try have hy8_3_2 : w3.heap.size + 1 + 1 < w8.heap.size := by omega); (try have hp8_3_1 : w3.heap.size < w8.heap.size + 1 := by omega); (try have hp8_3_2 : w3.heap.size < w8.heap.size + 1 + 1 := by omega); (try have hy8_4_0 : w4.heap.size < w8.heap.size := by omega); (try have hn8_4_0 : w4.heap.size ≠ w8.heap.size := by omega); (try have hm8_4_0 : w8.heap.size ≠ w4.heap.size := by omega); (try have hy8_4_1 : w4.heap.size + 1 < w8.heap.size := by omega); (try have hn8_4_1 : w4.heap.size + 1 ≠ w8.heap.size := by omega); (try have hm8_4_1 : w8.heap.size ≠ w4.heap.size + 1 := by omega); (try have hy8_4_2 : w4.heap.size + 1 + 1 < w8.heap.size := by omega); (try have hp8_4_1 : w4.heap.size < w8.heap.size + 1 := by omega); (try have hp8_4_2 : w4.heap.size < w8.heap.size + 1 + 1 := by omega); (try have hy8_5_0 : w5.heap.size < w8.heap.size := by omega); (try have hn8_5_0 : w5.heap.size ≠ w8.heap.size := by omega); (try have hm8_5_0 : w8.heap.size ≠ w5.heap.size := by omega); (try have hy8_5_1 : w5.heap.size + 1 < w8.heap.size := by omega); (try have hn8_5_1 : w5.heap.size + 1 ≠ w8.heap.size := by omega); (try have hm8_5_1 : w8.heap.size ≠ w5.heap.size + 1 := by omega); (try have hy8_5_2 : w5.heap.size + 1 + 1 < w8.heap.size := by omega); (try have hp8_5_1 : w5.heap.size < w8.heap.size + 1 := by omega); (try have hp8_5_2 : w5.heap.size < w8.heap.size + 1 + 1 := by omega); (try have hy8_6_0 : w6.heap.size < w8.heap.size := by omega); (try have hn8_6_0 : w6.heap.size ≠ w8.heap.size := by omega); (try have hm8_6_0 : w8.heap.size ≠ w6.heap.size := by omega); (try have hy8_6_1 : w6.heap.size + 1 < w8.heap.size := by omega); (try have hn8_6_1 : w6.heap.size + 1 ≠ w8.heap.size := by omega); (try have hm8_6_1 : w8.heap.size ≠ w6.heap.size + 1 := by omega); (try have hy8_6_2 : w6.heap.size + 1 + 1 < w8.heap.size := by omega); (try have hp8_6_1 : w6.heap.size < w8.heap.size + 1 := by omega); (try have hp8_6_2 : w6.heap.size < w8.heap.size + 1 + 1 := by omega); (try have hy8_7_0 : w7.heap.size < w8.heap.size := by omega); (try have hn8_7_0 : w7.heap.size ≠ w8.heap.size := by omega); (try have hm8_7_0 : w8.heap.size ≠ w7.heap.size := by omega); (try have hy8_7_1 : w7.heap.size + 1 < w8.heap.size := by omega); (try have hn8_7_1 : w7.heap.size + 1 ≠ w8.heap.size := by omega); (try have hm8_7_1 : w8.heap.size ≠ w7.heap.size + 1 := by omega); (try have hy8_7_2 : w7.heap.size + 1 + 1 < w8.heap.size := by omega); (try have hp8_7_1 : w7.heap.size < w8.heap.size + 1 := by omega); (try have hp8_7_2 : w7.heap.size < w8.heap.size + 1 + 1 := by omega); (try have hg8_g1 : g1 < w8.heap.size := by omega); (try have hi8_g1 : g1 ≠ w8.heap.size := by omega); (try have hj8_g1 : w8.heap.size ≠ g1 := by omega); (try have hk8_g1 : g1 < w8.heap.size + 1 := by omega); (try have hg8_g2 : g2 < w8.heap.size := by omega); (try have hi8_g2 : g2 ≠ w8.heap.size := by omega); (try have hj8_g2 : w8.heap.size ≠ g2 := by omega); (try have hk8_g2 : g2 < w8.heap.size + 1 := by omega))
                | (at_builtin; go_loud (refine wpList_app _ (o := ⟨some 73, _, _, _, _, _⟩) (ys := [d]) rfl _ _ rfl rfl (Ho.out.below (by (repeat' (first | (with_reducible exact Below.refl _ _) | (with_reducible assumption) | (with_reducible refine Below.drew ?_) | (with_reducible refine belowDrewN ?_ _) | (with_reducible refine Below.alloc ?_ ?_ _) | (with_reducible refine Below.setCell ?_ ?_ _) | (with_reducible refine belowStep (by assumption) ?_ ?_) | (with_reducible exact Below.size (by assumption)) | go_size)))) 1 1 (by simp) rfl (Reads.oneAt (by (first | (simp [*]; done) | (simp [go_sem, *]; done))) (by (first | (go_size; done) | ((try simp only [World.size_alloc, World.size_setCell, World.size_drew, World.heap_drewN]); omega)))) (by (try simp only [List.length_nil, List.length_cons]); omega) (by (first | (go_size; done) | ((try simp only [World.size_alloc, World.size_setCell, World.size_drew, World.heap_drewN]); omega))) ?_; intro v10 w10 ho10 hb10 hg10 ht10; obtain ⟨gl2, c2, rfl⟩ := ho10.at1 Hm.out)))
              have hg11 : World.grownBy ((w8.alloc (.cells #[.int .i64 r1, .int .i64 r2] 38)).alloc (.cells #[.int .i64 d] 3)) w10 (some gl) := hg10
              have hz10 := hg10.size
              simp only [World.size_alloc] at hz10
              have hb9 : Below w7.heap.size w7 ((w8.alloc (.cells #[.int .i64 r1, .int .i64 r2] 38)).alloc (.cells #[.int .i64 d] 3)) := by (repeat' (first | (with_reducible exact Below.refl _ _) | (with_reducible assumption) | (with_reducible refine Below.drew ?_) | (with_reducible refine belowDrewN ?_ _) | (with_reducible refine Below.alloc ?_ ?_ _) | (with_reducible refine Below.setCell ?_ ?_ _) | (with_reducible refine belowStep (by assumption) ?_ ?_) | (with_reducible exact Below.size (by assumption)) | go_size))
              have ht11 : gl2 = gl ∨ gl2 = w8.heap.size + 1 + 1 := by
                rcases ht10 with e | e
                · injection e with e; exact .inl e
                · injection e with e; exact .inr (by simpa using e)
              have hzz8 : w7.heap.size ≤ w8.heap.size := hb8.size
              have Hf10 := Lib.hid ((Hf.out.below hb9).ne hg11 (by simpa [Value.ownBlock] using fun e => hne e.symm))
              have Hs10 := Lib.hid ((Hs.out.below hb9).grown hg11 (by omega))
              have Hi10 := Lib.hid (HI2.out s gl gl2 gs _ _ (HI1.out _ _ _ _ _ Hi.out hb9) hg11 (by rcases ht11 with e | e; exact .inl e; exact .inr (by simp only [World.size_alloc]; omega)))
              have hbb : Below B0 w w10 := (Hb.out.trans (hb9.mono (by omega))).grown hg11 (by simp only [World.size_alloc]; omega) (fun g hg => by injection hg with hg; omega)
              have Hb10 := Lib.hid hbb
              have hs1 : w10.cell? ⟨w8.heap.size, 0, none⟩ = some (.int .i64 r1) := hg11.cell (by simp [World.cell?_alloc_some]) (fun e => by have e2 : w8.heap.size = gl := Option.some.inj e; omega)
              have hs2 : w10.cell? ⟨w8.heap.size, 1, none⟩ = some (.int .i64 r2) := hg11.cell (by simp [World.cell?_alloc_some]) (fun e => by have e2 : w8.heap.size = gl := Option.some.inj e; omega)
              have Ho10 := Lib.hid ho10
              have hgl2g : gl2 ≠ gs := by rcases ht11 with e | e <;> omega
              have hgl2b : w.heap.size + 1 ≤ gl2 := by rcases ht11 with e | e <;> omega
              have hz7w := hz7
              clear z1 z2 z3 z4 q1 q2 q3 q4 q5 hc8 hf8 ho10 hb10 hg10 ht10 hg11 hbb hb9
              obtain ⟨q1, q2, q3, q4, q5⟩ := Hs10.out
              obtain ⟨y1, y2, y3, y4⟩ := Hf10.out.cell2 (k := m + 1) (p := r) (by rw [Hsum.out.1]) Hrr.out
              rw [Hl1.out] at y1 y2 y3 y4
              rw [Hl1.out] at Ho10
              go_wp2
              obtain ⟨wB, hwB⟩ : ∃ wB, wB = (w10.setCell ⟨gs, K * 2, none⟩ (.int .i64 r1)).setCell ⟨gs, K * 2 + 1, none⟩ (.int .i64 r2) := ⟨_, rfl⟩
              have hgB : w10.grownBy wB (some gs) := by rw [hwB]; exact grownSet (grownSet (World.grownBy.refl _ _) rfl _ _) rfl _ _
              have hzB := hgB.size
              have HfB : Hid (OwnF wB (w.heap.size + 1) (.slice (some ⟨gs, 0, none⟩) (K + 1) (K + 1)) (zs.set K (r1, r2))) := Lib.hid (by rw [hwB]; exact Hf10.out.set2 (by rw [Hsum.out.1]) K (by rw [Hsum.out.1]; omega) r1 r2)
              have HsB := Lib.hid (Hs10.out.grown hgB hns)
              have HoB := Lib.hid (Ho10.out.ne hgB (by simpa [Value.ownBlock] using hgl2g))
              have HiB := Lib.hid (HI3.out _ _ _ _ _ Hi10.out hgB)
              have HbB : Hid (Below B0 w wB) := Lib.hid (by rw [hwB]; exact (Hb10.out.setCell (show B0 ≤ gs by omega) _).setCell (show B0 ≤ gs by omega) _)
              have hs1 : wB.cell? ⟨w8.heap.size, 0, none⟩ = some (.int .i64 r1) := hgB.cell hs1 (fun e => by have e2 : w8.heap.size = gs := Option.some.inj e; omega)
              have hs2 : wB.cell? ⟨w8.heap.size, 1, none⟩ = some (.int .i64 r2) := hgB.cell hs2 (fun e => by have e2 : w8.heap.size = gs := Option.some.inj e; omega)
              rw [← hwB]
              have hlB : w8.heap.size < wB.heap.size := by omega
              have hwsB : w.heap.size < wB.heap.size := by omega
              have hglB := (HoB.out.block gl2 rfl).2
              have hgsB := (HfB.out.block gs rfl).2
              clear q1 q2 q3 q4 q5 y1 y2 y3 y4 hwB hgB
              obtain ⟨q1, q2, q3, q4, q5⟩ := HsB.out
              have hxl : (xs ++ [d]).length = K := by rw [List.length_append, List.length_singleton, ← Hm.out]; exact Hl1.out
              have Hxl := Lib.hid hxl
              have HC := Lib.hid fun (w : World) (h : Reads w (some ⟨gl2, 0, none⟩) (xs ++ [d])) => clone_n w (some ⟨gl2, 0, none⟩) K c2 (xs ++ [d]) hxl h (by omega) (by simp)
              have HrB := Lib.hid HoB.out.reads.1
              clear hxl
              have HCD : Hid (∀ w', Below wB.heap.size wB w' → w'.cell? ⟨w.heap.size, 3, none⟩ = some (.func (.func K3) #[] cs3) ∧ w'.cell? ⟨w8.heap.size, 0, none⟩ = some (.int .i64 r1) ∧ w'.cell? ⟨w8.heap.size, 1, none⟩ = some (.int .i64 r2)) := Lib.hid fun w' h => ⟨(HsB.out.below h).2.2.2.1, (World.cell?_of_block (a := ⟨w8.heap.size, 0, none⟩) (h.block _ hlB)).trans hs1, (World.cell?_of_block (a := ⟨w8.heap.size, 1, none⟩) (h.block _ hlB)).trans hs2⟩
              go_region_held3 (fun w' => w'.cell? ⟨w.heap.size, 3, none⟩ = some (.func (.func K3) #[] cs3) ∧ w'.cell? ⟨w8.heap.size, 0, none⟩ = some (.int .i64 r1) ∧ w'.cell? ⟨w8.heap.size, 1, none⟩ = some (.int .i64 r2)) (first | exact hcd12 | exact HCD.out _ (by (repeat' (first | (with_reducible exact Below.refl _ _) | (with_reducible assumption) | (with_reducible refine Below.drew ?_) | (with_reducible refine belowDrewN ?_ _) | (with_reducible refine Below.alloc ?_ ?_ _) | (with_reducible refine Below.setCell ?_ ?_ _) | (with_reducible refine belowStep (by assumption) ?_ ?_) | (with_reducible exact Below.size (by assumption)) | go_size)))) (first
                | (go_at_call 98; refine (HC.out _ (HrB.out.below (by (repeat' (first | (with_reducible exact Below.refl _ _) | (with_reducible assumption) | (with_reducible refine Below.drew ?_) | (with_reducible refine belowDrewN ?_ _) | (with_reducible refine Below.alloc ?_ ?_ _) | (with_reducible refine Below.setCell ?_ ?_ _) | (with_reducible refine belowStep (by assumption) ?_ ?_) | (with_reducible exact Below.size (by assumption)) | go_size))))).mono ?_; rintro e w11 ⟨v11, rfl, ho11, hb11⟩; have hz11 := hb11.size; (try simp only [World.size_drew] at hz11))
                | (rw [HE3.out, Oper.upon_enter]; refine (HD.out s gl2 gs (xs ++ [d]) r1 r2 _ _ (HI1.out _ _ _ _ _ HiB.out (by (repeat' (first | (with_reducible exact Below.refl _ _) | (with_reducible assumption) | (with_reducible refine Below.drew ?_) | (with_reducible refine belowDrewN ?_ _) | (with_reducible refine Below.alloc ?_ ?_ _) | (with_reducible refine Below.setCell ?_ ?_ _) | (with_reducible refine belowStep (by assumption) ?_ ?_) | (with_reducible exact Below.size (by assumption)) | go_size)))) Hgood2.out (by simp) (by (first | (go_size; done) | ((try simp only [World.size_alloc, World.size_setCell, World.size_drew, World.heap_drewN]); omega))) ((ho11.mono (by (first | (go_size; done) | ((try simp only [World.size_alloc, World.size_setCell, World.size_drew, World.heap_drewN]); omega)))).below (by (repeat' (first | (with_reducible exact Below.refl _ _) | (with_reducible assumption) | (with_reducible refine Below.drew ?_) | (with_reducible refine belowDrewN ?_ _) | (with_reducible refine Below.alloc ?_ ?_ _) | (with_reducible refine Below.setCell ?_ ?_ _) | (with_reducible refine belowStep (by assumption) ?_ ?_) | (with_reducible exact Below.size (by assumption)) | go_size)))) (fun e => by have := (ho11.block _ e).1; (try simp only [World.size_drew] at this); omega) (fun e => by have := (ho11.block _ e).1; (try simp only [World.size_drew] at this); omega)).mono ?_; rintro e w12 ⟨rfl, hi12, hb12, hk12⟩; have hh1 : ∀ b, w.heap.size ≤ b → b < wB.heap.size → w12.heap[b]? = wB.heap[b]? := (fun b h1 h2 => (hk12 b h1 (Nat.lt_of_lt_of_le h2 (by (first | (go_size; done) | ((try simp only [World.size_alloc, World.size_setCell, World.size_drew, World.heap_drewN]); omega))))).trans ((show Below wB.heap.size wB _ by (repeat' (first | (with_reducible exact Below.refl _ _) | (with_reducible assumption) | (with_reducible refine Below.drew ?_) | (with_reducible refine belowDrewN ?_ _) | (with_reducible refine Below.alloc ?_ ?_ _) | (with_reducible refine Below.setCell ?_ ?_ _) | (with_reducible refine belowStep (by assumption) ?_ ?_) | (with_reducible exact Below.size (by assumption)) | go_size))).block b h2)); have hcd12 := And.intro ((World.cell?_of_block (w' := w12) (a := ⟨w.heap.size, 3, none⟩) (hh1 w.heap.size (Nat.le_refl _) hwsB)).trans q4) (And.intro ((World.cell?_of_block (w' := w12) (a := ⟨w8.heap.size, 0, none⟩) (hh1 w8.heap.size (by omega) hlB)).trans hs1) ((World.cell?_of_block (w' := w12) (a := ⟨w8.heap.size, 1, none⟩) (hh1 w8.heap.size (by omega) hlB)).trans hs2))))
              all_goals
                have hz12 := hb12.size
                have hh2 : wB.heap.size ≤ w12.heap.size := by (first | (go_size; done) | ((try simp only [World.size_alloc, World.size_setCell, World.size_drew, World.heap_drewN]); omega))
                have hh3 : Below B0 w w12 := (HbB.out.trans ((show Below wB.heap.size wB _ by (repeat' (first | (with_reducible exact Below.refl _ _) | (with_reducible assumption) | (with_reducible refine Below.drew ?_) | (with_reducible refine belowDrewN ?_ _) | (with_reducible refine Below.alloc ?_ ?_ _) | (with_reducible refine Below.setCell ?_ ?_ _) | (with_reducible refine belowStep (by assumption) ?_ ?_) | (with_reducible exact Below.size (by assumption)) | go_size))).mono (by omega))).trans hb12
                go_wp2
                go_roundg f
                case measure => omega
                case rel => exact ⟨xs ++ [d], K, d, S.fo s (xs ++ [d]) (r1, r2), gl2, c2, _, rfl, rfl, hgl2g, hgl2b, Hxl.out.symm, Nat.le_refl _, (by have := HE2'.out; rw [Hpre2.out] at this; exact this), Hsm2.out, Hin2.out, ((HoB.out.same hh2 (fun b h1 h2 => hh1 b (by omega) h2)).below (by (repeat' (first | (with_reducible exact Below.refl _ _) | (with_reducible assumption) | (with_reducible refine Below.drew ?_) | (with_reducible refine belowDrewN ?_ _) | (with_reducible refine Below.alloc ?_ ?_ _) | (with_reducible refine Below.setCell ?_ ?_ _) | (with_reducible refine belowStep (by assumption) ?_ ?_) | (with_reducible exact Below.size (by assumption)) | go_size)))), (HfB.out.same hh2 (fun b h1 h2 => hh1 b (by omega) h2)).below (by (repeat' (first | (with_reducible exact Below.refl _ _) | (with_reducible assumption) | (with_reducible refine Below.drew ?_) | (with_reducible refine belowDrewN ?_ _) | (with_reducible refine Below.alloc ?_ ?_ _) | (with_reducible refine Below.setCell ?_ ?_ _) | (with_reducible refine belowStep (by assumption) ?_ ?_) | (with_reducible exact Below.size (by assumption)) | go_size))), (by have := Hsum.out.push (d := d) (by rw [← Hm.out]; omega); rw [Hpre2.out, ← Hm.out, Hl1.out] at this; exact this), (HsB.out.same (hh1 _ (Nat.le_refl _) hwsB) hh2).below (by (repeat' (first | (with_reducible exact Below.refl _ _) | (with_reducible assumption) | (with_reducible refine Below.drew ?_) | (with_reducible refine belowDrewN ?_ _) | (with_reducible refine Below.alloc ?_ ?_ _) | (with_reducible refine Below.setCell ?_ ?_ _) | (with_reducible refine belowStep (by assumption) ?_ ?_) | (with_reducible exact Below.size (by assumption)) | go_size))), HI1.out _ _ _ _ _ hi12 (by (repeat' (first | (with_reducible exact Below.refl _ _) | (with_reducible assumption) | (with_reducible refine Below.drew ?_) | (with_reducible refine belowDrewN ?_ _) | (with_reducible refine Below.alloc ?_ ?_ _) | (with_reducible refine Below.setCell ?_ ?_ _) | (with_reducible refine belowStep (by assumption) ?_ ?_) | (with_reducible exact Below.size (by assumption)) | go_size))), hh3.trans ((show Below w12.heap.size w12 _ by (repeat' (first | (with_reducible exact Below.refl _ _) | (with_reducible assumption) | (with_reducible refine Below.drew ?_) | (with_reducible refine belowDrewN ?_ _) | (with_reducible refine Below.alloc ?_ ?_ _) | (with_reducible refine Below.setCell ?_ ?_ _) | (with_reducible refine belowStep (by assumption) ?_ ?_) | (with_reducible exact Below.size (by assumption)) | go_size))).mono (by omega)), by (first | (go_size; done) | ((try simp only [World.size_alloc, World.size_setCell, World.size_drew, World.heap_drewN]); omega))⟩
          | more f xs d s _ hl hck hwo hsm2 hd1 hd2 hcf2 hE2 =>
            rw [HK.out, ← hm] at hck hwo
            rw [HK.out, ← hm] at hE2
            rw [HK.out, ← hm] at hl
            have hlast : zs[m]? = some (preS xs) := by rw [hm]; exact Hsum.out.last
            obtain ⟨-, hred, hpre⟩ := pre_snoc hsm2
            have hk2 : ((m : Int) + 1 == (K : Int)) = false := by simp; omega
            have hk3 : decide ((m : Int) + 1 = (K : Int)) = false := by simp; omega
            have hk4 : ¬ (m : Int) + 1 = (K : Int) := by omega
            have hwk3 : IntKind.i64.wrap ((K : Int) - ((m : Int) + 1)) = ((K - m - 1 : Nat) : Int) := by rw [show (K : Int) - ((m : Int) + 1) = ((K - m - 1 : Nat) : Int) by omega]; exact IntWalk.i64_in _ (by omega)
            obtain ⟨mq, hmq⟩ : ∃ mq, mq = K - m - 1 := ⟨_, rfl⟩
            rw [← hmq] at hwk3 hE2
            have hmq4 : mq ≤ 4 := by omega
            have hl1 : m + 1 < K := hl
            have hl : m < K := by omega
            have Hpre := Lib.hid hpre
            have Hred := Lib.hid hred
            have Hsm2 := Lib.hid hsm2
            have Hcf2 := Lib.hid hcf2
            clear hpre hred hsm2 hmq hcf2
            have hgood := pre_good hsm Hin.out
            obtain ⟨⟨p1, p2⟩, hp⟩ : ∃ p, p = preS xs := ⟨_, rfl⟩
            rw [← hp] at hck hwo hlast hgood
            have Hp := Lib.hid hp
            have hck2 : S.ck s d (p1, p2) (K - m) = true := hck
            have hmn : ¬ (m : Int) = (K : Int) := by omega
            have hmn2 : ((m : Int) == (K : Int)) = false := by simp; omega
            have hmi : (m : Int) < (K : Int) + 1 := by omega
            have hm0 : ¬ (m : Int) < 0 := by omega
            have hwk : IntKind.i64.wrap ((K : Int) - (m : Int)) = ((K - m : Nat) : Int) := by rw [show (K : Int) - (m : Int) = ((K - m : Nat) : Int) by omega]; exact IntWalk.i64_in _ (by omega)
            obtain ⟨z1, z2, z3, z4⟩ := Hf.out.cell2 (p := (p1, p2)) (k := m) (by rw [Hsum.out.1]) hlast
            have HWc : Hid (∀ w1, I s gl gs w1 → Calls Try.prog K2 (#[.int .i64 d, .agg #[.int .i64 p1, .int .i64 p2], .int .i64 ((K - m : Nat) : Int)] ++ cs2) w1 (Ret (.bool true) w1)) := Lib.hid fun w1 h => by
              have := HW.out s gl gs d p1 p2 (K - m) w1 h hgood hck2 (by omega)
              rwa [hwo] at this
            obtain ⟨mo, hmo⟩ : ∃ mo, mo = K - m := ⟨_, rfl⟩
            rw [← hmo] at hwk HWc
            have Hm := Lib.hid hm
            have Hsm := Lib.hid hsm
            have Hgood := Lib.hid hgood
            have HE2' := Lib.hid hE2
            have Hlast := Lib.hid hlast
            clear hmo hm hsm hck hck2 hwo hgood hE2 hp hlast
            go_upto_region 4 with fail
            go_cut [45] (fun s45 wx => s45 = .bool false ∧ Below wr.heap.size wr wx)
            case first =>
              go_still_tail 19, (by kernel_rfl)
              change wpList _ _ _ _ _ wr.drew
              go_wp2_with fail
              rw [HE2.out, Oper.upon_enter]
              refine (HWc.out _ (HI1.out _ _ _ _ _ Hi.out (by (repeat' (first | (with_reducible exact Below.refl _ _) | (with_reducible assumption) | (with_reducible refine Below.drew ?_) | (with_reducible refine belowDrewN ?_ _) | (with_reducible refine Below.alloc ?_ ?_ _) | (with_reducible refine Below.setCell ?_ ?_ _) | (with_reducible refine belowStep (by assumption) ?_ ?_) | (with_reducible exact Below.size (by assumption)) | go_size))))).mono ?_; rintro e w6 ⟨rfl, hb6⟩
              go_wp2_with fail
              go_meet
              exact ⟨rfl, by (repeat' (first | (with_reducible exact Below.refl _ _) | (with_reducible assumption) | (with_reducible refine Below.drew ?_) | (with_reducible refine belowDrewN ?_ _) | (with_reducible refine Below.alloc ?_ ?_ _) | (with_reducible refine Below.setCell ?_ ?_ _) | (with_reducible refine belowStep (by assumption) ?_ ?_) | (with_reducible exact Below.size (by assumption)) | go_size))⟩
            case rest =>
              obtain ⟨w7, rfl⟩ : ∃ w7 : World, w7 = wc := ⟨_, rfl⟩
              obtain ⟨rfl, hb7⟩ := hcut
              have hz7 := hb7.size
              have Ho := Lib.hid (Ho.out.below hb7)
              have Hf := Lib.hid (Hf.out.below hb7)
              have Hs := Lib.hid (Hs.out.below hb7)
              have Hi := Lib.hid (HI1.out _ _ _ _ _ Hi.out hb7)
              have Hb := Lib.hid (Hb.out.trans (hb7.mono (by omega)))
              clear z1 z2 z3 z4 q1 q2 q3 q4 q5 hb7 hmn hmn2 HWc
              obtain ⟨q1, q2, q3, q4, q5⟩ := Hs.out
              clear q1 q2 q3 q4 q5
              obtain ⟨q1, q2, q3, q4, q5⟩ := Hs.out
              obtain ⟨z1, z2, z3, z4⟩ := Hf.out.cell2 (p := (p1, p2)) (k := m) (by rw [Hsum.out.1]) Hlast.out
              obtain ⟨r, hr⟩ : ∃ r, zs[m + 1]? = some r := ⟨_, List.getElem?_eq_getElem (by rw [Hsum.out.1]; omega)⟩
              have HAd := Lib.hid fun (w : World) => add_yes p1 p2 1 d w Hgood.out (good_unit hd1 (by omega))
              rw [Int.one_mul] at HAd
              rw [← Hp.out] at Hpre
              rw [← Hp.out] at Hred
              rw [Hred.out] at HAd
              have Hpre := Hpre
              obtain ⟨r1, hr1⟩ : ∃ r1, r1 = redN (p1 * d + p2) (p2 * d) := ⟨_, rfl⟩
              obtain ⟨r2, hr2⟩ : ∃ r2, r2 = redD (p1 * d + p2) (p2 * d) := ⟨_, rfl⟩
              have Hpre2 : Hid (preS (xs ++ [d]) = (r1, r2)) := Lib.hid (by rw [hr1, hr2]; exact Hpre.out)
              have HAd2 : Hid (∀ w, Calls Try.prog 52 #[.agg #[.int .i64 p1, .int .i64 p2], .agg #[.int .i64 1, .int .i64 d]] w (Ret (.tuple #[.agg #[.int .i64 r1, .int .i64 r2], .bool true]) w)) := Lib.hid (by rw [hr1, hr2]; exact HAd.out)
              have Hrr := Lib.hid hr
              have Hin2 : Hid (∀ x ∈ xs ++ [d], 1 ≤ x ∧ x ≤ 1000000) := Lib.hid (fun x hx => by
                rcases List.mem_append.1 hx with h | h
                · exact Hin.out x h
                · rw [List.mem_singleton.1 h]; exact ⟨hd1, hd2⟩)
              have hgood2 := pre_good Hsm2.out Hin2.out
              rw [Hpre2.out] at hgood2
              have Hgood2 := Lib.hid hgood2
              have hmi2 : ((m + 1 : Nat) : Int) < (K : Int) + 1 := by omega
              have hmi3 : (m : Int) + 1 < (K : Int) + 1 := by omega
              have hm02 : ¬ (m : Int) + 1 < 0 := by omega
              have hlm : xs.length ≤ 4 := by have := Hm.out; omega
              have hwb : w.heap.size + 1 ≤ w7.heap.size := by omega
              have hgl7 := (Ho.out.block gl rfl).2
              have hgs7 := (Hf.out.block gs rfl).2
              clear hr hr1 hr2 HAd hgood2 Hred
              go_upto_region 10 with (first
                | (go_at_call 52; refine (HAd2.out _).mono ?_; rintro e w8 ⟨rfl, hb8⟩; obtain ⟨hc8, hf8⟩ := bcellB hb8; have hz8 := hb8.size; (try simp only [World.size_alloc, World.size_setCell, World.size_drew, World.heap_drewN] at hc8 hf8 hz8); (try have hy8_r_0 : wr.heap.size < w8.heap.size := by omega); (try have hn8_r_0 : wr.heap.size ≠ w8.heap.size := by omega); (try have hm8_r_0 : w8.heap.size ≠ wr.heap.size := by omega); (try have hy8_r_1 : wr.heap.size + 1 < w8.heap.size := by omega); (try have hn8_r_1 : wr.heap.size + 1 ≠ w8.heap.size := by omega); (try have hm8_r_1 : w8.heap.size ≠ wr.heap.size + 1 := by omega); (try have hy8_r_2 : wr.heap.size + 1 + 1 < w8.heap.size := by omega); (try have hp8_r_1 : wr.heap.size < w8.heap.size + 1 := by omega); (try have hp8_r_2 : wr.heap.size < w8.heap.size + 1 + 1 := by omega); (try have hy8_0_0 : w.heap.size < w8.heap.size := by omega); (try have hn8_0_0 : w.heap.size ≠ w8.heap.size := by omega); (try have hm8_0_0 : w8.heap.size ≠ w.heap.size := by omega); (try have hy8_0_1 : w.heap.size + 1 < w8.heap.size := by omega); (try have hn8_0_1 : w.heap.size + 1 ≠ w8.heap.size := by omega); (try have hm8_0_1 : w8.heap.size ≠ w.heap.size + 1 := by omega); (try have hy8_0_2 : w.heap.size + 1 + 1 < w8.heap.size := by omega); (try have hp8_0_1 : w.heap.size < w8.heap.size + 1 := by omega); (try have hp8_0_2 : w.heap.size < w8.heap.size + 1 + 1 := by omega); (try have hy8_1_0 : w1.heap.size < w8.heap.size := by omega); (try have hn8_1_0 : w1.heap.size ≠ w8.heap.size := by omega); (try have hm8_1_0 : w8.heap.size ≠ w1.heap.size := by omega); (try have hy8_1_1 : w1.heap.size + 1 < w8.heap.size := by omega); (try have hn8_1_1 : w1.heap.size + 1 ≠ w8.heap.size := by omega); (try have hm8_1_1 : w8.heap.size ≠ w1.heap.size + 1 := by omega); (try have hy8_1_2 : w1.heap.size + 1 + 1 < w8.heap.size := by omega); (try have hp8_1_1 : w1.heap.size < w8.heap.size + 1 := by omega); (try have hp8_1_2 : w1.heap.size < w8.heap.size + 1 + 1 := by omega); (try have hy8_2_0 : w2.heap.size < w8.heap.size := by omega); (try have hn8_2_0 : w2.heap.size ≠ w8.heap.size := by omega); (try have hm8_2_0 : w8.heap.size ≠ w2.heap.size := by omega); (try have hy8_2_1 : w2.heap.size + 1 < w8.heap.size := by omega); (try have hn8_2_1 : w2.heap.size + 1 ≠ w8.heap.size := by omega); (try have hm8_2_1 : w8.heap.size ≠ w2.heap.size + 1 := by omega); (try have hy8_2_2 : w2.heap.size + 1 + 1 < w8.heap.size := by omega); (try have hp8_2_1 : w2.heap.size < w8.heap.size + 1 := by omega); (try have hp8_2_2 : w2.heap.size < w8.heap.size + 1 + 1 := by omega); (try have hy8_3_0 : w3.heap.size < w8.heap.size := by omega); (try have hn8_3_0 : w3.heap.size ≠ w8.heap.size := by omega); (try have hm8_3_0 : w8.heap.size ≠ w3.heap.size := by omega); (try have hy8_3_1 : w3.heap.size + 1 < w8.heap.size := by omega); (try have hn8_3_1 : w3.heap.size + 1 ≠ w8.heap.size := by omega); (try have hm8_3_1 : w8.heap.size ≠ w3.heap.size + 1 := by omega); (try have hy8_3_2 : w3.heap.size + 1 + 1 < w8.heap.size := by omega); (try have hp8_3_1 : w3.heap.size < w8.heap.size + 1 := by omega); (try have hp8_3_2 : w3.heap.size < w8.heap.size + 1 + 1 := by omega); (try have hy8_4_0 : w4.heap.size < w8.heap.size := by omega); (try have hn8_4_0 : w4.heap.size ≠ w8.heap.size := by omega); (try have hm8_4_0 : w8.heap.size ≠ w4.heap.size := by omega); (try have hy8_4_1 : w4.heap.size + 1 < w8.heap.size := by omega); (try have hn8_4_1 : w4.heap.size + 1 ≠ w8.heap.size := by omega); (try have hm8_4_1 : w8.heap.size ≠ w4.heap.size + 1 := by omega); (try have hy8_4_2 : w4.heap.size + 1 + 1 < w8.heap.size := by omega); (try have hp8_4_1 : w4.heap.size < w8.heap.size + 1 := by omega); (try have hp8_4_2 : w4.heap.size < w8.heap.size + 1 + 1 := by omega); (try have hy8_5_0 : w5.heap.size < w8.heap.size := by omega); (try have hn8_5_0 : w5.heap.size ≠ w8.heap.size := by omega); (try have hm8_5_0 : w8.heap.size ≠ w5.heap.size := by omega); (try have hy8_5_1 : w5.heap.size + 1 < w8.heap.size := by omega); (try have hn8_5_1 : w5.heap.size + 1 ≠ w8.heap.size := by omega); (try have hm8_5_1 : w8.heap.size ≠ w5.heap.size + 1 := by omega); (try have hy8_5_2 : w5.heap.size + 1 + 1 < w8.heap.size := by omega); (try have hp8_5_1 : w5.heap.size < w8.heap.size + 1 := by omega); (try have hp8_5_2 : w5.heap.size < w8.heap.size + 1 + 1 := by omega); (try have hy8_6_0 : w6.heap.size < w8.heap.size := by omega); (try have hn8_6_0 : w6.heap.size ≠ w8.heap.size := by omega); (try have hm8_6_0 : w8.heap.size ≠ w6.heap.size := by omega); (try have hy8_6_1 : w6.heap.size + 1 < w8.heap.size := by omega); (try have hn8_6_1 : w6.heap.size + 1 ≠ w8.heap.size := by omega); (try have hm8_6_1 : w8.heap.size ≠ w6.heap.size + 1 := by omega); (try have hy8_6_2 : w6.heap.size + 1 + 1 < w8.heap.size := by omega); (try have hp8_6_1 : w6.heap.size < w8.heap.size + 1 := by omega); (try have hp8_6_2 : w6.heap.size < w8.heap.size + 1 + 1 := by omega); (try have hy8_7_0 : w7.heap.size < w8.heap.size := by omega); (try have hn8_7_0 : w7.heap.size ≠ w8.heap.size := by omega); (try have hm8_7_0 : w8.heap.size ≠ w7.heap.size := by omega); (try have hy8_7_1 : w7.heap.size + 1 < w8.heap.size := by omega); (try have hn8_7_1 : w7.heap.size + 1 ≠ w8.heap.size := by omega); (try have hm8_7_1 : w8.heap.size ≠ w7.heap.size + 1 := by omega); (try have hy8_7_2 : w7.heap.size + 1 + 1 < w8.heap.size := by omega); (try have hp8_7_1 : w7.heap.size < w8.heap.size + 1 := by omega); (try have hp8_7_2 : w7.heap.size < w8.heap.size + 1 + 1 := by omega); (try have hg8_g1 : g1 < w8.heap.size := by omega); (try have hi8_g1 : g1 ≠ w8.heap.size := by omega); (try have hj8_g1 : w8.heap.size ≠ g1 := by omega); (try have hk8_g1 : g1 < w8.heap.size + 1 := by omega); (try have hg8_g2 : g2 < w8.heap.size := by omega); (try have hi8_g2 : g2 ≠ w8.heap.size := by omega); (try have hj8_g2 : w8.heap.size ≠ g2 := by omega); (try have hk8_g2 : g2 < w8.heap.size + 1 := by omega))
                | (at_builtin; go_loud (refine wpList_app _ (o := ⟨some 73, _, _, _, _, _⟩) (ys := [d]) rfl _ _ rfl rfl (Ho.out.below (by (repeat' (first | (with_reducible exact Below.refl _ _) | (with_reducible assumption) | (with_reducible refine Below.drew ?_) | (with_reducible refine belowDrewN ?_ _) | (with_reducible refine Below.alloc ?_ ?_ _) | (with_reducible refine Below.setCell ?_ ?_ _) | (with_reducible refine belowStep (by assumption) ?_ ?_) | (with_reducible exact Below.size (by assumption)) | go_size)))) 1 1 (by simp) rfl (Reads.oneAt (by (first | (simp [*]; done) | (simp [go_sem, *]; done))) (by (first | (go_size; done) | ((try simp only [World.size_alloc, World.size_setCell, World.size_drew, World.heap_drewN]); omega)))) (by (try simp only [List.length_nil, List.length_cons]); omega) (by (first | (go_size; done) | ((try simp only [World.size_alloc, World.size_setCell, World.size_drew, World.heap_drewN]); omega))) ?_; intro v10 w10 ho10 hb10 hg10 ht10; obtain ⟨gl2, c2, rfl⟩ := ho10.at1 Hm.out)))
              have hg11 : World.grownBy ((w8.alloc (.cells #[.int .i64 r1, .int .i64 r2] 38)).alloc (.cells #[.int .i64 d] 3)) w10 (some gl) := hg10
              have hz10 := hg10.size
              simp only [World.size_alloc] at hz10
              have hb9 : Below w7.heap.size w7 ((w8.alloc (.cells #[.int .i64 r1, .int .i64 r2] 38)).alloc (.cells #[.int .i64 d] 3)) := by (repeat' (first | (with_reducible exact Below.refl _ _) | (with_reducible assumption) | (with_reducible refine Below.drew ?_) | (with_reducible refine belowDrewN ?_ _) | (with_reducible refine Below.alloc ?_ ?_ _) | (with_reducible refine Below.setCell ?_ ?_ _) | (with_reducible refine belowStep (by assumption) ?_ ?_) | (with_reducible exact Below.size (by assumption)) | go_size))
              have ht11 : gl2 = gl ∨ gl2 = w8.heap.size + 1 + 1 := by
                rcases ht10 with e | e
                · injection e with e; exact .inl e
                · injection e with e; exact .inr (by simpa using e)
              have hzz8 : w7.heap.size ≤ w8.heap.size := hb8.size
              have Hf10 := Lib.hid ((Hf.out.below hb9).ne hg11 (by simpa [Value.ownBlock] using fun e => hne e.symm))
              have Hs10 := Lib.hid ((Hs.out.below hb9).grown hg11 (by omega))
              have Hi10 := Lib.hid (HI2.out s gl gl2 gs _ _ (HI1.out _ _ _ _ _ Hi.out hb9) hg11 (by rcases ht11 with e | e; exact .inl e; exact .inr (by simp only [World.size_alloc]; omega)))
              have hbb : Below B0 w w10 := (Hb.out.trans (hb9.mono (by omega))).grown hg11 (by simp only [World.size_alloc]; omega) (fun g hg => by injection hg with hg; omega)
              have Hb10 := Lib.hid hbb
              have hs1 : w10.cell? ⟨w8.heap.size, 0, none⟩ = some (.int .i64 r1) := hg11.cell (by simp [World.cell?_alloc_some]) (fun e => by have e2 : w8.heap.size = gl := Option.some.inj e; omega)
              have hs2 : w10.cell? ⟨w8.heap.size, 1, none⟩ = some (.int .i64 r2) := hg11.cell (by simp [World.cell?_alloc_some]) (fun e => by have e2 : w8.heap.size = gl := Option.some.inj e; omega)
              have Ho10 := Lib.hid ho10
              have hgl2g : gl2 ≠ gs := by rcases ht11 with e | e <;> omega
              have hgl2b : w.heap.size + 1 ≤ gl2 := by rcases ht11 with e | e <;> omega
              have hz7w := hz7
              clear z1 z2 z3 z4 q1 q2 q3 q4 q5 hc8 hf8 ho10 hb10 hg10 ht10 hg11 hbb hb9
              obtain ⟨q1, q2, q3, q4, q5⟩ := Hs10.out
              obtain ⟨y1, y2, y3, y4⟩ := Hf10.out.cell2 (k := m + 1) (p := r) (by rw [Hsum.out.1]) Hrr.out
              go_wp2
              obtain ⟨wB, hwB⟩ : ∃ wB, wB = (w10.setCell ⟨gs, (m + 1) * 2, none⟩ (.int .i64 r1)).setCell ⟨gs, (m + 1) * 2 + 1, none⟩ (.int .i64 r2) := ⟨_, rfl⟩
              have hgB : w10.grownBy wB (some gs) := by rw [hwB]; exact grownSet (grownSet (World.grownBy.refl _ _) rfl _ _) rfl _ _
              have hzB := hgB.size
              have HfB : Hid (OwnF wB (w.heap.size + 1) (.slice (some ⟨gs, 0, none⟩) (K + 1) (K + 1)) (zs.set (m + 1) (r1, r2))) := Lib.hid (by rw [hwB]; exact Hf10.out.set2 (by rw [Hsum.out.1]) (m + 1) (by rw [Hsum.out.1]; omega) r1 r2)
              have HsB := Lib.hid (Hs10.out.grown hgB hns)
              have HoB := Lib.hid (Ho10.out.ne hgB (by simpa [Value.ownBlock] using hgl2g))
              have HiB := Lib.hid (HI3.out _ _ _ _ _ Hi10.out hgB)
              have HbB : Hid (Below B0 w wB) := Lib.hid (by rw [hwB]; exact (Hb10.out.setCell (show B0 ≤ gs by omega) _).setCell (show B0 ≤ gs by omega) _)
              have hs1 : wB.cell? ⟨w8.heap.size, 0, none⟩ = some (.int .i64 r1) := hgB.cell hs1 (fun e => by have e2 : w8.heap.size = gs := Option.some.inj e; omega)
              have hs2 : wB.cell? ⟨w8.heap.size, 1, none⟩ = some (.int .i64 r2) := hgB.cell hs2 (fun e => by have e2 : w8.heap.size = gs := Option.some.inj e; omega)
              rw [← hwB]
              have hlB : w8.heap.size < wB.heap.size := by omega
              have hwsB : w.heap.size < wB.heap.size := by omega
              have hglB := (HoB.out.block gl2 rfl).2
              have hgsB := (HfB.out.block gs rfl).2
              clear q1 q2 q3 q4 q5 y1 y2 y3 y4 hwB hgB
              obtain ⟨q1, q2, q3, q4, q5⟩ := HsB.out
              have hcf3 := Hcf2.out
              rw [Hpre2.out] at hcf3
              have Hcf3 := Lib.hid hcf3
              have HE3' := HE2'.out
              rw [Hpre2.out] at HE3'
              have HE3' := Lib.hid HE3'
              clear hcf3
              go_wp2_with fail
              rw [HE1.out, Oper.upon_enter]
              refine (HF.out s gl2 gs d r1 r2 mq _ (HI1.out _ _ _ _ _ HiB.out (by (repeat' (first | (with_reducible exact Below.refl _ _) | (with_reducible assumption) | (with_reducible refine Below.drew ?_) | (with_reducible refine belowDrewN ?_ _) | (with_reducible refine Below.alloc ?_ ?_ _) | (with_reducible refine Below.setCell ?_ ?_ _) | (with_reducible refine belowStep (by assumption) ?_ ?_) | (with_reducible exact Below.size (by assumption)) | go_size)))) Hgood2.out Hcf3.out (by omega) (by omega) hmq4).mono ?_; rintro e w12 ⟨rfl, hb12⟩
              have hz12 := hb12.size
              go_wp2
              go_roundg f
              case measure => omega
              case rel => exact ⟨xs ++ [d], m + 1, _, s, gl2, c2, _, rfl, rfl, hgl2g, hgl2b, by rw [List.length_append, List.length_singleton, ← Hm.out], by omega, HE3'.out, Hsm2.out, Hin2.out, HoB.out.below (by (repeat' (first | (with_reducible exact Below.refl _ _) | (with_reducible assumption) | (with_reducible refine Below.drew ?_) | (with_reducible refine belowDrewN ?_ _) | (with_reducible refine Below.alloc ?_ ?_ _) | (with_reducible refine Below.setCell ?_ ?_ _) | (with_reducible refine belowStep (by assumption) ?_ ?_) | (with_reducible exact Below.size (by assumption)) | go_size))), HfB.out.below (by (repeat' (first | (with_reducible exact Below.refl _ _) | (with_reducible assumption) | (with_reducible refine Below.drew ?_) | (with_reducible refine belowDrewN ?_ _) | (with_reducible refine Below.alloc ?_ ?_ _) | (with_reducible refine Below.setCell ?_ ?_ _) | (with_reducible refine belowStep (by assumption) ?_ ?_) | (with_reducible exact Below.size (by assumption)) | go_size))), (by have := Hsum.out.push (d := d) (by rw [← Hm.out]; omega); rw [Hpre2.out, ← Hm.out] at this; exact this), HsB.out.below (by (repeat' (first | (with_reducible exact Below.refl _ _) | (with_reducible assumption) | (with_reducible refine Below.drew ?_) | (with_reducible refine belowDrewN ?_ _) | (with_reducible refine Below.alloc ?_ ?_ _) | (with_reducible refine Below.setCell ?_ ?_ _) | (with_reducible refine belowStep (by assumption) ?_ ?_) | (with_reducible exact Below.size (by assumption)) | go_size))), HI1.out _ _ _ _ _ HiB.out (by (repeat' (first | (with_reducible exact Below.refl _ _) | (with_reducible assumption) | (with_reducible refine Below.drew ?_) | (with_reducible refine belowDrewN ?_ _) | (with_reducible refine Below.alloc ?_ ?_ _) | (with_reducible refine Below.setCell ?_ ?_ _) | (with_reducible refine belowStep (by assumption) ?_ ?_) | (with_reducible exact Below.size (by assumption)) | go_size))), HbB.out.trans ((show Below wB.heap.size wB _ by (repeat' (first | (with_reducible exact Below.refl _ _) | (with_reducible assumption) | (with_reducible refine Below.drew ?_) | (with_reducible refine belowDrewN ?_ _) | (with_reducible refine Below.alloc ?_ ?_ _) | (with_reducible refine Below.setCell ?_ ?_ _) | (with_reducible refine belowStep (by assumption) ?_ ?_) | (with_reducible exact Below.size (by assumption)) | go_size))).mono (by omega)), by (first | (go_size; done) | ((try simp only [World.size_alloc, World.size_setCell, World.size_drew, World.heap_drewN]); omega))⟩
end Go.Proofs.Ytleookfdngnphaa
