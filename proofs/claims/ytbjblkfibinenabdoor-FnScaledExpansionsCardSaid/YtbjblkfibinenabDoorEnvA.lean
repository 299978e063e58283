
/-
  What the list of variables and the world's shape give the walks that read numbers.
-/
import Derived.Test.YtbjblkfibinenabDoorEnv
import Derived.Lib.AtoiAllCases
namespace Go.Proofs.YtbjblkfibinenabDoor
open Go.RowKit
def EnvA (w : World) : Prop := EnvI w ∧ (∃ m, w.cell? ⟨0, 0, none⟩ = some (.int .i64 m)) ∧
  (2 < w.heap.size ∧ ∃ tp p, w.var? Tryd.prog "strconv.ErrRange" = some #[.iface tp p]) ∧ (1 < w.heap.size ∧ ∃ tp p, w.var? Tryd.prog "strconv.ErrSyntax" = some #[.iface tp p])
theorem gER : Tryd.prog.globalNamed "strconv.ErrRange" = some 2 := by kernel_rfl
theorem gES : Tryd.prog.globalNamed "strconv.ErrSyntax" = some 1 := by kernel_rfl
theorem starES : "*" ++ "errors.errorString" = "*errors.errorString" := by decide
theorem rowES (u : TypeId) (h : Tryd.prog.typeName? 3 u = some "*errors.errorString") : u = 138 :=
  typeName_ptr_named (nm := "errors.errorString") (by rw [starES]; kernel_rfl) (by kernel_rfl) (by decide) u (by rw [starES]; exact h)
theorem EnvA.below {w w' : World} (h : EnvA w) (hb : Below w.heap.size w w') : EnvA w' := by
  obtain ⟨h1, ⟨m, hm⟩, ⟨hr0, tr, pr, hr⟩, hs0, ts, ps, hs⟩ := h
  have hz := hb.size
  have hml := Lib.lt_of_cell hm
  exact ⟨h1.below hb, ⟨m, (hb.cell (p := ⟨0, 0, none⟩) hml).trans hm⟩, ⟨by omega, tr, pr, var?_below hb gER hr0 hr⟩, by omega, ts, ps, var?_below hb gES hs0 hs⟩
theorem var_lt {w : World} {n : String} {g : Nat} {v : Value} (hg : Tryd.prog.globalNamed n = some g) (h : w.var? Tryd.prog n = some #[v]) : g < w.heap.size := by
  have := World.var?_cell hg h 0
  exact Lib.lt_of_cell (v := v) (by simpa using this)
theorem EnvA.of_laid {W : World} {r1 r2 r3 : List (String × DataW Unit)} (hsh : W.ShapedOpen Tryd.prog)
    (h1 : laidMet Tryd.prog (("internal/strconv.uint64pow10", Rows.laid_internal_strconv_uint64pow10) :: r1) W)
    (h2 : laidMet Tryd.prog (("strconv.ErrRange", Rows.laid_strconv_ErrRange) :: r2) W)
    (h3 : laidMet Tryd.prog (("strconv.ErrSyntax", Rows.laid_strconv_ErrSyntax) :: r3) W) : EnvA W := by
  obtain ⟨a2, s2, hv2, -, -, -⟩ := laid_sentinel h2 gER (by kernel_rfl) Tryd.underlying86 rowES Tryd.underlying138 Tryd.underlying140 rfl rfl Tryd.underlying9 (by kernel_rfl) (by kernel_rfl)
  obtain ⟨a3, s3, hv3, -, -, -⟩ := laid_sentinel h3 gES (by kernel_rfl) Tryd.underlying86 rowES Tryd.underlying138 Tryd.underlying140 rfl rfl Tryd.underlying9 (by kernel_rfl) (by kernel_rfl)
  exact ⟨EnvI.of_laid h1, Tryd.laysM145.s1_3 W hsh, ⟨var_lt gER hv2, _, _, hv2⟩, var_lt gES hv3, _, _, hv3⟩
end Go.Proofs.YtbjblkfibinenabDoor
