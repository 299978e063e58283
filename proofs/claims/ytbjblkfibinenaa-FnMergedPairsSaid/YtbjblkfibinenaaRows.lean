/-
  No cell of these rows narrows 'for every input' (looked for: loops, veiled, ifaces, maps, wideKeys, modest, calm, conditions, laid).
  DERIVED. THE GIVEN ROWS OF THIS SEAT. 12 by the template 'for every input the law returns true; each argument reads behind the call as it read before'; 0 by the template 'total and deterministic' (their statements: YtbjblkfibinenaaTotals.lean).
  GIVEN WITH THE SEED: the statements are not yours to turn. If you find one false, say at which input.
  Laid BY PROGRAM, IN A SANDBOX (cutbox-rows.mjs): the forced cells as the released guide's own fill.sh prints them over the translation df3720c9edc2eb10… (all of the seat's roots in one cut). By AI agents, Wed Nov 11 2026. No macro, syntax, notation, axiom, sorry.
-/
import Derived.Test.YtbjblkfibinenaaChecked
import GoSem.Claim
import GoSem.ClaimJoined
import GoSem.ClaimMapViews
import Derived.JoinedTies
import Derived.KernelRfl
namespace Go.Proofs.Ytbjblkfibinenaa
/- THE CELL 'sum', in the pinned program and in every row, IS THE sha256 OF THE DUMP (.gsa) THAT YtbjblkfibinenaaProg.lean LOADS. Nothing in Lean hashes anything: it is a label: what it is worth is what the hold of that sum in a sandbox is worth. -/
noncomputable def Try.pinned : Pinned := { name := "ytbjblkfibinenaa", sum := "df3720c9edc2eb10295ac79bf813d9de828a4bf08425e8b0123391fa37ceb10e", checked := Try.checked }
namespace Rows
def none {H : Type} : Left H := { results := [], args := [] }

/-- 'laws.FnSplitTerms': WHATEVER THE INPUT: true; the input reads as it did. -/
def fnSplitTermsSpec : ChangeSpec := { name := "fnSplitTerms", fn := fun _ => fun
  | [d1, d2] => { results := [.lit (.bool true)], args := [d1, d2] }
  | _ => none }
def fnSplitTermsRow : OpenClaim := { program := "ytbjblkfibinenaa", sum := "df3720c9edc2eb10295ac79bf813d9de828a4bf08425e8b0123391fa37ceb10e", func := "loop.example/g01107/laws.FnSplitTerms", spec := "fnSplitTerms", apart := false }
def FnSplitTermsSaid : Prop := fnSplitTermsRow.holds Try.pinned (OpenSpec.ofChange fnSplitTermsSpec)

/-- ITS FALSE NEIGHBOUR: 'it returns false'. Refute it at one input. -/
def fnSplitTermsWrong : ChangeSpec := { name := "fnSplitTerms", fn := fun _ => fun
  | [d1, d2] => { results := [.lit (.bool false)], args := [d1, d2] }
  | _ => none }
def FnSplitTermsWrongFalsely : Prop := fnSplitTermsRow.holds Try.pinned (OpenSpec.ofChange fnSplitTermsWrong)

/-- 'laws.FnExactIsExpansion': WHATEVER THE INPUT: true; the input reads as it did. -/
def fnExactIsExpansionSpec : ChangeSpec := { name := "fnExactIsExpansion", fn := fun _ => fun
  | [d] => { results := [.lit (.bool true)], args := [d] }
  | _ => none }
def fnExactIsExpansionRow : OpenClaim := { program := "ytbjblkfibinenaa", sum := "df3720c9edc2eb10295ac79bf813d9de828a4bf08425e8b0123391fa37ceb10e", func := "loop.example/g01107/laws.FnExactIsExpansion", spec := "fnExactIsExpansion", apart := false }
def FnExactIsExpansionSaid : Prop := fnExactIsExpansionRow.holds Try.pinned (OpenSpec.ofChange fnExactIsExpansionSpec)

/-- ITS FALSE NEIGHBOUR: 'it returns false'. Refute it at one input. -/
def fnExactIsExpansionWrong : ChangeSpec := { name := "fnExactIsExpansion", fn := fun _ => fun
  | [d] => { results := [.lit (.bool false)], args := [d] }
  | _ => none }
def FnExactIsExpansionWrongFalsely : Prop := fnExactIsExpansionRow.holds Try.pinned (OpenSpec.ofChange fnExactIsExpansionWrong)

/-- 'laws.FnExactSumOf': WHATEVER THE INPUT: true; the input reads as it did. -/
def fnExactSumOfSpec : ChangeSpec := { name := "fnExactSumOf", fn := fun _ => fun
  | [d] => { results := [.lit (.bool true)], args := [d] }
  | _ => none }
def fnExactSumOfRow : OpenClaim := { program := "ytbjblkfibinenaa", sum := "df3720c9edc2eb10295ac79bf813d9de828a4bf08425e8b0123391fa37ceb10e", func := "loop.example/g01107/laws.FnExactSumOf", spec := "fnExactSumOf", apart := false }
def FnExactSumOfSaid : Prop := fnExactSumOfRow.holds Try.pinned (OpenSpec.ofChange fnExactSumOfSpec)

/-- ITS FALSE NEIGHBOUR: 'it returns false'. Refute it at one input. -/
def fnExactSumOfWrong : ChangeSpec := { name := "fnExactSumOf", fn := fun _ => fun
  | [d] => { results := [.lit (.bool false)], args := [d] }
  | _ => none }
def FnExactSumOfWrongFalsely : Prop := fnExactSumOfRow.holds Try.pinned (OpenSpec.ofChange fnExactSumOfWrong)

/-- 'laws.FnExactCommonMultiple': WHATEVER THE INPUT: true; the input reads as it did. -/
def fnExactCommonMultipleSpec : ChangeSpec := { name := "fnExactCommonMultiple", fn := fun _ => fun
  | [d] => { results := [.lit (.bool true)], args := [d] }
  | _ => none }
def fnExactCommonMultipleRow : OpenClaim := { program := "ytbjblkfibinenaa", sum := "df3720c9edc2eb10295ac79bf813d9de828a4bf08425e8b0123391fa37ceb10e", func := "loop.example/g01107/laws.FnExactCommonMultiple", spec := "fnExactCommonMultiple", apart := false }
def FnExactCommonMultipleSaid : Prop := fnExactCommonMultipleRow.holds Try.pinned (OpenSpec.ofChange fnExactCommonMultipleSpec)

/-- ITS FALSE NEIGHBOUR: 'it returns false'. Refute it at one input. -/
def fnExactCommonMultipleWrong : ChangeSpec := { name := "fnExactCommonMultiple", fn := fun _ => fun
  | [d] => { results := [.lit (.bool false)], args := [d] }
  | _ => none }
def FnExactCommonMultipleWrongFalsely : Prop := fnExactCommonMultipleRow.holds Try.pinned (OpenSpec.ofChange fnExactCommonMultipleWrong)

/-- 'laws.FnExactSplitTerm': WHATEVER THE INPUT: true; the input reads as it did. -/
def fnExactSplitTermSpec : ChangeSpec := { name := "fnExactSplitTerm", fn := fun _ => fun
  | [d1, d2] => { results := [.lit (.bool true)], args := [d1, d2] }
  | _ => none }
def fnExactSplitTermRow : OpenClaim := { program := "ytbjblkfibinenaa", sum := "df3720c9edc2eb10295ac79bf813d9de828a4bf08425e8b0123391fa37ceb10e", func := "loop.example/g01107/laws.FnExactSplitTerm", spec := "fnExactSplitTerm", apart := false }
def FnExactSplitTermSaid : Prop := fnExactSplitTermRow.holds Try.pinned (OpenSpec.ofChange fnExactSplitTermSpec)

/-- ITS FALSE NEIGHBOUR: 'it returns false'. Refute it at one input. -/
def fnExactSplitTermWrong : ChangeSpec := { name := "fnExactSplitTerm", fn := fun _ => fun
  | [d1, d2] => { results := [.lit (.bool false)], args := [d1, d2] }
  | _ => none }
def FnExactSplitTermWrongFalsely : Prop := fnExactSplitTermRow.holds Try.pinned (OpenSpec.ofChange fnExactSplitTermWrong)

/-- 'laws.FnExactSplitBy': WHATEVER THE INPUT: true; the input reads as it did. -/
def fnExactSplitBySpec : ChangeSpec := { name := "fnExactSplitBy", fn := fun _ => fun
  | [d1, d2, d3, d4] => { results := [.lit (.bool true)], args := [d1, d2, d3, d4] }
  | _ => none }
def fnExactSplitByRow : OpenClaim := { program := "ytbjblkfibinenaa", sum := "df3720c9edc2eb10295ac79bf813d9de828a4bf08425e8b0123391fa37ceb10e", func := "loop.example/g01107/laws.FnExactSplitBy", spec := "fnExactSplitBy", apart := false }
def FnExactSplitBySaid : Prop := fnExactSplitByRow.holds Try.pinned (OpenSpec.ofChange fnExactSplitBySpec)

/-- ITS FALSE NEIGHBOUR: 'it returns false'. Refute it at one input. -/
def fnExactSplitByWrong : ChangeSpec := { name := "fnExactSplitBy", fn := fun _ => fun
  | [d1, d2, d3, d4] => { results := [.lit (.bool false)], args := [d1, d2, d3, d4] }
  | _ => none }
def FnExactSplitByWrongFalsely : Prop := fnExactSplitByRow.holds Try.pinned (OpenSpec.ofChange fnExactSplitByWrong)

/-- 'laws.FnExactScaleExpansion': WHATEVER THE INPUT: true; the input reads as it did. -/
def fnExactScaleExpansionSpec : ChangeSpec := { name := "fnExactScaleExpansion", fn := fun _ => fun
  | [d1, d2] => { results := [.lit (.bool true)], args := [d1, d2] }
  | _ => none }
def fnExactScaleExpansionRow : OpenClaim := { program := "ytbjblkfibinenaa", sum := "df3720c9edc2eb10295ac79bf813d9de828a4bf08425e8b0123391fa37ceb10e", func := "loop.example/g01107/laws.FnExactScaleExpansion", spec := "fnExactScaleExpansion", apart := false }
def FnExactScaleExpansionSaid : Prop := fnExactScaleExpansionRow.holds Try.pinned (OpenSpec.ofChange fnExactScaleExpansionSpec)

/-- ITS FALSE NEIGHBOUR: 'it returns false'. Refute it at one input. -/
def fnExactScaleExpansionWrong : ChangeSpec := { name := "fnExactScaleExpansion", fn := fun _ => fun
  | [d1, d2] => { results := [.lit (.bool false)], args := [d1, d2] }
  | _ => none }
def FnExactScaleExpansionWrongFalsely : Prop := fnExactScaleExpansionRow.holds Try.pinned (OpenSpec.ofChange fnExactScaleExpansionWrong)

/-- 'laws.FnExactUniteExpansions': WHATEVER THE INPUT: true; the input reads as it did. -/
def fnExactUniteExpansionsSpec : ChangeSpec := { name := "fnExactUniteExpansions", fn := fun _ => fun
  | [d1, d2] => { results := [.lit (.bool true)], args := [d1, d2] }
  | _ => none }
def fnExactUniteExpansionsRow : OpenClaim := { program := "ytbjblkfibinenaa", sum := "df3720c9edc2eb10295ac79bf813d9de828a4bf08425e8b0123391fa37ceb10e", func := "loop.example/g01107/laws.FnExactUniteExpansions", spec := "fnExactUniteExpansions", apart := false }
def FnExactUniteExpansionsSaid : Prop := fnExactUniteExpansionsRow.holds Try.pinned (OpenSpec.ofChange fnExactUniteExpansionsSpec)

/-- ITS FALSE NEIGHBOUR: 'it returns false'. Refute it at one input. -/
def fnExactUniteExpansionsWrong : ChangeSpec := { name := "fnExactUniteExpansions", fn := fun _ => fun
  | [d1, d2] => { results := [.lit (.bool false)], args := [d1, d2] }
  | _ => none }
def FnExactUniteExpansionsWrongFalsely : Prop := fnExactUniteExpansionsRow.holds Try.pinned (OpenSpec.ofChange fnExactUniteExpansionsWrong)

/-- 'laws.FnExactIsPartOf': WHATEVER THE INPUT: true; the input reads as it did. -/
def fnExactIsPartOfSpec : ChangeSpec := { name := "fnExactIsPartOf", fn := fun _ => fun
  | [d1, d2] => { results := [.lit (.bool true)], args := [d1, d2] }
  | _ => none }
def fnExactIsPartOfRow : OpenClaim := { program := "ytbjblkfibinenaa", sum := "df3720c9edc2eb10295ac79bf813d9de828a4bf08425e8b0123391fa37ceb10e", func := "loop.example/g01107/laws.FnExactIsPartOf", spec := "fnExactIsPartOf", apart := false }
def FnExactIsPartOfSaid : Prop := fnExactIsPartOfRow.holds Try.pinned (OpenSpec.ofChange fnExactIsPartOfSpec)

/-- ITS FALSE NEIGHBOUR: 'it returns false'. Refute it at one input. -/
def fnExactIsPartOfWrong : ChangeSpec := { name := "fnExactIsPartOf", fn := fun _ => fun
  | [d1, d2] => { results := [.lit (.bool false)], args := [d1, d2] }
  | _ => none }
def FnExactIsPartOfWrongFalsely : Prop := fnExactIsPartOfRow.holds Try.pinned (OpenSpec.ofChange fnExactIsPartOfWrong)

/-- 'laws.FnExactRestOf': WHATEVER THE INPUT: true; the input reads as it did. -/
def fnExactRestOfSpec : ChangeSpec := { name := "fnExactRestOf", fn := fun _ => fun
  | [d1, d2] => { results := [.lit (.bool true)], args := [d1, d2] }
  | _ => none }
def fnExactRestOfRow : OpenClaim := { program := "ytbjblkfibinenaa", sum := "df3720c9edc2eb10295ac79bf813d9de828a4bf08425e8b0123391fa37ceb10e", func := "loop.example/g01107/laws.FnExactRestOf", spec := "fnExactRestOf", apart := false }
def FnExactRestOfSaid : Prop := fnExactRestOfRow.holds Try.pinned (OpenSpec.ofChange fnExactRestOfSpec)

/-- ITS FALSE NEIGHBOUR: 'it returns false'. Refute it at one input. -/
def fnExactRestOfWrong : ChangeSpec := { name := "fnExactRestOf", fn := fun _ => fun
  | [d1, d2] => { results := [.lit (.bool false)], args := [d1, d2] }
  | _ => none }
def FnExactRestOfWrongFalsely : Prop := fnExactRestOfRow.holds Try.pinned (OpenSpec.ofChange fnExactRestOfWrong)

/-- 'laws.FnUnitedExpansions': WHATEVER THE INPUT: true; the input reads as it did. -/
def fnUnitedExpansionsSpec : ChangeSpec := { name := "fnUnitedExpansions", fn := fun _ => fun
  | [d1, d2] => { results := [.lit (.bool true)], args := [d1, d2] }
  | _ => none }
def fnUnitedExpansionsRow : OpenClaim := { program := "ytbjblkfibinenaa", sum := "df3720c9edc2eb10295ac79bf813d9de828a4bf08425e8b0123391fa37ceb10e", func := "loop.example/g01107/laws.FnUnitedExpansions", spec := "fnUnitedExpansions", apart := false }
def FnUnitedExpansionsSaid : Prop := fnUnitedExpansionsRow.holds Try.pinned (OpenSpec.ofChange fnUnitedExpansionsSpec)

/-- ITS FALSE NEIGHBOUR: 'it returns false'. Refute it at one input. -/
def fnUnitedExpansionsWrong : ChangeSpec := { name := "fnUnitedExpansions", fn := fun _ => fun
  | [d1, d2] => { results := [.lit (.bool false)], args := [d1, d2] }
  | _ => none }
def FnUnitedExpansionsWrongFalsely : Prop := fnUnitedExpansionsRow.holds Try.pinned (OpenSpec.ofChange fnUnitedExpansionsWrong)

/-- 'laws.FnMergedPairs': WHATEVER THE INPUT: true; the input reads as it did. -/
def fnMergedPairsSpec : ChangeSpec := { name := "fnMergedPairs", fn := fun _ => fun
  | [d1, d2] => { results := [.lit (.bool true)], args := [d1, d2] }
  | _ => none }
def fnMergedPairsRow : OpenClaim := { program := "ytbjblkfibinenaa", sum := "df3720c9edc2eb10295ac79bf813d9de828a4bf08425e8b0123391fa37ceb10e", func := "loop.example/g01107/laws.FnMergedPairs", spec := "fnMergedPairs", apart := false }
def FnMergedPairsSaid : Prop := fnMergedPairsRow.holds Try.pinned (OpenSpec.ofChange fnMergedPairsSpec)

/-- ITS FALSE NEIGHBOUR: 'it returns false'. Refute it at one input. -/
def fnMergedPairsWrong : ChangeSpec := { name := "fnMergedPairs", fn := fun _ => fun
  | [d1, d2] => { results := [.lit (.bool false)], args := [d1, d2] }
  | _ => none }
def FnMergedPairsWrongFalsely : Prop := fnMergedPairsRow.holds Try.pinned (OpenSpec.ofChange fnMergedPairsWrong)

/- THE SECOND FORM. 'bulk': how many values and letters a reading holds, each counted each time it is reached (what is shared counts as often as it is met; a slice's spare places count too). A statement '..UptoSaid' is the law's where the arguments, and the package variables that the reading takes, are together of bulk at most 1048576: NARROWER than '..Said'. Prove '..Said' where nothing that the law and all that it calls make is longer than what came in: it says more and counts as full. Else prove '..UptoSaid'. A law counts once. -/
mutual
def uptoBulk {H : Type} : DataW H → Nat
  | .lit (.string bytes) => bytes.length + 1
  | .lit _ => 1
  | .nil => 1
  | .ptr d => uptoBulk d + 1
  | .slice elems spare => uptoBulkAll elems + uptoBulkAll spare + 1
  | .agg parts => uptoBulkAll parts + 1
  | .iface _ d => uptoBulk d + 1
  | .map entries => uptoBulkEntries entries + 1
  | .held _ => 1
def uptoBulkAll {H : Type} : List (DataW H) → Nat
  | [] => 0
  | d :: r => uptoBulk d + uptoBulkAll r
def uptoBulkEntries {H : Type} : List (Lit × DataW H) → Nat
  | [] => 0
  | x :: r => uptoBulkEntry x + uptoBulkEntries r
def uptoBulkEntry {H : Type} : Lit × DataW H → Nat
  | (.string bytes, d) => bytes.length + uptoBulk d + 1
  | (_, d) => uptoBulk d + 1
 end
def uptoSmall : (H : Type) → List (DataW H) → Bool := fun _ ds => decide (uptoBulkAll ds ≤ 1048576)
def OpenSpec.upto (s : _root_.Go.ChangeSpec) : _root_.Go.OpenSpec := { _root_.Go.OpenSpec.ofChange s with cond := some uptoSmall }

/-- 'laws.FnSplitTerms', WHERE WHAT IT READS IS OF BULK AT MOST 1048576: true; the input reads as it did. -/
def fnSplitTermsUptoRow : OpenClaim := { program := "ytbjblkfibinenaa", sum := "df3720c9edc2eb10295ac79bf813d9de828a4bf08425e8b0123391fa37ceb10e", func := "loop.example/g01107/laws.FnSplitTerms", spec := "fnSplitTerms", apart := false, narrowed := true }
def FnSplitTermsUptoSaid : Prop := fnSplitTermsUptoRow.holds Try.pinned (OpenSpec.upto fnSplitTermsSpec)

/-- 'laws.FnExactIsExpansion', WHERE WHAT IT READS IS OF BULK AT MOST 1048576: true; the input reads as it did. -/
def fnExactIsExpansionUptoRow : OpenClaim := { program := "ytbjblkfibinenaa", sum := "df3720c9edc2eb10295ac79bf813d9de828a4bf08425e8b0123391fa37ceb10e", func := "loop.example/g01107/laws.FnExactIsExpansion", spec := "fnExactIsExpansion", apart := false, narrowed := true }
def FnExactIsExpansionUptoSaid : Prop := fnExactIsExpansionUptoRow.holds Try.pinned (OpenSpec.upto fnExactIsExpansionSpec)

/-- 'laws.FnExactSumOf', WHERE WHAT IT READS IS OF BULK AT MOST 1048576: true; the input reads as it did. -/
def fnExactSumOfUptoRow : OpenClaim := { program := "ytbjblkfibinenaa", sum := "df3720c9edc2eb10295ac79bf813d9de828a4bf08425e8b0123391fa37ceb10e", func := "loop.example/g01107/laws.FnExactSumOf", spec := "fnExactSumOf", apart := false, narrowed := true }
def FnExactSumOfUptoSaid : Prop := fnExactSumOfUptoRow.holds Try.pinned (OpenSpec.upto fnExactSumOfSpec)

/-- 'laws.FnExactCommonMultiple', WHERE WHAT IT READS IS OF BULK AT MOST 1048576: true; the input reads as it did. -/
def fnExactCommonMultipleUptoRow : OpenClaim := { program := "ytbjblkfibinenaa", sum := "df3720c9edc2eb10295ac79bf813d9de828a4bf08425e8b0123391fa37ceb10e", func := "loop.example/g01107/laws.FnExactCommonMultiple", spec := "fnExactCommonMultiple", apart := false, narrowed := true }
def FnExactCommonMultipleUptoSaid : Prop := fnExactCommonMultipleUptoRow.holds Try.pinned (OpenSpec.upto fnExactCommonMultipleSpec)

/-- 'laws.FnExactSplitTerm', WHERE WHAT IT READS IS OF BULK AT MOST 1048576: true; the input reads as it did. -/
def fnExactSplitTermUptoRow : OpenClaim := { program := "ytbjblkfibinenaa", sum := "df3720c9edc2eb10295ac79bf813d9de828a4bf08425e8b0123391fa37ceb10e", func := "loop.example/g01107/laws.FnExactSplitTerm", spec := "fnExactSplitTerm", apart := false, narrowed := true }
def FnExactSplitTermUptoSaid : Prop := fnExactSplitTermUptoRow.holds Try.pinned (OpenSpec.upto fnExactSplitTermSpec)

/-- 'laws.FnExactSplitBy', WHERE WHAT IT READS IS OF BULK AT MOST 1048576: true; the input reads as it did. -/
def fnExactSplitByUptoRow : OpenClaim := { program := "ytbjblkfibinenaa", sum := "df3720c9edc2eb10295ac79bf813d9de828a4bf08425e8b0123391fa37ceb10e", func := "loop.example/g01107/laws.FnExactSplitBy", spec := "fnExactSplitBy", apart := false, narrowed := true }
def FnExactSplitByUptoSaid : Prop := fnExactSplitByUptoRow.holds Try.pinned (OpenSpec.upto fnExactSplitBySpec)

/-- 'laws.FnExactScaleExpansion', WHERE WHAT IT READS IS OF BULK AT MOST 1048576: true; the input reads as it did. -/
def fnExactScaleExpansionUptoRow : OpenClaim := { program := "ytbjblkfibinenaa", sum := "df3720c9edc2eb10295ac79bf813d9de828a4bf08425e8b0123391fa37ceb10e", func := "loop.example/g01107/laws.FnExactScaleExpansion", spec := "fnExactScaleExpansion", apart := false, narrowed := true }
def FnExactScaleExpansionUptoSaid : Prop := fnExactScaleExpansionUptoRow.holds Try.pinned (OpenSpec.upto fnExactScaleExpansionSpec)

/-- 'laws.FnExactUniteExpansions', WHERE WHAT IT READS IS OF BULK AT MOST 1048576: true; the input reads as it did. -/
def fnExactUniteExpansionsUptoRow : OpenClaim := { program := "ytbjblkfibinenaa", sum := "df3720c9edc2eb10295ac79bf813d9de828a4bf08425e8b0123391fa37ceb10e", func := "loop.example/g01107/laws.FnExactUniteExpansions", spec := "fnExactUniteExpansions", apart := false, narrowed := true }
def FnExactUniteExpansionsUptoSaid : Prop := fnExactUniteExpansionsUptoRow.holds Try.pinned (OpenSpec.upto fnExactUniteExpansionsSpec)

/-- 'laws.FnExactIsPartOf', WHERE WHAT IT READS IS OF BULK AT MOST 1048576: true; the input reads as it did. -/
def fnExactIsPartOfUptoRow : OpenClaim := { program := "ytbjblkfibinenaa", sum := "df3720c9edc2eb10295ac79bf813d9de828a4bf08425e8b0123391fa37ceb10e", func := "loop.example/g01107/laws.FnExactIsPartOf", spec := "fnExactIsPartOf", apart := false, narrowed := true }
def FnExactIsPartOfUptoSaid : Prop := fnExactIsPartOfUptoRow.holds Try.pinned (OpenSpec.upto fnExactIsPartOfSpec)

/-- 'laws.FnExactRestOf', WHERE WHAT IT READS IS OF BULK AT MOST 1048576: true; the input reads as it did. -/
def fnExactRestOfUptoRow : OpenClaim := { program := "ytbjblkfibinenaa", sum := "df3720c9edc2eb10295ac79bf813d9de828a4bf08425e8b0123391fa37ceb10e", func := "loop.example/g01107/laws.FnExactRestOf", spec := "fnExactRestOf", apart := false, narrowed := true }
def FnExactRestOfUptoSaid : Prop := fnExactRestOfUptoRow.holds Try.pinned (OpenSpec.upto fnExactRestOfSpec)

/-- 'laws.FnUnitedExpansions', WHERE WHAT IT READS IS OF BULK AT MOST 1048576: true; the input reads as it did. -/
def fnUnitedExpansionsUptoRow : OpenClaim := { program := "ytbjblkfibinenaa", sum := "df3720c9edc2eb10295ac79bf813d9de828a4bf08425e8b0123391fa37ceb10e", func := "loop.example/g01107/laws.FnUnitedExpansions", spec := "fnUnitedExpansions", apart := false, narrowed := true }
def FnUnitedExpansionsUptoSaid : Prop := fnUnitedExpansionsUptoRow.holds Try.pinned (OpenSpec.upto fnUnitedExpansionsSpec)

/-- 'laws.FnMergedPairs', WHERE WHAT IT READS IS OF BULK AT MOST 1048576: true; the input reads as it did. -/
def fnMergedPairsUptoRow : OpenClaim := { program := "ytbjblkfibinenaa", sum := "df3720c9edc2eb10295ac79bf813d9de828a4bf08425e8b0123391fa37ceb10e", func := "loop.example/g01107/laws.FnMergedPairs", spec := "fnMergedPairs", apart := false, narrowed := true }
def FnMergedPairsUptoSaid : Prop := fnMergedPairsUptoRow.holds Try.pinned (OpenSpec.upto fnMergedPairsSpec)

end Rows
end Go.Proofs.Ytbjblkfibinenaa
