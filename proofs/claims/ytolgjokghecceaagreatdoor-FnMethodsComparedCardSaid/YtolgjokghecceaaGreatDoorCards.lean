/-
  DERIVED. GIVEN WITH THE SEED: THE CARDS: each row of YtolgjokghecceaaGreatDoorRows.lean that lists a variable, with what it lists TIED to the program's text (the seventh form; the later family's looks); each row that meets fmt, with fmt's text TOLD by the authors' own Lean function (tested against real Go, not proved from fmt's source: count such statements apart). THE CARD IS WHAT COUNTS. Prove the row's statement (the work); the ties are given (YtolgjokghecceaaGreatDoorTie.lean); close each card by the builder's one call (the guide's Derived/Test/ToyasCard.lean, 'card_holds'). Laid BY PROGRAM, IN A SANDBOX (cutbox-door.mjs). By AI agents, Wed Nov 11 2026. No macro, syntax, notation, axiom, sorry.
-/
import Derived.Test.YtolgjokghecceaaGreatDoorRows
import GoSem.ClaimSeven
namespace Go.Proofs.YtolgjokghecceaaGreatDoor
namespace Rows

/-- THE TIED CARD OF 'laws.FnExactMethodSizes'. -/
def fnExactMethodSizesCard : Claim7 := { stood := { row := fnExactMethodSizesRow, standIns := [], harness := (true, "9edf5acc83f21724f60a0e5eacfc5ee9c7577ca2dcab961a3bc48d2aeca39cf8"), looks := false }, kinds := [], alts := [], laidByText := true, laidKinds := [.data], laidTests := true, laidLooks := .later }
def FnExactMethodSizesCardSaid : Prop := Claim7.holds Tryz.pinned (.plain (OpenSpec.ofChange fnExactMethodSizesSpec)) fnExactMethodSizesCard

/-- THE TIED CARD OF 'laws.FnExactBestMethod'. -/
def fnExactBestMethodCard : Claim7 := { stood := { row := fnExactBestMethodRow, standIns := [], harness := (true, "9edf5acc83f21724f60a0e5eacfc5ee9c7577ca2dcab961a3bc48d2aeca39cf8"), looks := false }, kinds := [], alts := [], laidByText := true, laidKinds := [.data], laidTests := true, laidLooks := .later }
def FnExactBestMethodCardSaid : Prop := Claim7.holds Tryz.pinned (.plain (OpenSpec.ofChange fnExactBestMethodSpec)) fnExactBestMethodCard

/-- THE TIED CARD OF 'laws.FnMethodsCompared'. -/
def fnMethodsComparedCard : Claim7 := { stood := { row := fnMethodsComparedRow, standIns := [], harness := (true, "9edf5acc83f21724f60a0e5eacfc5ee9c7577ca2dcab961a3bc48d2aeca39cf8"), looks := false }, kinds := [], alts := [], laidByText := true, laidKinds := [.data], laidTests := true, laidLooks := .later }
def FnMethodsComparedCardSaid : Prop := Claim7.holds Tryz.pinned (.plain (OpenSpec.ofChange fnMethodsComparedSpec)) fnMethodsComparedCard

/-- THE TIED CARD OF 'laws.FnTop'. -/
def fnTopCard : Claim7 := { stood := { row := fnTopRow, standIns := [], harness := (true, "9edf5acc83f21724f60a0e5eacfc5ee9c7577ca2dcab961a3bc48d2aeca39cf8"), looks := false }, kinds := [], alts := [], laidByText := true, laidKinds := [.data], laidTests := true, laidLooks := .later }
def FnTopCardSaid : Prop := Claim7.holds Tryz.pinned (.plain (OpenSpec.ofChange fnTopSpec)) fnTopCard

/-- THE SECOND FORM's CARD OF 'laws.FnExactMethodSizes'. -/
def fnExactMethodSizesUptoCard : Claim7 := { stood := { row := fnExactMethodSizesUptoRow, standIns := [], harness := (true, "9edf5acc83f21724f60a0e5eacfc5ee9c7577ca2dcab961a3bc48d2aeca39cf8"), looks := false }, kinds := [], alts := [], laidByText := true, laidKinds := [.data], laidTests := true, laidLooks := .later }
def FnExactMethodSizesUptoCardSaid : Prop := Claim7.holds Tryz.pinned (.plain (OpenSpec.upto fnExactMethodSizesSpec)) fnExactMethodSizesUptoCard

/-- THE SECOND FORM's CARD OF 'laws.FnExactBestMethod'. -/
def fnExactBestMethodUptoCard : Claim7 := { stood := { row := fnExactBestMethodUptoRow, standIns := [], harness := (true, "9edf5acc83f21724f60a0e5eacfc5ee9c7577ca2dcab961a3bc48d2aeca39cf8"), looks := false }, kinds := [], alts := [], laidByText := true, laidKinds := [.data], laidTests := true, laidLooks := .later }
def FnExactBestMethodUptoCardSaid : Prop := Claim7.holds Tryz.pinned (.plain (OpenSpec.upto fnExactBestMethodSpec)) fnExactBestMethodUptoCard

/-- THE SECOND FORM's CARD OF 'laws.FnMethodsCompared'. -/
def fnMethodsComparedUptoCard : Claim7 := { stood := { row := fnMethodsComparedUptoRow, standIns := [], harness := (true, "9edf5acc83f21724f60a0e5eacfc5ee9c7577ca2dcab961a3bc48d2aeca39cf8"), looks := false }, kinds := [], alts := [], laidByText := true, laidKinds := [.data], laidTests := true, laidLooks := .later }
def FnMethodsComparedUptoCardSaid : Prop := Claim7.holds Tryz.pinned (.plain (OpenSpec.upto fnMethodsComparedSpec)) fnMethodsComparedUptoCard

/-- THE SECOND FORM's CARD OF 'laws.FnTop'. -/
def fnTopUptoCard : Claim7 := { stood := { row := fnTopUptoRow, standIns := [], harness := (true, "9edf5acc83f21724f60a0e5eacfc5ee9c7577ca2dcab961a3bc48d2aeca39cf8"), looks := false }, kinds := [], alts := [], laidByText := true, laidKinds := [.data], laidTests := true, laidLooks := .later }
def FnTopUptoCardSaid : Prop := Claim7.holds Tryz.pinned (.plain (OpenSpec.upto fnTopSpec)) fnTopUptoCard
end Rows
end Go.Proofs.YtolgjokghecceaaGreatDoor
