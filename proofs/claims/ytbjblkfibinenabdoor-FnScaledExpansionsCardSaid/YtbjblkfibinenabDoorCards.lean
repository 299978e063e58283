/-
  DERIVED. GIVEN WITH THE SEED: THE CARDS: each row of YtbjblkfibinenabDoorRows.lean that lists a variable, with what it lists TIED to the program's text (the seventh form; the later family's looks); each row that meets fmt, with fmt's text TOLD by the authors' own Lean function (tested against real Go, not proved from fmt's source: count such statements apart). THE CARD IS WHAT COUNTS. Prove the row's statement (the work); the ties are given (YtbjblkfibinenabDoorTie.lean); close each card by the builder's one call (the guide's Derived/Test/ToyasCard.lean, 'card_holds'). Laid BY PROGRAM, IN A SANDBOX (cutbox-door.mjs). By AI agents, Wed Nov 11 2026. No macro, syntax, notation, axiom, sorry.
-/
import Derived.Test.YtbjblkfibinenabDoorRows
import GoSem.ClaimSeven
namespace Go.Proofs.YtbjblkfibinenabDoor
namespace Rows

/-- THE TIED CARD OF 'laws.FnExactFractionText'. -/
def fnExactFractionTextCard : Claim7 := { stood := { row := fnExactFractionTextRow, standIns := [], harness := (true, "856a60893ec3144dd3a5641c29f08e47174cb0a673e70b31795700d2c8f28881"), looks := true }, kinds := [], alts := [], laidByText := true, laidKinds := [.data, .data, .data], laidTests := true, laidLooks := .later }
def FnExactFractionTextCardSaid : Prop := Claim7.holds Tryd.pinned (.plain (OpenSpec.ofChange fnExactFractionTextSpec)) fnExactFractionTextCard

/-- THE TIED CARD OF 'laws.FnExactExpansionText'. -/
def fnExactExpansionTextCard : Claim7 := { stood := { row := fnExactExpansionTextRow, standIns := [], harness := (true, "856a60893ec3144dd3a5641c29f08e47174cb0a673e70b31795700d2c8f28881"), looks := true }, kinds := [], alts := [], laidByText := true, laidKinds := [.data, .data, .data], laidTests := true, laidLooks := .later }
def FnExactExpansionTextCardSaid : Prop := Claim7.holds Tryd.pinned (.plain (OpenSpec.ofChange fnExactExpansionTextSpec)) fnExactExpansionTextCard

/-- THE TIED CARD OF 'laws.FnExactParseExpansion'. -/
def fnExactParseExpansionCard : Claim7 := { stood := { row := fnExactParseExpansionRow, standIns := [], harness := (true, "856a60893ec3144dd3a5641c29f08e47174cb0a673e70b31795700d2c8f28881"), looks := true }, kinds := [], alts := [], laidByText := true, laidKinds := [.data, .data, .data, .data, .sentinel, .sentinel, .pinned], laidTests := true, laidLooks := .later }
def FnExactParseExpansionCardSaid : Prop := Claim7.holds Tryd.pinned (.plain (OpenSpec.ofChange fnExactParseExpansionSpec)) fnExactParseExpansionCard

/-- THE TIED CARD OF 'laws.FnFractionsMade'. -/
def fnFractionsMadeCard : Claim7 := { stood := { row := fnFractionsMadeRow, standIns := [], harness := (true, "856a60893ec3144dd3a5641c29f08e47174cb0a673e70b31795700d2c8f28881"), looks := true }, kinds := [], alts := [], laidByText := true, laidKinds := [.data, .data, .data, .sentinel, .sentinel], laidTests := true, laidLooks := .later }
def FnFractionsMadeCardSaid : Prop := Claim7.holds Tryd.pinned (.plain (OpenSpec.ofChange fnFractionsMadeSpec)) fnFractionsMadeCard

/-- THE TIED CARD OF 'laws.FnScaledExpansions'. -/
def fnScaledExpansionsCard : Claim7 := { stood := { row := fnScaledExpansionsRow, standIns := [], harness := (true, "856a60893ec3144dd3a5641c29f08e47174cb0a673e70b31795700d2c8f28881"), looks := true }, kinds := [], alts := [], laidByText := true, laidKinds := [.data, .data, .data, .data, .sentinel, .sentinel, .pinned], laidTests := true, laidLooks := .later }
def FnScaledExpansionsCardSaid : Prop := Claim7.holds Tryd.pinned (.plain (OpenSpec.ofChange fnScaledExpansionsSpec)) fnScaledExpansionsCard

/-- THE SECOND FORM's CARD OF 'laws.FnExactFractionText'. -/
def fnExactFractionTextUptoCard : Claim7 := { stood := { row := fnExactFractionTextUptoRow, standIns := [], harness := (true, "856a60893ec3144dd3a5641c29f08e47174cb0a673e70b31795700d2c8f28881"), looks := true }, kinds := [], alts := [], laidByText := true, laidKinds := [.data, .data, .data], laidTests := true, laidLooks := .later }
def FnExactFractionTextUptoCardSaid : Prop := Claim7.holds Tryd.pinned (.plain (OpenSpec.upto fnExactFractionTextSpec)) fnExactFractionTextUptoCard

/-- THE SECOND FORM's CARD OF 'laws.FnExactExpansionText'. -/
def fnExactExpansionTextUptoCard : Claim7 := { stood := { row := fnExactExpansionTextUptoRow, standIns := [], harness := (true, "856a60893ec3144dd3a5641c29f08e47174cb0a673e70b31795700d2c8f28881"), looks := true }, kinds := [], alts := [], laidByText := true, laidKinds := [.data, .data, .data], laidTests := true, laidLooks := .later }
def FnExactExpansionTextUptoCardSaid : Prop := Claim7.holds Tryd.pinned (.plain (OpenSpec.upto fnExactExpansionTextSpec)) fnExactExpansionTextUptoCard

/-- THE SECOND FORM's CARD OF 'laws.FnExactParseExpansion'. -/
def fnExactParseExpansionUptoCard : Claim7 := { stood := { row := fnExactParseExpansionUptoRow, standIns := [], harness := (true, "856a60893ec3144dd3a5641c29f08e47174cb0a673e70b31795700d2c8f28881"), looks := true }, kinds := [], alts := [], laidByText := true, laidKinds := [.data, .data, .data, .data, .sentinel, .sentinel, .pinned], laidTests := true, laidLooks := .later }
def FnExactParseExpansionUptoCardSaid : Prop := Claim7.holds Tryd.pinned (.plain (OpenSpec.upto fnExactParseExpansionSpec)) fnExactParseExpansionUptoCard

/-- THE SECOND FORM's CARD OF 'laws.FnFractionsMade'. -/
def fnFractionsMadeUptoCard : Claim7 := { stood := { row := fnFractionsMadeUptoRow, standIns := [], harness := (true, "856a60893ec3144dd3a5641c29f08e47174cb0a673e70b31795700d2c8f28881"), looks := true }, kinds := [], alts := [], laidByText := true, laidKinds := [.data, .data, .data, .sentinel, .sentinel], laidTests := true, laidLooks := .later }
def FnFractionsMadeUptoCardSaid : Prop := Claim7.holds Tryd.pinned (.plain (OpenSpec.upto fnFractionsMadeSpec)) fnFractionsMadeUptoCard

/-- THE SECOND FORM's CARD OF 'laws.FnScaledExpansions'. -/
def fnScaledExpansionsUptoCard : Claim7 := { stood := { row := fnScaledExpansionsUptoRow, standIns := [], harness := (true, "856a60893ec3144dd3a5641c29f08e47174cb0a673e70b31795700d2c8f28881"), looks := true }, kinds := [], alts := [], laidByText := true, laidKinds := [.data, .data, .data, .data, .sentinel, .sentinel, .pinned], laidTests := true, laidLooks := .later }
def FnScaledExpansionsUptoCardSaid : Prop := Claim7.holds Tryd.pinned (.plain (OpenSpec.upto fnScaledExpansionsSpec)) fnScaledExpansionsUptoCard
end Rows
end Go.Proofs.YtbjblkfibinenabDoor
