/-
  DERIVED. GIVEN WITH THE SEED: THE CARDS: each row of YtbjblkfibinenadGreatDoorRows.lean that lists a variable, with what it lists TIED to the program's text (the seventh form; the later family's looks); each row that meets fmt, with fmt's text TOLD by the authors' own Lean function (tested against real Go, not proved from fmt's source: count such statements apart). THE CARD IS WHAT COUNTS. Prove the row's statement (the work); the ties are given (YtbjblkfibinenadGreatDoorTie.lean); close each card by the builder's one call (the guide's Derived/Test/ToyasCard.lean, 'card_holds'). Laid BY PROGRAM, IN A SANDBOX (cutbox-door.mjs). By AI agents, Wed Nov 11 2026. No macro, syntax, notation, axiom, sorry.
-/
import Derived.Test.YtbjblkfibinenadGreatDoorRows
import GoSem.ClaimSeven
namespace Go.Proofs.YtbjblkfibinenadGreatDoor
namespace Rows

/-- THE TIED CARD OF 'laws.FnExactMethodSizes'. -/
def fnExactMethodSizesCard : Claim7 := { stood := { row := fnExactMethodSizesRow, standIns := [], harness := (true, "2551a651bee44b1d95af4fe2fdd76ad269e71ec2ccc50f0a3ab06bf29e8e71e8"), looks := false }, kinds := [], alts := [], laidByText := true, laidKinds := [.data], laidTests := true, laidLooks := .later }
def FnExactMethodSizesCardSaid : Prop := Claim7.holds Tryz.pinned (.plain (OpenSpec.ofChange fnExactMethodSizesSpec)) fnExactMethodSizesCard

/-- THE TIED CARD OF 'laws.FnExactBestMethod'. -/
def fnExactBestMethodCard : Claim7 := { stood := { row := fnExactBestMethodRow, standIns := [], harness := (true, "2551a651bee44b1d95af4fe2fdd76ad269e71ec2ccc50f0a3ab06bf29e8e71e8"), looks := false }, kinds := [], alts := [], laidByText := true, laidKinds := [.data], laidTests := true, laidLooks := .later }
def FnExactBestMethodCardSaid : Prop := Claim7.holds Tryz.pinned (.plain (OpenSpec.ofChange fnExactBestMethodSpec)) fnExactBestMethodCard

/-- THE TIED CARD OF 'laws.FnMethodsCompared'. -/
def fnMethodsComparedCard : Claim7 := { stood := { row := fnMethodsComparedRow, standIns := [], harness := (true, "2551a651bee44b1d95af4fe2fdd76ad269e71ec2ccc50f0a3ab06bf29e8e71e8"), looks := false }, kinds := [], alts := [], laidByText := true, laidKinds := [.data], laidTests := true, laidLooks := .later }
def FnMethodsComparedCardSaid : Prop := Claim7.holds Tryz.pinned (.plain (OpenSpec.ofChange fnMethodsComparedSpec)) fnMethodsComparedCard

/-- THE SECOND FORM's CARD OF 'laws.FnExactMethodSizes'. -/
def fnExactMethodSizesUptoCard : Claim7 := { stood := { row := fnExactMethodSizesUptoRow, standIns := [], harness := (true, "2551a651bee44b1d95af4fe2fdd76ad269e71ec2ccc50f0a3ab06bf29e8e71e8"), looks := false }, kinds := [], alts := [], laidByText := true, laidKinds := [.data], laidTests := true, laidLooks := .later }
def FnExactMethodSizesUptoCardSaid : Prop := Claim7.holds Tryz.pinned (.plain (OpenSpec.upto fnExactMethodSizesSpec)) fnExactMethodSizesUptoCard

/-- THE SECOND FORM's CARD OF 'laws.FnExactBestMethod'. -/
def fnExactBestMethodUptoCard : Claim7 := { stood := { row := fnExactBestMethodUptoRow, standIns := [], harness := (true, "2551a651bee44b1d95af4fe2fdd76ad269e71ec2ccc50f0a3ab06bf29e8e71e8"), looks := false }, kinds := [], alts := [], laidByText := true, laidKinds := [.data], laidTests := true, laidLooks := .later }
def FnExactBestMethodUptoCardSaid : Prop := Claim7.holds Tryz.pinned (.plain (OpenSpec.upto fnExactBestMethodSpec)) fnExactBestMethodUptoCard

/-- THE SECOND FORM's CARD OF 'laws.FnMethodsCompared'. -/
def fnMethodsComparedUptoCard : Claim7 := { stood := { row := fnMethodsComparedUptoRow, standIns := [], harness := (true, "2551a651bee44b1d95af4fe2fdd76ad269e71ec2ccc50f0a3ab06bf29e8e71e8"), looks := false }, kinds := [], alts := [], laidByText := true, laidKinds := [.data], laidTests := true, laidLooks := .later }
def FnMethodsComparedUptoCardSaid : Prop := Claim7.holds Tryz.pinned (.plain (OpenSpec.upto fnMethodsComparedSpec)) fnMethodsComparedUptoCard
end Rows
end Go.Proofs.YtbjblkfibinenadGreatDoor
