/-
  DERIVED. GIVEN WITH THE SEED: THE CARDS: each row of YtgkandghennbhaaGreatDoorRows.lean that lists a variable, with what it lists TIED to the program's text (the seventh form; the later family's looks); each row that meets fmt, with fmt's text TOLD by the authors' own Lean function (tested against real Go, not proved from fmt's source: count such statements apart). THE CARD IS WHAT COUNTS. Prove the row's statement (the work); the ties are given (YtgkandghennbhaaGreatDoorTie.lean); close each card by the builder's one call (the guide's Derived/Test/ToyasCard.lean, 'card_holds'). Laid BY PROGRAM, IN A SANDBOX (cutbox-door.mjs). By AI agents, Wed Nov 11 2026. No macro, syntax, notation, axiom, sorry.
-/
import Derived.Test.YtgkandghennbhaaGreatDoorRows
import GoSem.ClaimSeven
namespace Go.Proofs.YtgkandghennbhaaGreatDoor
namespace Rows

/-- THE TIED CARD OF 'cordonlaw08.FormulaMeans'. -/
def formulaMeansCard : Claim7 := { stood := { row := formulaMeansRow, standIns := [], harness := (true, "d37f8496aafbccd87ad22be9010a767dabfc43b9bd48c4ba6c99527f464afd3b"), looks := false }, kinds := [], alts := [], laidByText := true, laidKinds := [.data, .data, .data, .data, .pinned], laidTests := true, laidLooks := .later }
def FormulaMeansCardSaid : Prop := Claim7.holds Tryz.pinned (.plain (OpenSpec.ofChange formulaMeansSpec)) formulaMeansCard

/-- THE TIED CARD OF 'cordonlaw08.FormulaBack'. -/
def formulaBackCard : Claim7 := { stood := { row := formulaBackRow, standIns := [], harness := (true, "d37f8496aafbccd87ad22be9010a767dabfc43b9bd48c4ba6c99527f464afd3b"), looks := false }, kinds := [], alts := [], laidByText := true, laidKinds := [.data, .data, .data, .data, .pinned], laidTests := true, laidLooks := .later }
def FormulaBackCardSaid : Prop := Claim7.holds Tryz.pinned (.plain (OpenSpec.ofChange formulaBackSpec)) formulaBackCard

/-- THE TIED CARD OF 'cordonlaw08.FormulaSingles'. -/
def formulaSinglesCard : Claim7 := { stood := { row := formulaSinglesRow, standIns := [], harness := (true, "d37f8496aafbccd87ad22be9010a767dabfc43b9bd48c4ba6c99527f464afd3b"), looks := false }, kinds := [], alts := [], laidByText := true, laidKinds := [.data, .data, .data, .data, .pinned], laidTests := true, laidLooks := .later }
def FormulaSinglesCardSaid : Prop := Claim7.holds Tryz.pinned (.plain (OpenSpec.ofChange formulaSinglesSpec)) formulaSinglesCard

/-- THE SECOND FORM's CARD OF 'cordonlaw08.FormulaMeans'. -/
def formulaMeansUptoCard : Claim7 := { stood := { row := formulaMeansUptoRow, standIns := [], harness := (true, "d37f8496aafbccd87ad22be9010a767dabfc43b9bd48c4ba6c99527f464afd3b"), looks := false }, kinds := [], alts := [], laidByText := true, laidKinds := [.data, .data, .data, .data, .pinned], laidTests := true, laidLooks := .later }
def FormulaMeansUptoCardSaid : Prop := Claim7.holds Tryz.pinned (.plain (OpenSpec.upto formulaMeansSpec)) formulaMeansUptoCard

/-- THE SECOND FORM's CARD OF 'cordonlaw08.FormulaBack'. -/
def formulaBackUptoCard : Claim7 := { stood := { row := formulaBackUptoRow, standIns := [], harness := (true, "d37f8496aafbccd87ad22be9010a767dabfc43b9bd48c4ba6c99527f464afd3b"), looks := false }, kinds := [], alts := [], laidByText := true, laidKinds := [.data, .data, .data, .data, .pinned], laidTests := true, laidLooks := .later }
def FormulaBackUptoCardSaid : Prop := Claim7.holds Tryz.pinned (.plain (OpenSpec.upto formulaBackSpec)) formulaBackUptoCard

/-- THE SECOND FORM's CARD OF 'cordonlaw08.FormulaSingles'. -/
def formulaSinglesUptoCard : Claim7 := { stood := { row := formulaSinglesUptoRow, standIns := [], harness := (true, "d37f8496aafbccd87ad22be9010a767dabfc43b9bd48c4ba6c99527f464afd3b"), looks := false }, kinds := [], alts := [], laidByText := true, laidKinds := [.data, .data, .data, .data, .pinned], laidTests := true, laidLooks := .later }
def FormulaSinglesUptoCardSaid : Prop := Claim7.holds Tryz.pinned (.plain (OpenSpec.upto formulaSinglesSpec)) formulaSinglesUptoCard
end Rows
end Go.Proofs.YtgkandghennbhaaGreatDoor
