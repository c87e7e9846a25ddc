/-
  DERIVED. GIVEN WITH THE SEED: THE CARDS: each row of YtedglpfdibamdaaGreatDoorRows.lean that lists a variable, with what it lists TIED to the program's text (the seventh form; the later family's looks); each row that meets fmt, with fmt's text TOLD by the authors' own Lean function (tested against real Go, not proved from fmt's source: count such statements apart). THE CARD IS WHAT COUNTS. Prove the row's statement (the work); the ties are given (YtedglpfdibamdaaGreatDoorTie.lean); close each card by the builder's one call (the guide's Derived/Test/ToyasCard.lean, 'card_holds'). Laid BY PROGRAM, IN A SANDBOX (cutbox-door.mjs). By AI agents, Wed Nov 11 2026. No macro, syntax, notation, axiom, sorry.
-/
import Derived.Test.YtedglpfdibamdaaGreatDoorRows
import GoSem.ClaimSeven
namespace Go.Proofs.YtedglpfdibamdaaGreatDoor
namespace Rows

/-- THE TIED CARD OF 'cordonlaw12.PolicyPlain'. -/
def policyPlainCard : Claim7 := { stood := { row := policyPlainRow, standIns := [], harness := (true, "3bf58c18faf143bdb874d6ce882f157712fa63a58c6435f7fcc692a45631118d"), looks := false }, kinds := [], alts := [], laidByText := true, laidKinds := [.data, .data, .data, .data, .pinned], laidTests := true, laidLooks := .later }
def PolicyPlainCardSaid : Prop := Claim7.holds Tryz.pinned (.plain (OpenSpec.ofChange policyPlainSpec)) policyPlainCard

/-- THE TIED CARD OF 'cordonlaw12.PolicyBack'. -/
def policyBackCard : Claim7 := { stood := { row := policyBackRow, standIns := [], harness := (true, "3bf58c18faf143bdb874d6ce882f157712fa63a58c6435f7fcc692a45631118d"), looks := false }, kinds := [], alts := [], laidByText := true, laidKinds := [.data, .data, .data, .data, .pinned], laidTests := true, laidLooks := .later }
def PolicyBackCardSaid : Prop := Claim7.holds Tryz.pinned (.plain (OpenSpec.ofChange policyBackSpec)) policyBackCard

/-- THE TIED CARD OF 'cordonlaw12.PolicyCovers'. -/
def policyCoversCard : Claim7 := { stood := { row := policyCoversRow, standIns := [], harness := (true, "3bf58c18faf143bdb874d6ce882f157712fa63a58c6435f7fcc692a45631118d"), looks := false }, kinds := [], alts := [], laidByText := true, laidKinds := [.data, .data, .data, .data, .pinned], laidTests := true, laidLooks := .later }
def PolicyCoversCardSaid : Prop := Claim7.holds Tryz.pinned (.plain (OpenSpec.ofChange policyCoversSpec)) policyCoversCard

/-- THE SECOND FORM's CARD OF 'cordonlaw12.PolicyPlain'. -/
def policyPlainUptoCard : Claim7 := { stood := { row := policyPlainUptoRow, standIns := [], harness := (true, "3bf58c18faf143bdb874d6ce882f157712fa63a58c6435f7fcc692a45631118d"), looks := false }, kinds := [], alts := [], laidByText := true, laidKinds := [.data, .data, .data, .data, .pinned], laidTests := true, laidLooks := .later }
def PolicyPlainUptoCardSaid : Prop := Claim7.holds Tryz.pinned (.plain (OpenSpec.upto policyPlainSpec)) policyPlainUptoCard

/-- THE SECOND FORM's CARD OF 'cordonlaw12.PolicyBack'. -/
def policyBackUptoCard : Claim7 := { stood := { row := policyBackUptoRow, standIns := [], harness := (true, "3bf58c18faf143bdb874d6ce882f157712fa63a58c6435f7fcc692a45631118d"), looks := false }, kinds := [], alts := [], laidByText := true, laidKinds := [.data, .data, .data, .data, .pinned], laidTests := true, laidLooks := .later }
def PolicyBackUptoCardSaid : Prop := Claim7.holds Tryz.pinned (.plain (OpenSpec.upto policyBackSpec)) policyBackUptoCard

/-- THE SECOND FORM's CARD OF 'cordonlaw12.PolicyCovers'. -/
def policyCoversUptoCard : Claim7 := { stood := { row := policyCoversUptoRow, standIns := [], harness := (true, "3bf58c18faf143bdb874d6ce882f157712fa63a58c6435f7fcc692a45631118d"), looks := false }, kinds := [], alts := [], laidByText := true, laidKinds := [.data, .data, .data, .data, .pinned], laidTests := true, laidLooks := .later }
def PolicyCoversUptoCardSaid : Prop := Claim7.holds Tryz.pinned (.plain (OpenSpec.upto policyCoversSpec)) policyCoversUptoCard
end Rows
end Go.Proofs.YtedglpfdibamdaaGreatDoor
