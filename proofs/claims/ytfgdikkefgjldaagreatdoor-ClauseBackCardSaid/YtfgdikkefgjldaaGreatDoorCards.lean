/-
  DERIVED. GIVEN WITH THE SEED: THE CARDS: each row of YtfgdikkefgjldaaGreatDoorRows.lean that lists a variable, with what it lists TIED to the program's text (the seventh form; the later family's looks); each row that meets fmt, with fmt's text TOLD by the authors' own Lean function (tested against real Go, not proved from fmt's source: count such statements apart). THE CARD IS WHAT COUNTS. Prove the row's statement (the work); the ties are given (YtfgdikkefgjldaaGreatDoorTie.lean); close each card by the builder's one call (the guide's Derived/Test/ToyasCard.lean, 'card_holds'). Laid BY PROGRAM, IN A SANDBOX (cutbox-door.mjs). By AI agents, Wed Nov 11 2026. No macro, syntax, notation, axiom, sorry.
-/
import Derived.Test.YtfgdikkefgjldaaGreatDoorRows
import GoSem.ClaimSeven
namespace Go.Proofs.YtfgdikkefgjldaaGreatDoor
namespace Rows

/-- THE TIED CARD OF 'cordonlaw07.ClauseOf'. -/
def clauseOfCard : Claim7 := { stood := { row := clauseOfRow, standIns := [], harness := (true, "aa61cc9c496d2662914b37eab43d2ee2d877f087278acb7bc0962ef546f71034"), looks := false }, kinds := [], alts := [], laidByText := true, laidKinds := [.data, .data, .data, .data, .pinned], laidTests := true, laidLooks := .later }
def ClauseOfCardSaid : Prop := Claim7.holds Tryz.pinned (.plain (OpenSpec.ofChange clauseOfSpec)) clauseOfCard

/-- THE TIED CARD OF 'cordonlaw07.ClauseTells'. -/
def clauseTellsCard : Claim7 := { stood := { row := clauseTellsRow, standIns := [], harness := (true, "aa61cc9c496d2662914b37eab43d2ee2d877f087278acb7bc0962ef546f71034"), looks := false }, kinds := [], alts := [], laidByText := true, laidKinds := [.data, .data, .data, .data, .pinned], laidTests := true, laidLooks := .later }
def ClauseTellsCardSaid : Prop := Claim7.holds Tryz.pinned (.plain (OpenSpec.ofChange clauseTellsSpec)) clauseTellsCard

/-- THE TIED CARD OF 'cordonlaw07.ClauseBack'. -/
def clauseBackCard : Claim7 := { stood := { row := clauseBackRow, standIns := [], harness := (true, "aa61cc9c496d2662914b37eab43d2ee2d877f087278acb7bc0962ef546f71034"), looks := false }, kinds := [], alts := [], laidByText := true, laidKinds := [.data, .data, .data, .data, .pinned], laidTests := true, laidLooks := .later }
def ClauseBackCardSaid : Prop := Claim7.holds Tryz.pinned (.plain (OpenSpec.ofChange clauseBackSpec)) clauseBackCard

/-- THE SECOND FORM's CARD OF 'cordonlaw07.ClauseOf'. -/
def clauseOfUptoCard : Claim7 := { stood := { row := clauseOfUptoRow, standIns := [], harness := (true, "aa61cc9c496d2662914b37eab43d2ee2d877f087278acb7bc0962ef546f71034"), looks := false }, kinds := [], alts := [], laidByText := true, laidKinds := [.data, .data, .data, .data, .pinned], laidTests := true, laidLooks := .later }
def ClauseOfUptoCardSaid : Prop := Claim7.holds Tryz.pinned (.plain (OpenSpec.upto clauseOfSpec)) clauseOfUptoCard

/-- THE SECOND FORM's CARD OF 'cordonlaw07.ClauseTells'. -/
def clauseTellsUptoCard : Claim7 := { stood := { row := clauseTellsUptoRow, standIns := [], harness := (true, "aa61cc9c496d2662914b37eab43d2ee2d877f087278acb7bc0962ef546f71034"), looks := false }, kinds := [], alts := [], laidByText := true, laidKinds := [.data, .data, .data, .data, .pinned], laidTests := true, laidLooks := .later }
def ClauseTellsUptoCardSaid : Prop := Claim7.holds Tryz.pinned (.plain (OpenSpec.upto clauseTellsSpec)) clauseTellsUptoCard

/-- THE SECOND FORM's CARD OF 'cordonlaw07.ClauseBack'. -/
def clauseBackUptoCard : Claim7 := { stood := { row := clauseBackUptoRow, standIns := [], harness := (true, "aa61cc9c496d2662914b37eab43d2ee2d877f087278acb7bc0962ef546f71034"), looks := false }, kinds := [], alts := [], laidByText := true, laidKinds := [.data, .data, .data, .data, .pinned], laidTests := true, laidLooks := .later }
def ClauseBackUptoCardSaid : Prop := Claim7.holds Tryz.pinned (.plain (OpenSpec.upto clauseBackSpec)) clauseBackUptoCard
end Rows
end Go.Proofs.YtfgdikkefgjldaaGreatDoor
