/-
  DERIVED. GIVEN WITH THE SEED: THE CARDS: each row of YtajojgimbagjoaaGreatDoorRows.lean that lists a variable, with what it lists TIED to the program's text (the seventh form; the later family's looks); each row that meets fmt, with fmt's text TOLD by the authors' own Lean function (tested against real Go, not proved from fmt's source: count such statements apart). THE CARD IS WHAT COUNTS. Prove the row's statement (the work); the ties are given (YtajojgimbagjoaaGreatDoorTie.lean); close each card by the builder's one call (the guide's Derived/Test/ToyasCard.lean, 'card_holds'). Laid BY PROGRAM, IN A SANDBOX (cutbox-door.mjs). By AI agents, Wed Nov 11 2026. No macro, syntax, notation, axiom, sorry.
-/
import Derived.Test.YtajojgimbagjoaaGreatDoorRows
import GoSem.ClaimSeven
namespace Go.Proofs.YtajojgimbagjoaaGreatDoor
namespace Rows

/-- THE TIED CARD OF 'cordonlaw06.OriginOf'. -/
def originOfCard : Claim7 := { stood := { row := originOfRow, standIns := [], harness := (true, "c5340a6aa520a71f3fdbfd8b94becfeb67aea9ee68f6dfbc68cd4f178614f633"), looks := false }, kinds := [], alts := [], laidByText := true, laidKinds := [.data, .data, .data], laidTests := true, laidLooks := .later }
def OriginOfCardSaid : Prop := Claim7.holds Tryz.pinned (.plain (OpenSpec.ofChange originOfSpec)) originOfCard

/-- THE SECOND FORM's CARD OF 'cordonlaw06.OriginOf'. -/
def originOfUptoCard : Claim7 := { stood := { row := originOfUptoRow, standIns := [], harness := (true, "c5340a6aa520a71f3fdbfd8b94becfeb67aea9ee68f6dfbc68cd4f178614f633"), looks := false }, kinds := [], alts := [], laidByText := true, laidKinds := [.data, .data, .data], laidTests := true, laidLooks := .later }
def OriginOfUptoCardSaid : Prop := Claim7.holds Tryz.pinned (.plain (OpenSpec.upto originOfSpec)) originOfUptoCard
end Rows
end Go.Proofs.YtajojgimbagjoaaGreatDoor
