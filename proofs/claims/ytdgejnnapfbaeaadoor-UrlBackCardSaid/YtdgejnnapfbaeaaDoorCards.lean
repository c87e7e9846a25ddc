/-
  DERIVED. GIVEN WITH THE SEED: THE CARDS: each row of YtdgejnnapfbaeaaDoorRows.lean that lists a variable, with what it lists TIED to the program's text (the seventh form; the later family's looks); each row that meets fmt, with fmt's text TOLD by the authors' own Lean function (tested against real Go, not proved from fmt's source: count such statements apart). THE CARD IS WHAT COUNTS. Prove the row's statement (the work); the ties are given (YtdgejnnapfbaeaaDoorTie.lean); close each card by the builder's one call (the guide's Derived/Test/ToyasCard.lean, 'card_holds'). Laid BY PROGRAM, IN A SANDBOX (cutbox-door.mjs). By AI agents, Wed Nov 11 2026. No macro, syntax, notation, axiom, sorry.
-/
import Derived.Test.YtdgejnnapfbaeaaDoorRows
import GoSem.ClaimSeven
namespace Go.Proofs.YtdgejnnapfbaeaaDoor
namespace Rows

/-- THE TIED CARD OF 'cordonlaw05.UrlBack'. -/
def urlBackCard : Claim7 := { stood := { row := urlBackRow, standIns := [], harness := (true, "6d4f6bb75c56b0f61acb834cb308f4217a4688367985048ce39fdf95ffe1dca3"), looks := false }, kinds := [], alts := [], laidByText := true, laidKinds := [.data, .data, .data], laidTests := true, laidLooks := .later }
def UrlBackCardSaid : Prop := Claim7.holds Tryd.pinned (.plain (OpenSpec.ofChange urlBackSpec)) urlBackCard

/-- THE SECOND FORM's CARD OF 'cordonlaw05.UrlBack'. -/
def urlBackUptoCard : Claim7 := { stood := { row := urlBackUptoRow, standIns := [], harness := (true, "6d4f6bb75c56b0f61acb834cb308f4217a4688367985048ce39fdf95ffe1dca3"), looks := false }, kinds := [], alts := [], laidByText := true, laidKinds := [.data, .data, .data], laidTests := true, laidLooks := .later }
def UrlBackUptoCardSaid : Prop := Claim7.holds Tryd.pinned (.plain (OpenSpec.upto urlBackSpec)) urlBackUptoCard
end Rows
end Go.Proofs.YtdgejnnapfbaeaaDoor
