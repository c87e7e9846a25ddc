/-
  DERIVED. GIVEN WITH THE SEED: THE CARDS: each row of YtajojgimbagjoaaDoorRows.lean that lists a variable, with what it lists TIED to the program's text (the seventh form; the later family's looks); each row that meets fmt, with fmt's text TOLD by the authors' own Lean function (tested against real Go, not proved from fmt's source: count such statements apart). THE CARD IS WHAT COUNTS. Prove the row's statement (the work); the ties are given (YtajojgimbagjoaaDoorTie.lean); close each card by the builder's one call (the guide's Derived/Test/ToyasCard.lean, 'card_holds'). Laid BY PROGRAM, IN A SANDBOX (cutbox-door.mjs). By AI agents, Wed Nov 11 2026. No macro, syntax, notation, axiom, sorry.
-/
import Derived.Test.YtajojgimbagjoaaDoorRows
import GoSem.ClaimSeven
namespace Go.Proofs.YtajojgimbagjoaaDoor
namespace Rows

/-- THE TIED CARD OF 'cordonlaw06.OriginBack'. -/
def originBackCard : Claim7 := { stood := { row := originBackRow, standIns := [], harness := (true, "ffa5d83624a60887de26b15581c858b1259ccfbd5ade8993023d2bf2ab534874"), looks := false }, kinds := [], alts := [], laidByText := true, laidKinds := [.data, .data, .data, .data, .pinned], laidTests := true, laidLooks := .later }
def OriginBackCardSaid : Prop := Claim7.holds Tryd.pinned (.plain (OpenSpec.ofChange originBackSpec)) originBackCard

/-- THE TIED CARD OF 'cordonlaw06.OriginApart'. -/
def originApartCard : Claim7 := { stood := { row := originApartRow, standIns := [], harness := (true, "ffa5d83624a60887de26b15581c858b1259ccfbd5ade8993023d2bf2ab534874"), looks := false }, kinds := [], alts := [], laidByText := true, laidKinds := [.data, .data, .data], laidTests := true, laidLooks := .later }
def OriginApartCardSaid : Prop := Claim7.holds Tryd.pinned (.plain (OpenSpec.ofChange originApartSpec)) originApartCard

/-- THE SECOND FORM's CARD OF 'cordonlaw06.OriginBack'. -/
def originBackUptoCard : Claim7 := { stood := { row := originBackUptoRow, standIns := [], harness := (true, "ffa5d83624a60887de26b15581c858b1259ccfbd5ade8993023d2bf2ab534874"), looks := false }, kinds := [], alts := [], laidByText := true, laidKinds := [.data, .data, .data, .data, .pinned], laidTests := true, laidLooks := .later }
def OriginBackUptoCardSaid : Prop := Claim7.holds Tryd.pinned (.plain (OpenSpec.upto originBackSpec)) originBackUptoCard

/-- THE SECOND FORM's CARD OF 'cordonlaw06.OriginApart'. -/
def originApartUptoCard : Claim7 := { stood := { row := originApartUptoRow, standIns := [], harness := (true, "ffa5d83624a60887de26b15581c858b1259ccfbd5ade8993023d2bf2ab534874"), looks := false }, kinds := [], alts := [], laidByText := true, laidKinds := [.data, .data, .data], laidTests := true, laidLooks := .later }
def OriginApartUptoCardSaid : Prop := Claim7.holds Tryd.pinned (.plain (OpenSpec.upto originApartSpec)) originApartUptoCard
end Rows
end Go.Proofs.YtajojgimbagjoaaDoor
