/-
  DERIVED. GIVEN WITH THE SEED: THE CARDS: each row of YtkjkfgmoogbdiaaGreatDoorRows.lean that lists a variable, with what it lists TIED to the program's text (the seventh form; the later family's looks); each row that meets fmt, with fmt's text TOLD by the authors' own Lean function (tested against real Go, not proved from fmt's source: count such statements apart). THE CARD IS WHAT COUNTS. Prove the row's statement (the work); the ties are given (YtkjkfgmoogbdiaaGreatDoorTie.lean); close each card by the builder's one call (the guide's Derived/Test/ToyasCard.lean, 'card_holds'). Laid BY PROGRAM, IN A SANDBOX (cutbox-door.mjs). By AI agents, Wed Nov 11 2026. No macro, syntax, notation, axiom, sorry.
-/
import Derived.Test.YtkjkfgmoogbdiaaGreatDoorRows
import GoSem.ClaimSeven
namespace Go.Proofs.YtkjkfgmoogbdiaaGreatDoor
namespace Rows

/-- THE TIED CARD OF 'cordonlaw16.BlobPlays'. -/
def blobPlaysCard : Claim7 := { stood := { row := blobPlaysRow, standIns := [], harness := (true, "1bbf9731e1990a95fe33c39a030eb69865ae9a741179b5f48800f6f8dd1808f4"), looks := false }, kinds := [], alts := [], laidByText := true, laidKinds := [.data, .data, .data, .data, .pinned], laidTests := true, laidLooks := .later }
def BlobPlaysCardSaid : Prop := Claim7.holds Tryz.pinned (.plain (OpenSpec.ofChange blobPlaysSpec)) blobPlaysCard

/-- THE TIED CARD OF 'cordonlaw16.BlobSees'. -/
def blobSeesCard : Claim7 := { stood := { row := blobSeesRow, standIns := [], harness := (true, "1bbf9731e1990a95fe33c39a030eb69865ae9a741179b5f48800f6f8dd1808f4"), looks := false }, kinds := [], alts := [], laidByText := true, laidKinds := [.data, .data, .data, .data, .pinned], laidTests := true, laidLooks := .later }
def BlobSeesCardSaid : Prop := Claim7.holds Tryz.pinned (.plain (OpenSpec.ofChange blobSeesSpec)) blobSeesCard

/-- THE TIED CARD OF 'cordonlaw16.BlobCopies'. -/
def blobCopiesCard : Claim7 := { stood := { row := blobCopiesRow, standIns := [], harness := (true, "1bbf9731e1990a95fe33c39a030eb69865ae9a741179b5f48800f6f8dd1808f4"), looks := false }, kinds := [], alts := [], laidByText := true, laidKinds := [.data, .data, .data, .data, .pinned], laidTests := true, laidLooks := .later }
def BlobCopiesCardSaid : Prop := Claim7.holds Tryz.pinned (.plain (OpenSpec.ofChange blobCopiesSpec)) blobCopiesCard

/-- THE SECOND FORM's CARD OF 'cordonlaw16.BlobPlays'. -/
def blobPlaysUptoCard : Claim7 := { stood := { row := blobPlaysUptoRow, standIns := [], harness := (true, "1bbf9731e1990a95fe33c39a030eb69865ae9a741179b5f48800f6f8dd1808f4"), looks := false }, kinds := [], alts := [], laidByText := true, laidKinds := [.data, .data, .data, .data, .pinned], laidTests := true, laidLooks := .later }
def BlobPlaysUptoCardSaid : Prop := Claim7.holds Tryz.pinned (.plain (OpenSpec.upto blobPlaysSpec)) blobPlaysUptoCard

/-- THE SECOND FORM's CARD OF 'cordonlaw16.BlobSees'. -/
def blobSeesUptoCard : Claim7 := { stood := { row := blobSeesUptoRow, standIns := [], harness := (true, "1bbf9731e1990a95fe33c39a030eb69865ae9a741179b5f48800f6f8dd1808f4"), looks := false }, kinds := [], alts := [], laidByText := true, laidKinds := [.data, .data, .data, .data, .pinned], laidTests := true, laidLooks := .later }
def BlobSeesUptoCardSaid : Prop := Claim7.holds Tryz.pinned (.plain (OpenSpec.upto blobSeesSpec)) blobSeesUptoCard

/-- THE SECOND FORM's CARD OF 'cordonlaw16.BlobCopies'. -/
def blobCopiesUptoCard : Claim7 := { stood := { row := blobCopiesUptoRow, standIns := [], harness := (true, "1bbf9731e1990a95fe33c39a030eb69865ae9a741179b5f48800f6f8dd1808f4"), looks := false }, kinds := [], alts := [], laidByText := true, laidKinds := [.data, .data, .data, .data, .pinned], laidTests := true, laidLooks := .later }
def BlobCopiesUptoCardSaid : Prop := Claim7.holds Tryz.pinned (.plain (OpenSpec.upto blobCopiesSpec)) blobCopiesUptoCard
end Rows
end Go.Proofs.YtkjkfgmoogbdiaaGreatDoor
