/-
  DERIVED. GIVEN WITH THE SEED: THE CARDS: each row of YtniehbjoogaccaaGreatDoorRows.lean that lists a variable, with what it lists TIED to the program's text (the seventh form; the later family's looks); each row that meets fmt, with fmt's text TOLD by the authors' own Lean function (tested against real Go, not proved from fmt's source: count such statements apart). THE CARD IS WHAT COUNTS. Prove the row's statement (the work); the ties are given (YtniehbjoogaccaaGreatDoorTie.lean); close each card by the builder's one call (the guide's Derived/Test/ToyasCard.lean, 'card_holds'). Laid BY PROGRAM, IN A SANDBOX (cutbox-door.mjs). By AI agents, Wed Nov 11 2026. No macro, syntax, notation, axiom, sorry.
-/
import Derived.Test.YtniehbjoogaccaaGreatDoorRows
import GoSem.ClaimSeven
namespace Go.Proofs.YtniehbjoogaccaaGreatDoor
namespace Rows

/-- THE TIED CARD OF 'cordonlaw14.JarPlays'. -/
def jarPlaysCard : Claim7 := { stood := { row := jarPlaysRow, standIns := [], harness := (true, "24c30762c304c91eea1c8603aba8ea56cc881ecd49ce95f0d59af3fb64f199c6"), looks := true }, kinds := [], alts := [], laidByText := true, laidKinds := [.data, .data, .data], laidTests := true, laidLooks := .later }
def JarPlaysCardSaid : Prop := Claim7.holds Tryz.pinned (.plain (OpenSpec.ofChange jarPlaysSpec)) jarPlaysCard

/-- THE TIED CARD OF 'cordonlaw14.JarApart'. -/
def jarApartCard : Claim7 := { stood := { row := jarApartRow, standIns := [], harness := (true, "24c30762c304c91eea1c8603aba8ea56cc881ecd49ce95f0d59af3fb64f199c6"), looks := true }, kinds := [], alts := [], laidByText := true, laidKinds := [.data, .data, .data], laidTests := true, laidLooks := .later }
def JarApartCardSaid : Prop := Claim7.holds Tryz.pinned (.plain (OpenSpec.ofChange jarApartSpec)) jarApartCard

/-- THE TIED CARD OF 'cordonlaw14.JarSets'. -/
def jarSetsCard : Claim7 := { stood := { row := jarSetsRow, standIns := [], harness := (true, "24c30762c304c91eea1c8603aba8ea56cc881ecd49ce95f0d59af3fb64f199c6"), looks := true }, kinds := [], alts := [], laidByText := true, laidKinds := [.data, .data, .data], laidTests := true, laidLooks := .later }
def JarSetsCardSaid : Prop := Claim7.holds Tryz.pinned (.plain (OpenSpec.ofChange jarSetsSpec)) jarSetsCard

/-- THE TIED CARD OF 'cordonlaw14.JarCopies'. -/
def jarCopiesCard : Claim7 := { stood := { row := jarCopiesRow, standIns := [], harness := (true, "24c30762c304c91eea1c8603aba8ea56cc881ecd49ce95f0d59af3fb64f199c6"), looks := true }, kinds := [], alts := [], laidByText := true, laidKinds := [.data, .data, .data], laidTests := true, laidLooks := .later }
def JarCopiesCardSaid : Prop := Claim7.holds Tryz.pinned (.plain (OpenSpec.ofChange jarCopiesSpec)) jarCopiesCard

/-- THE SECOND FORM's CARD OF 'cordonlaw14.JarPlays'. -/
def jarPlaysUptoCard : Claim7 := { stood := { row := jarPlaysUptoRow, standIns := [], harness := (true, "24c30762c304c91eea1c8603aba8ea56cc881ecd49ce95f0d59af3fb64f199c6"), looks := true }, kinds := [], alts := [], laidByText := true, laidKinds := [.data, .data, .data], laidTests := true, laidLooks := .later }
def JarPlaysUptoCardSaid : Prop := Claim7.holds Tryz.pinned (.plain (OpenSpec.upto jarPlaysSpec)) jarPlaysUptoCard

/-- THE SECOND FORM's CARD OF 'cordonlaw14.JarApart'. -/
def jarApartUptoCard : Claim7 := { stood := { row := jarApartUptoRow, standIns := [], harness := (true, "24c30762c304c91eea1c8603aba8ea56cc881ecd49ce95f0d59af3fb64f199c6"), looks := true }, kinds := [], alts := [], laidByText := true, laidKinds := [.data, .data, .data], laidTests := true, laidLooks := .later }
def JarApartUptoCardSaid : Prop := Claim7.holds Tryz.pinned (.plain (OpenSpec.upto jarApartSpec)) jarApartUptoCard

/-- THE SECOND FORM's CARD OF 'cordonlaw14.JarSets'. -/
def jarSetsUptoCard : Claim7 := { stood := { row := jarSetsUptoRow, standIns := [], harness := (true, "24c30762c304c91eea1c8603aba8ea56cc881ecd49ce95f0d59af3fb64f199c6"), looks := true }, kinds := [], alts := [], laidByText := true, laidKinds := [.data, .data, .data], laidTests := true, laidLooks := .later }
def JarSetsUptoCardSaid : Prop := Claim7.holds Tryz.pinned (.plain (OpenSpec.upto jarSetsSpec)) jarSetsUptoCard

/-- THE SECOND FORM's CARD OF 'cordonlaw14.JarCopies'. -/
def jarCopiesUptoCard : Claim7 := { stood := { row := jarCopiesUptoRow, standIns := [], harness := (true, "24c30762c304c91eea1c8603aba8ea56cc881ecd49ce95f0d59af3fb64f199c6"), looks := true }, kinds := [], alts := [], laidByText := true, laidKinds := [.data, .data, .data], laidTests := true, laidLooks := .later }
def JarCopiesUptoCardSaid : Prop := Claim7.holds Tryz.pinned (.plain (OpenSpec.upto jarCopiesSpec)) jarCopiesUptoCard
end Rows
end Go.Proofs.YtniehbjoogaccaaGreatDoor
