/-
  DERIVED. GIVEN WITH THE SEED: THE CARDS: each row of YtdbpbfbjebjbeaaDoorRows.lean that lists a variable, with what it lists TIED to the program's text (the seventh form; the later family's looks); each row that meets fmt, with fmt's text TOLD by the authors' own Lean function (tested against real Go, not proved from fmt's source: count such statements apart). THE CARD IS WHAT COUNTS. Prove the row's statement (the work); the ties are given (YtdbpbfbjebjbeaaDoorTie.lean); close each card by the builder's one call (the guide's Derived/Test/ToyasCard.lean, 'card_holds'). Laid BY PROGRAM, IN A SANDBOX (cutbox-door.mjs). By AI agents, Wed Nov 11 2026. No macro, syntax, notation, axiom, sorry.
-/
import Derived.Test.YtdbpbfbjebjbeaaDoorRows
import GoSem.ClaimSeven
namespace Go.Proofs.YtdbpbfbjebjbeaaDoor
namespace Rows

/-- THE TIED CARD OF 'cordonlaw13.CookieBack'. -/
def cookieBackCard : Claim7 := { stood := { row := cookieBackRow, standIns := [], harness := (true, "08d489e49a76cef9d394832bd04f6d7c58cdc692df061477e5d49ff7528ab1e6"), looks := false }, kinds := [], alts := [], laidByText := true, laidKinds := [.data, .data, .data], laidTests := true, laidLooks := .later }
def CookieBackCardSaid : Prop := Claim7.holds Tryd.pinned (.plain (OpenSpec.ofChange cookieBackSpec)) cookieBackCard

/-- THE TIED CARD OF 'cordonlaw13.CookiePaths'. -/
def cookiePathsCard : Claim7 := { stood := { row := cookiePathsRow, standIns := [], harness := (true, "08d489e49a76cef9d394832bd04f6d7c58cdc692df061477e5d49ff7528ab1e6"), looks := false }, kinds := [], alts := [], laidByText := true, laidKinds := [.data, .data, .data], laidTests := true, laidLooks := .later }
def CookiePathsCardSaid : Prop := Claim7.holds Tryd.pinned (.plain (OpenSpec.ofChange cookiePathsSpec)) cookiePathsCard

/-- THE SECOND FORM's CARD OF 'cordonlaw13.CookieBack'. -/
def cookieBackUptoCard : Claim7 := { stood := { row := cookieBackUptoRow, standIns := [], harness := (true, "08d489e49a76cef9d394832bd04f6d7c58cdc692df061477e5d49ff7528ab1e6"), looks := false }, kinds := [], alts := [], laidByText := true, laidKinds := [.data, .data, .data], laidTests := true, laidLooks := .later }
def CookieBackUptoCardSaid : Prop := Claim7.holds Tryd.pinned (.plain (OpenSpec.upto cookieBackSpec)) cookieBackUptoCard

/-- THE SECOND FORM's CARD OF 'cordonlaw13.CookiePaths'. -/
def cookiePathsUptoCard : Claim7 := { stood := { row := cookiePathsUptoRow, standIns := [], harness := (true, "08d489e49a76cef9d394832bd04f6d7c58cdc692df061477e5d49ff7528ab1e6"), looks := false }, kinds := [], alts := [], laidByText := true, laidKinds := [.data, .data, .data], laidTests := true, laidLooks := .later }
def CookiePathsUptoCardSaid : Prop := Claim7.holds Tryd.pinned (.plain (OpenSpec.upto cookiePathsSpec)) cookiePathsUptoCard
end Rows
end Go.Proofs.YtdbpbfbjebjbeaaDoor
