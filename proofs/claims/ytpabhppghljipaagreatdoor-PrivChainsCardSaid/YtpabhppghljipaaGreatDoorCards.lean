/-
  DERIVED. GIVEN WITH THE SEED: THE CARDS: each row of YtpabhppghljipaaGreatDoorRows.lean that lists a variable, with what it lists TIED to the program's text (the seventh form; the later family's looks); each row that meets fmt, with fmt's text TOLD by the authors' own Lean function (tested against real Go, not proved from fmt's source: count such statements apart). THE CARD IS WHAT COUNTS. Prove the row's statement (the work); the ties are given (YtpabhppghljipaaGreatDoorTie.lean); close each card by the builder's one call (the guide's Derived/Test/ToyasCard.lean, 'card_holds'). Laid BY PROGRAM, IN A SANDBOX (cutbox-door.mjs). By AI agents, Wed Nov 11 2026. No macro, syntax, notation, axiom, sorry.
-/
import Derived.Test.YtpabhppghljipaaGreatDoorRows
import GoSem.ClaimSeven
namespace Go.Proofs.YtpabhppghljipaaGreatDoor
namespace Rows

/-- THE TIED CARD OF 'cordonlaw10.PrivFlows'. -/
def privFlowsCard : Claim7 := { stood := { row := privFlowsRow, standIns := [], harness := (true, "075e16369d29d911794b517a52bfab75beead62df9aa21faadfd860f5b5fecdf"), looks := false }, kinds := [], alts := [], laidByText := true, laidKinds := [.data, .data, .data, .data, .pinned], laidTests := true, laidLooks := .later }
def PrivFlowsCardSaid : Prop := Claim7.holds Tryz.pinned (.plain (OpenSpec.ofChange privFlowsSpec)) privFlowsCard

/-- THE TIED CARD OF 'cordonlaw10.PrivMeans'. -/
def privMeansCard : Claim7 := { stood := { row := privMeansRow, standIns := [], harness := (true, "075e16369d29d911794b517a52bfab75beead62df9aa21faadfd860f5b5fecdf"), looks := false }, kinds := [], alts := [], laidByText := true, laidKinds := [.data, .data, .data, .data, .pinned], laidTests := true, laidLooks := .later }
def PrivMeansCardSaid : Prop := Claim7.holds Tryz.pinned (.plain (OpenSpec.ofChange privMeansSpec)) privMeansCard

/-- THE TIED CARD OF 'cordonlaw10.PrivMore'. -/
def privMoreCard : Claim7 := { stood := { row := privMoreRow, standIns := [], harness := (true, "075e16369d29d911794b517a52bfab75beead62df9aa21faadfd860f5b5fecdf"), looks := false }, kinds := [], alts := [], laidByText := true, laidKinds := [.data, .data, .data, .data, .pinned], laidTests := true, laidLooks := .later }
def PrivMoreCardSaid : Prop := Claim7.holds Tryz.pinned (.plain (OpenSpec.ofChange privMoreSpec)) privMoreCard

/-- THE TIED CARD OF 'cordonlaw10.PrivLeast'. -/
def privLeastCard : Claim7 := { stood := { row := privLeastRow, standIns := [], harness := (true, "075e16369d29d911794b517a52bfab75beead62df9aa21faadfd860f5b5fecdf"), looks := false }, kinds := [], alts := [], laidByText := true, laidKinds := [.data, .data, .data, .data, .pinned], laidTests := true, laidLooks := .later }
def PrivLeastCardSaid : Prop := Claim7.holds Tryz.pinned (.plain (OpenSpec.ofChange privLeastSpec)) privLeastCard

/-- THE TIED CARD OF 'cordonlaw10.PrivChains'. -/
def privChainsCard : Claim7 := { stood := { row := privChainsRow, standIns := [], harness := (true, "075e16369d29d911794b517a52bfab75beead62df9aa21faadfd860f5b5fecdf"), looks := false }, kinds := [], alts := [], laidByText := true, laidKinds := [.data, .data, .data, .data, .pinned], laidTests := true, laidLooks := .later }
def PrivChainsCardSaid : Prop := Claim7.holds Tryz.pinned (.plain (OpenSpec.ofChange privChainsSpec)) privChainsCard

/-- THE SECOND FORM's CARD OF 'cordonlaw10.PrivFlows'. -/
def privFlowsUptoCard : Claim7 := { stood := { row := privFlowsUptoRow, standIns := [], harness := (true, "075e16369d29d911794b517a52bfab75beead62df9aa21faadfd860f5b5fecdf"), looks := false }, kinds := [], alts := [], laidByText := true, laidKinds := [.data, .data, .data, .data, .pinned], laidTests := true, laidLooks := .later }
def PrivFlowsUptoCardSaid : Prop := Claim7.holds Tryz.pinned (.plain (OpenSpec.upto privFlowsSpec)) privFlowsUptoCard

/-- THE SECOND FORM's CARD OF 'cordonlaw10.PrivMeans'. -/
def privMeansUptoCard : Claim7 := { stood := { row := privMeansUptoRow, standIns := [], harness := (true, "075e16369d29d911794b517a52bfab75beead62df9aa21faadfd860f5b5fecdf"), looks := false }, kinds := [], alts := [], laidByText := true, laidKinds := [.data, .data, .data, .data, .pinned], laidTests := true, laidLooks := .later }
def PrivMeansUptoCardSaid : Prop := Claim7.holds Tryz.pinned (.plain (OpenSpec.upto privMeansSpec)) privMeansUptoCard

/-- THE SECOND FORM's CARD OF 'cordonlaw10.PrivMore'. -/
def privMoreUptoCard : Claim7 := { stood := { row := privMoreUptoRow, standIns := [], harness := (true, "075e16369d29d911794b517a52bfab75beead62df9aa21faadfd860f5b5fecdf"), looks := false }, kinds := [], alts := [], laidByText := true, laidKinds := [.data, .data, .data, .data, .pinned], laidTests := true, laidLooks := .later }
def PrivMoreUptoCardSaid : Prop := Claim7.holds Tryz.pinned (.plain (OpenSpec.upto privMoreSpec)) privMoreUptoCard

/-- THE SECOND FORM's CARD OF 'cordonlaw10.PrivLeast'. -/
def privLeastUptoCard : Claim7 := { stood := { row := privLeastUptoRow, standIns := [], harness := (true, "075e16369d29d911794b517a52bfab75beead62df9aa21faadfd860f5b5fecdf"), looks := false }, kinds := [], alts := [], laidByText := true, laidKinds := [.data, .data, .data, .data, .pinned], laidTests := true, laidLooks := .later }
def PrivLeastUptoCardSaid : Prop := Claim7.holds Tryz.pinned (.plain (OpenSpec.upto privLeastSpec)) privLeastUptoCard

/-- THE SECOND FORM's CARD OF 'cordonlaw10.PrivChains'. -/
def privChainsUptoCard : Claim7 := { stood := { row := privChainsUptoRow, standIns := [], harness := (true, "075e16369d29d911794b517a52bfab75beead62df9aa21faadfd860f5b5fecdf"), looks := false }, kinds := [], alts := [], laidByText := true, laidKinds := [.data, .data, .data, .data, .pinned], laidTests := true, laidLooks := .later }
def PrivChainsUptoCardSaid : Prop := Claim7.holds Tryz.pinned (.plain (OpenSpec.upto privChainsSpec)) privChainsUptoCard
end Rows
end Go.Proofs.YtpabhppghljipaaGreatDoor
