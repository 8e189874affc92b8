/-
  DERIVED. GIVEN WITH THE SEED: THE CARDS: each row of YtidahfhingdlmaaGreatDoorRows.lean that lists a variable, with what it lists TIED to the program's text (the seventh form; the later family's looks); each row that meets fmt, with fmt's text TOLD by the authors' own Lean function (tested against real Go, not proved from fmt's source: count such statements apart). THE CARD IS WHAT COUNTS. Prove the row's statement (the work); the ties are given (YtidahfhingdlmaaGreatDoorTie.lean); close each card by the builder's one call (the guide's Derived/Test/ToyasCard.lean, 'card_holds'). Laid BY PROGRAM, IN A SANDBOX (cutbox-door.mjs). By AI agents, Wed Nov 11 2026. No macro, syntax, notation, axiom, sorry.
-/
import Derived.Test.YtidahfhingdlmaaGreatDoorRows
import GoSem.ClaimSeven
namespace Go.Proofs.YtidahfhingdlmaaGreatDoor
namespace Rows

/-- THE TIED CARD OF 'gavelhouselaw3.VenueTold'. -/
def venueToldCard : Claim7 := { stood := { row := venueToldRow, standIns := [], harness := (true, "74c3e297e0fd57978ff911678f981bb4824df0240afbfd4e0f71456e990ce7cb"), looks := true }, kinds := [], alts := [], laidByText := true, laidKinds := [.data, .data, .data, .handle, .sentinel, .sentinel, .sentinel, .sentinel, .sentinel, .sentinel, .sentinel, .sentinel, .sentinel, .sentinel, .sentinel, .sentinel], laidTests := true, laidLooks := .later }
def VenueToldCardSaid : Prop := Claim7.holds Tryz.pinned (.plain (OpenSpec.ofChange venueToldSpec)) venueToldCard

/-- THE TIED CARD OF 'gavelhouselaw3.VenueKeeps'. -/
def venueKeepsCard : Claim7 := { stood := { row := venueKeepsRow, standIns := [], harness := (true, "74c3e297e0fd57978ff911678f981bb4824df0240afbfd4e0f71456e990ce7cb"), looks := true }, kinds := [], alts := [], laidByText := true, laidKinds := [.data, .data, .data, .handle, .sentinel, .sentinel, .sentinel, .sentinel, .sentinel, .sentinel, .sentinel, .sentinel, .sentinel, .sentinel, .sentinel, .sentinel], laidTests := true, laidLooks := .later }
def VenueKeepsCardSaid : Prop := Claim7.holds Tryz.pinned (.plain (OpenSpec.ofChange venueKeepsSpec)) venueKeepsCard

/-- THE TIED CARD OF 'gavelhouselaw3.VenueParts'. -/
def venuePartsCard : Claim7 := { stood := { row := venuePartsRow, standIns := [], harness := (true, "74c3e297e0fd57978ff911678f981bb4824df0240afbfd4e0f71456e990ce7cb"), looks := true }, kinds := [], alts := [], laidByText := true, laidKinds := [.data, .data, .data, .handle, .sentinel, .sentinel, .sentinel, .sentinel, .sentinel, .sentinel, .sentinel, .sentinel, .sentinel, .sentinel, .sentinel, .sentinel], laidTests := true, laidLooks := .later }
def VenuePartsCardSaid : Prop := Claim7.holds Tryz.pinned (.plain (OpenSpec.ofChange venuePartsSpec)) venuePartsCard

/-- THE TIED CARD OF 'gavelhouselaw3.RecoverReads'. -/
def recoverReadsCard : Claim7 := { stood := { row := recoverReadsRow, standIns := [], harness := (true, "74c3e297e0fd57978ff911678f981bb4824df0240afbfd4e0f71456e990ce7cb"), looks := true }, kinds := [], alts := [], laidByText := true, laidKinds := [.data, .data, .data, .data, .handle, .sentinel, .sentinel, .sentinel, .sentinel, .sentinel, .sentinel, .sentinel, .sentinel, .sentinel, .sentinel, .sentinel, .sentinel, .sentinel, .sentinel, .pinned], laidTests := true, laidLooks := .later }
def RecoverReadsCardSaid : Prop := Claim7.holds Tryz.pinned (.plain (OpenSpec.ofChange recoverReadsSpec)) recoverReadsCard

/-- THE TIED CARD OF 'gavelhouselaw3.RecoverKeeps'. -/
def recoverKeepsCard : Claim7 := { stood := { row := recoverKeepsRow, standIns := [], harness := (true, "74c3e297e0fd57978ff911678f981bb4824df0240afbfd4e0f71456e990ce7cb"), looks := true }, kinds := [], alts := [], laidByText := true, laidKinds := [.data, .data, .data, .data, .handle, .sentinel, .sentinel, .sentinel, .sentinel, .sentinel, .sentinel, .sentinel, .sentinel, .sentinel, .sentinel, .sentinel, .sentinel, .sentinel, .sentinel, .pinned], laidTests := true, laidLooks := .later }
def RecoverKeepsCardSaid : Prop := Claim7.holds Tryz.pinned (.plain (OpenSpec.ofChange recoverKeepsSpec)) recoverKeepsCard

/-- THE SECOND FORM's CARD OF 'gavelhouselaw3.VenueTold'. -/
def venueToldUptoCard : Claim7 := { stood := { row := venueToldUptoRow, standIns := [], harness := (true, "74c3e297e0fd57978ff911678f981bb4824df0240afbfd4e0f71456e990ce7cb"), looks := true }, kinds := [], alts := [], laidByText := true, laidKinds := [.data, .data, .data, .handle, .sentinel, .sentinel, .sentinel, .sentinel, .sentinel, .sentinel, .sentinel, .sentinel, .sentinel, .sentinel, .sentinel, .sentinel], laidTests := true, laidLooks := .later }
def VenueToldUptoCardSaid : Prop := Claim7.holds Tryz.pinned (.plain (OpenSpec.upto venueToldSpec)) venueToldUptoCard

/-- THE SECOND FORM's CARD OF 'gavelhouselaw3.VenueKeeps'. -/
def venueKeepsUptoCard : Claim7 := { stood := { row := venueKeepsUptoRow, standIns := [], harness := (true, "74c3e297e0fd57978ff911678f981bb4824df0240afbfd4e0f71456e990ce7cb"), looks := true }, kinds := [], alts := [], laidByText := true, laidKinds := [.data, .data, .data, .handle, .sentinel, .sentinel, .sentinel, .sentinel, .sentinel, .sentinel, .sentinel, .sentinel, .sentinel, .sentinel, .sentinel, .sentinel], laidTests := true, laidLooks := .later }
def VenueKeepsUptoCardSaid : Prop := Claim7.holds Tryz.pinned (.plain (OpenSpec.upto venueKeepsSpec)) venueKeepsUptoCard

/-- THE SECOND FORM's CARD OF 'gavelhouselaw3.VenueParts'. -/
def venuePartsUptoCard : Claim7 := { stood := { row := venuePartsUptoRow, standIns := [], harness := (true, "74c3e297e0fd57978ff911678f981bb4824df0240afbfd4e0f71456e990ce7cb"), looks := true }, kinds := [], alts := [], laidByText := true, laidKinds := [.data, .data, .data, .handle, .sentinel, .sentinel, .sentinel, .sentinel, .sentinel, .sentinel, .sentinel, .sentinel, .sentinel, .sentinel, .sentinel, .sentinel], laidTests := true, laidLooks := .later }
def VenuePartsUptoCardSaid : Prop := Claim7.holds Tryz.pinned (.plain (OpenSpec.upto venuePartsSpec)) venuePartsUptoCard

/-- THE SECOND FORM's CARD OF 'gavelhouselaw3.RecoverReads'. -/
def recoverReadsUptoCard : Claim7 := { stood := { row := recoverReadsUptoRow, standIns := [], harness := (true, "74c3e297e0fd57978ff911678f981bb4824df0240afbfd4e0f71456e990ce7cb"), looks := true }, kinds := [], alts := [], laidByText := true, laidKinds := [.data, .data, .data, .data, .handle, .sentinel, .sentinel, .sentinel, .sentinel, .sentinel, .sentinel, .sentinel, .sentinel, .sentinel, .sentinel, .sentinel, .sentinel, .sentinel, .sentinel, .pinned], laidTests := true, laidLooks := .later }
def RecoverReadsUptoCardSaid : Prop := Claim7.holds Tryz.pinned (.plain (OpenSpec.upto recoverReadsSpec)) recoverReadsUptoCard

/-- THE SECOND FORM's CARD OF 'gavelhouselaw3.RecoverKeeps'. -/
def recoverKeepsUptoCard : Claim7 := { stood := { row := recoverKeepsUptoRow, standIns := [], harness := (true, "74c3e297e0fd57978ff911678f981bb4824df0240afbfd4e0f71456e990ce7cb"), looks := true }, kinds := [], alts := [], laidByText := true, laidKinds := [.data, .data, .data, .data, .handle, .sentinel, .sentinel, .sentinel, .sentinel, .sentinel, .sentinel, .sentinel, .sentinel, .sentinel, .sentinel, .sentinel, .sentinel, .sentinel, .sentinel, .pinned], laidTests := true, laidLooks := .later }
def RecoverKeepsUptoCardSaid : Prop := Claim7.holds Tryz.pinned (.plain (OpenSpec.upto recoverKeepsSpec)) recoverKeepsUptoCard
end Rows
end Go.Proofs.YtidahfhingdlmaaGreatDoor
