/-
  DERIVED. GIVEN WITH THE SEED: THE CARDS: each row of YtomiebjfpfddhaaDoorRows.lean that lists a variable, with what it lists TIED to the program's text (the seventh form; the later family's looks); each row that meets fmt, with fmt's text TOLD by the authors' own Lean function (tested against real Go, not proved from fmt's source: count such statements apart). THE CARD IS WHAT COUNTS. Prove the row's statement (the work); the ties are given (YtomiebjfpfddhaaDoorTie.lean); close each card by the builder's one call (the guide's Derived/Test/ToyasCard.lean, 'card_holds'). Laid BY PROGRAM, IN A SANDBOX (cutbox-door.mjs). By AI agents, Wed Nov 11 2026. No macro, syntax, notation, axiom, sorry.
-/
import Derived.Test.YtomiebjfpfddhaaDoorRows
import GoSem.ClaimSeven
namespace Go.Proofs.YtomiebjfpfddhaaDoor
namespace Rows

/-- THE TIED CARD OF 'gavelhouselaw1.ClearPrices'. -/
def clearPricesCard : Claim7 := { stood := { row := clearPricesRow, standIns := [], harness := (true, "e6cf370ecd359d0bbf7a46f62a63fee281653284b5cff2f187bd356c6f3495fa"), looks := true }, kinds := [], alts := [], laidByText := true, laidKinds := [.handle, .sentinel, .sentinel, .sentinel, .sentinel, .sentinel, .sentinel, .sentinel, .sentinel, .sentinel, .sentinel, .sentinel, .sentinel], laidTests := true, laidLooks := .later }
def ClearPricesCardSaid : Prop := Claim7.holds Tryd.pinned (.plain (OpenSpec.ofChange clearPricesSpec)) clearPricesCard

/-- THE TIED CARD OF 'gavelhouselaw1.ClearBest'. -/
def clearBestCard : Claim7 := { stood := { row := clearBestRow, standIns := [], harness := (true, "e6cf370ecd359d0bbf7a46f62a63fee281653284b5cff2f187bd356c6f3495fa"), looks := true }, kinds := [], alts := [], laidByText := true, laidKinds := [.sentinel, .sentinel, .sentinel], laidTests := true, laidLooks := .later }
def ClearBestCardSaid : Prop := Claim7.holds Tryd.pinned (.plain (OpenSpec.ofChange clearBestSpec)) clearBestCard

/-- THE TIED CARD OF 'gavelhouselaw1.ClearShifts'. -/
def clearShiftsCard : Claim7 := { stood := { row := clearShiftsRow, standIns := [], harness := (true, "e6cf370ecd359d0bbf7a46f62a63fee281653284b5cff2f187bd356c6f3495fa"), looks := true }, kinds := [], alts := [], laidByText := true, laidKinds := [.sentinel, .sentinel, .sentinel], laidTests := true, laidLooks := .later }
def ClearShiftsCardSaid : Prop := Claim7.holds Tryd.pinned (.plain (OpenSpec.ofChange clearShiftsSpec)) clearShiftsCard

/-- THE TIED CARD OF 'gavelhouselaw2.BandNext'. -/
def bandNextCard : Claim7 := { stood := { row := bandNextRow, standIns := [], harness := (true, "e6cf370ecd359d0bbf7a46f62a63fee281653284b5cff2f187bd356c6f3495fa"), looks := true }, kinds := [], alts := [], laidByText := true, laidKinds := [.handle, .sentinel, .sentinel, .sentinel, .sentinel, .sentinel, .sentinel, .sentinel, .sentinel, .sentinel, .sentinel, .sentinel, .sentinel], laidTests := true, laidLooks := .later }
def BandNextCardSaid : Prop := Claim7.holds Tryd.pinned (.plain (OpenSpec.ofChange bandNextSpec)) bandNextCard

/-- THE TIED CARD OF 'gavelhouselaw2.BandHalts'. -/
def bandHaltsCard : Claim7 := { stood := { row := bandHaltsRow, standIns := [], harness := (true, "e6cf370ecd359d0bbf7a46f62a63fee281653284b5cff2f187bd356c6f3495fa"), looks := true }, kinds := [], alts := [], laidByText := true, laidKinds := [.sentinel], laidTests := true, laidLooks := .later }
def BandHaltsCardSaid : Prop := Claim7.holds Tryd.pinned (.plain (OpenSpec.ofChange bandHaltsSpec)) bandHaltsCard

/-- THE SECOND FORM's CARD OF 'gavelhouselaw1.ClearPrices'. -/
def clearPricesUptoCard : Claim7 := { stood := { row := clearPricesUptoRow, standIns := [], harness := (true, "e6cf370ecd359d0bbf7a46f62a63fee281653284b5cff2f187bd356c6f3495fa"), looks := true }, kinds := [], alts := [], laidByText := true, laidKinds := [.handle, .sentinel, .sentinel, .sentinel, .sentinel, .sentinel, .sentinel, .sentinel, .sentinel, .sentinel, .sentinel, .sentinel, .sentinel], laidTests := true, laidLooks := .later }
def ClearPricesUptoCardSaid : Prop := Claim7.holds Tryd.pinned (.plain (OpenSpec.upto clearPricesSpec)) clearPricesUptoCard

/-- THE SECOND FORM's CARD OF 'gavelhouselaw1.ClearBest'. -/
def clearBestUptoCard : Claim7 := { stood := { row := clearBestUptoRow, standIns := [], harness := (true, "e6cf370ecd359d0bbf7a46f62a63fee281653284b5cff2f187bd356c6f3495fa"), looks := true }, kinds := [], alts := [], laidByText := true, laidKinds := [.sentinel, .sentinel, .sentinel], laidTests := true, laidLooks := .later }
def ClearBestUptoCardSaid : Prop := Claim7.holds Tryd.pinned (.plain (OpenSpec.upto clearBestSpec)) clearBestUptoCard

/-- THE SECOND FORM's CARD OF 'gavelhouselaw1.ClearShifts'. -/
def clearShiftsUptoCard : Claim7 := { stood := { row := clearShiftsUptoRow, standIns := [], harness := (true, "e6cf370ecd359d0bbf7a46f62a63fee281653284b5cff2f187bd356c6f3495fa"), looks := true }, kinds := [], alts := [], laidByText := true, laidKinds := [.sentinel, .sentinel, .sentinel], laidTests := true, laidLooks := .later }
def ClearShiftsUptoCardSaid : Prop := Claim7.holds Tryd.pinned (.plain (OpenSpec.upto clearShiftsSpec)) clearShiftsUptoCard

/-- THE SECOND FORM's CARD OF 'gavelhouselaw2.BandNext'. -/
def bandNextUptoCard : Claim7 := { stood := { row := bandNextUptoRow, standIns := [], harness := (true, "e6cf370ecd359d0bbf7a46f62a63fee281653284b5cff2f187bd356c6f3495fa"), looks := true }, kinds := [], alts := [], laidByText := true, laidKinds := [.handle, .sentinel, .sentinel, .sentinel, .sentinel, .sentinel, .sentinel, .sentinel, .sentinel, .sentinel, .sentinel, .sentinel, .sentinel], laidTests := true, laidLooks := .later }
def BandNextUptoCardSaid : Prop := Claim7.holds Tryd.pinned (.plain (OpenSpec.upto bandNextSpec)) bandNextUptoCard

/-- THE SECOND FORM's CARD OF 'gavelhouselaw2.BandHalts'. -/
def bandHaltsUptoCard : Claim7 := { stood := { row := bandHaltsUptoRow, standIns := [], harness := (true, "e6cf370ecd359d0bbf7a46f62a63fee281653284b5cff2f187bd356c6f3495fa"), looks := true }, kinds := [], alts := [], laidByText := true, laidKinds := [.sentinel], laidTests := true, laidLooks := .later }
def BandHaltsUptoCardSaid : Prop := Claim7.holds Tryd.pinned (.plain (OpenSpec.upto bandHaltsSpec)) bandHaltsUptoCard
end Rows
end Go.Proofs.YtomiebjfpfddhaaDoor
