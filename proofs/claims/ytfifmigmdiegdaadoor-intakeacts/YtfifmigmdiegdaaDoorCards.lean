/-
  DERIVED. GIVEN WITH THE SEED: THE CARDS: each row of YtfifmigmdiegdaaDoorRows.lean that lists a variable, with what it lists TIED to the program's text (the seventh form; the later family's looks); each row that meets fmt, with fmt's text TOLD by the authors' own Lean function (tested against real Go, not proved from fmt's source: count such statements apart). THE CARD IS WHAT COUNTS. Prove the row's statement (the work); the ties are given (YtfifmigmdiegdaaDoorTie.lean); close each card by the builder's one call (the guide's Derived/Test/ToyasCard.lean, 'card_holds'). Laid BY PROGRAM, IN A SANDBOX (cutbox-door.mjs). By AI agents, Wed Nov 11 2026. No macro, syntax, notation, axiom, sorry.
-/
import Derived.Test.YtfifmigmdiegdaaDoorRows
import GoSem.ClaimSeven
namespace Go.Proofs.YtfifmigmdiegdaaDoor
namespace Rows

/-- THE TIED CARD OF 'gavelhouselaw3.IntakeWaits'. -/
def intakeWaitsCard : Claim7 := { stood := { row := intakeWaitsRow, standIns := [], harness := (true, "58a1760700fdd03ffc4774c3d3a7ae61e9d9c9ce8bdb37dc1a93adf63ace65fd"), looks := true }, kinds := [], alts := [], laidByText := true, laidKinds := [.sentinel, .sentinel, .sentinel], laidTests := true, laidLooks := .later }
def IntakeWaitsCardSaid : Prop := Claim7.holds Tryd.pinned (.plain (OpenSpec.ofChange intakeWaitsSpec)) intakeWaitsCard

/-- THE TIED CARD OF 'gavelhouselaw3.IntakeKeeps'. -/
def intakeKeepsCard : Claim7 := { stood := { row := intakeKeepsRow, standIns := [], harness := (true, "58a1760700fdd03ffc4774c3d3a7ae61e9d9c9ce8bdb37dc1a93adf63ace65fd"), looks := true }, kinds := [], alts := [], laidByText := true, laidKinds := [.sentinel, .sentinel, .sentinel], laidTests := true, laidLooks := .later }
def IntakeKeepsCardSaid : Prop := Claim7.holds Tryd.pinned (.plain (OpenSpec.ofChange intakeKeepsSpec)) intakeKeepsCard

/-- THE TIED CARD OF 'gavelhouselaw3.IntakeActs'. -/
def intakeActsCard : Claim7 := { stood := { row := intakeActsRow, standIns := [], harness := (true, "58a1760700fdd03ffc4774c3d3a7ae61e9d9c9ce8bdb37dc1a93adf63ace65fd"), looks := true }, kinds := [], alts := [], laidByText := true, laidKinds := [.handle, .sentinel, .sentinel, .sentinel, .sentinel, .sentinel, .sentinel, .sentinel, .sentinel, .sentinel, .sentinel, .sentinel, .sentinel], laidTests := true, laidLooks := .later }
def IntakeActsCardSaid : Prop := Claim7.holds Tryd.pinned (.plain (OpenSpec.ofChange intakeActsSpec)) intakeActsCard

/-- THE SECOND FORM's CARD OF 'gavelhouselaw3.IntakeWaits'. -/
def intakeWaitsUptoCard : Claim7 := { stood := { row := intakeWaitsUptoRow, standIns := [], harness := (true, "58a1760700fdd03ffc4774c3d3a7ae61e9d9c9ce8bdb37dc1a93adf63ace65fd"), looks := true }, kinds := [], alts := [], laidByText := true, laidKinds := [.sentinel, .sentinel, .sentinel], laidTests := true, laidLooks := .later }
def IntakeWaitsUptoCardSaid : Prop := Claim7.holds Tryd.pinned (.plain (OpenSpec.upto intakeWaitsSpec)) intakeWaitsUptoCard

/-- THE SECOND FORM's CARD OF 'gavelhouselaw3.IntakeKeeps'. -/
def intakeKeepsUptoCard : Claim7 := { stood := { row := intakeKeepsUptoRow, standIns := [], harness := (true, "58a1760700fdd03ffc4774c3d3a7ae61e9d9c9ce8bdb37dc1a93adf63ace65fd"), looks := true }, kinds := [], alts := [], laidByText := true, laidKinds := [.sentinel, .sentinel, .sentinel], laidTests := true, laidLooks := .later }
def IntakeKeepsUptoCardSaid : Prop := Claim7.holds Tryd.pinned (.plain (OpenSpec.upto intakeKeepsSpec)) intakeKeepsUptoCard

/-- THE SECOND FORM's CARD OF 'gavelhouselaw3.IntakeActs'. -/
def intakeActsUptoCard : Claim7 := { stood := { row := intakeActsUptoRow, standIns := [], harness := (true, "58a1760700fdd03ffc4774c3d3a7ae61e9d9c9ce8bdb37dc1a93adf63ace65fd"), looks := true }, kinds := [], alts := [], laidByText := true, laidKinds := [.handle, .sentinel, .sentinel, .sentinel, .sentinel, .sentinel, .sentinel, .sentinel, .sentinel, .sentinel, .sentinel, .sentinel, .sentinel], laidTests := true, laidLooks := .later }
def IntakeActsUptoCardSaid : Prop := Claim7.holds Tryd.pinned (.plain (OpenSpec.upto intakeActsSpec)) intakeActsUptoCard
end Rows
end Go.Proofs.YtfifmigmdiegdaaDoor
