/-
  DERIVED. GIVEN WITH THE SEED: THE CARDS: each row of YtbcinejhipmomaaDoorRows.lean that lists a variable, with what it lists TIED to the program's text (the seventh form; the later family's looks); each row that meets fmt, with fmt's text TOLD by the authors' own Lean function (tested against real Go, not proved from fmt's source: count such statements apart). THE CARD IS WHAT COUNTS. Prove the row's statement (the work); the ties are given (YtbcinejhipmomaaDoorTie.lean); close each card by the builder's one call (the guide's Derived/Test/ToyasCard.lean, 'card_holds'). Laid BY PROGRAM, IN A SANDBOX (cutbox-door.mjs). By AI agents, Wed Nov 11 2026. No macro, syntax, notation, axiom, sorry.
-/
import Derived.Test.YtbcinejhipmomaaDoorRows
import GoSem.ClaimSeven
namespace Go.Proofs.YtbcinejhipmomaaDoor
namespace Rows

/-- THE TIED CARD OF 'gavelhouselaw1.RationFills'. -/
def rationFillsCard : Claim7 := { stood := { row := rationFillsRow, standIns := [], harness := (true, "4018336dd0833eb23adb6a4487a0acade5112ef80f02f5ab23d17a5a081cbc52"), looks := true }, kinds := [], alts := [], laidByText := true, laidKinds := [.handle, .sentinel, .sentinel, .sentinel, .sentinel, .sentinel, .sentinel, .sentinel, .sentinel, .sentinel, .sentinel, .sentinel, .sentinel], laidTests := true, laidLooks := .later }
def RationFillsCardSaid : Prop := Claim7.holds Tryd.pinned (.plain (OpenSpec.ofChange rationFillsSpec)) rationFillsCard

/-- THE TIED CARD OF 'gavelhouselaw1.RationFair'. -/
def rationFairCard : Claim7 := { stood := { row := rationFairRow, standIns := [], harness := (true, "4018336dd0833eb23adb6a4487a0acade5112ef80f02f5ab23d17a5a081cbc52"), looks := true }, kinds := [], alts := [], laidByText := true, laidKinds := [.sentinel, .sentinel, .sentinel, .sentinel], laidTests := true, laidLooks := .later }
def RationFairCardSaid : Prop := Claim7.holds Tryd.pinned (.plain (OpenSpec.ofChange rationFairSpec)) rationFairCard

/-- THE TIED CARD OF 'gavelhouselaw1.RationSame'. -/
def rationSameCard : Claim7 := { stood := { row := rationSameRow, standIns := [], harness := (true, "4018336dd0833eb23adb6a4487a0acade5112ef80f02f5ab23d17a5a081cbc52"), looks := true }, kinds := [], alts := [], laidByText := true, laidKinds := [.sentinel, .sentinel, .sentinel, .sentinel], laidTests := true, laidLooks := .later }
def RationSameCardSaid : Prop := Claim7.holds Tryd.pinned (.plain (OpenSpec.ofChange rationSameSpec)) rationSameCard

/-- THE TIED CARD OF 'gavelhouselaw2.BookKeeps'. -/
def bookKeepsCard : Claim7 := { stood := { row := bookKeepsRow, standIns := [], harness := (true, "4018336dd0833eb23adb6a4487a0acade5112ef80f02f5ab23d17a5a081cbc52"), looks := true }, kinds := [], alts := [], laidByText := true, laidKinds := [.sentinel, .sentinel, .sentinel, .sentinel], laidTests := true, laidLooks := .later }
def BookKeepsCardSaid : Prop := Claim7.holds Tryd.pinned (.plain (OpenSpec.ofChange bookKeepsSpec)) bookKeepsCard

/-- THE TIED CARD OF 'gavelhouselaw2.BookOrder'. -/
def bookOrderCard : Claim7 := { stood := { row := bookOrderRow, standIns := [], harness := (true, "4018336dd0833eb23adb6a4487a0acade5112ef80f02f5ab23d17a5a081cbc52"), looks := true }, kinds := [], alts := [], laidByText := true, laidKinds := [.sentinel, .sentinel, .sentinel, .sentinel], laidTests := true, laidLooks := .later }
def BookOrderCardSaid : Prop := Claim7.holds Tryd.pinned (.plain (OpenSpec.ofChange bookOrderSpec)) bookOrderCard

/-- THE TIED CARD OF 'gavelhouselaw2.BookActs'. -/
def bookActsCard : Claim7 := { stood := { row := bookActsRow, standIns := [], harness := (true, "4018336dd0833eb23adb6a4487a0acade5112ef80f02f5ab23d17a5a081cbc52"), looks := true }, kinds := [], alts := [], laidByText := true, laidKinds := [.handle, .sentinel, .sentinel, .sentinel, .sentinel, .sentinel, .sentinel, .sentinel, .sentinel, .sentinel, .sentinel, .sentinel, .sentinel], laidTests := true, laidLooks := .later }
def BookActsCardSaid : Prop := Claim7.holds Tryd.pinned (.plain (OpenSpec.ofChange bookActsSpec)) bookActsCard

/-- THE SECOND FORM's CARD OF 'gavelhouselaw1.RationFills'. -/
def rationFillsUptoCard : Claim7 := { stood := { row := rationFillsUptoRow, standIns := [], harness := (true, "4018336dd0833eb23adb6a4487a0acade5112ef80f02f5ab23d17a5a081cbc52"), looks := true }, kinds := [], alts := [], laidByText := true, laidKinds := [.handle, .sentinel, .sentinel, .sentinel, .sentinel, .sentinel, .sentinel, .sentinel, .sentinel, .sentinel, .sentinel, .sentinel, .sentinel], laidTests := true, laidLooks := .later }
def RationFillsUptoCardSaid : Prop := Claim7.holds Tryd.pinned (.plain (OpenSpec.upto rationFillsSpec)) rationFillsUptoCard

/-- THE SECOND FORM's CARD OF 'gavelhouselaw1.RationFair'. -/
def rationFairUptoCard : Claim7 := { stood := { row := rationFairUptoRow, standIns := [], harness := (true, "4018336dd0833eb23adb6a4487a0acade5112ef80f02f5ab23d17a5a081cbc52"), looks := true }, kinds := [], alts := [], laidByText := true, laidKinds := [.sentinel, .sentinel, .sentinel, .sentinel], laidTests := true, laidLooks := .later }
def RationFairUptoCardSaid : Prop := Claim7.holds Tryd.pinned (.plain (OpenSpec.upto rationFairSpec)) rationFairUptoCard

/-- THE SECOND FORM's CARD OF 'gavelhouselaw1.RationSame'. -/
def rationSameUptoCard : Claim7 := { stood := { row := rationSameUptoRow, standIns := [], harness := (true, "4018336dd0833eb23adb6a4487a0acade5112ef80f02f5ab23d17a5a081cbc52"), looks := true }, kinds := [], alts := [], laidByText := true, laidKinds := [.sentinel, .sentinel, .sentinel, .sentinel], laidTests := true, laidLooks := .later }
def RationSameUptoCardSaid : Prop := Claim7.holds Tryd.pinned (.plain (OpenSpec.upto rationSameSpec)) rationSameUptoCard

/-- THE SECOND FORM's CARD OF 'gavelhouselaw2.BookKeeps'. -/
def bookKeepsUptoCard : Claim7 := { stood := { row := bookKeepsUptoRow, standIns := [], harness := (true, "4018336dd0833eb23adb6a4487a0acade5112ef80f02f5ab23d17a5a081cbc52"), looks := true }, kinds := [], alts := [], laidByText := true, laidKinds := [.sentinel, .sentinel, .sentinel, .sentinel], laidTests := true, laidLooks := .later }
def BookKeepsUptoCardSaid : Prop := Claim7.holds Tryd.pinned (.plain (OpenSpec.upto bookKeepsSpec)) bookKeepsUptoCard

/-- THE SECOND FORM's CARD OF 'gavelhouselaw2.BookOrder'. -/
def bookOrderUptoCard : Claim7 := { stood := { row := bookOrderUptoRow, standIns := [], harness := (true, "4018336dd0833eb23adb6a4487a0acade5112ef80f02f5ab23d17a5a081cbc52"), looks := true }, kinds := [], alts := [], laidByText := true, laidKinds := [.sentinel, .sentinel, .sentinel, .sentinel], laidTests := true, laidLooks := .later }
def BookOrderUptoCardSaid : Prop := Claim7.holds Tryd.pinned (.plain (OpenSpec.upto bookOrderSpec)) bookOrderUptoCard

/-- THE SECOND FORM's CARD OF 'gavelhouselaw2.BookActs'. -/
def bookActsUptoCard : Claim7 := { stood := { row := bookActsUptoRow, standIns := [], harness := (true, "4018336dd0833eb23adb6a4487a0acade5112ef80f02f5ab23d17a5a081cbc52"), looks := true }, kinds := [], alts := [], laidByText := true, laidKinds := [.handle, .sentinel, .sentinel, .sentinel, .sentinel, .sentinel, .sentinel, .sentinel, .sentinel, .sentinel, .sentinel, .sentinel, .sentinel], laidTests := true, laidLooks := .later }
def BookActsUptoCardSaid : Prop := Claim7.holds Tryd.pinned (.plain (OpenSpec.upto bookActsSpec)) bookActsUptoCard
end Rows
end Go.Proofs.YtbcinejhipmomaaDoor
