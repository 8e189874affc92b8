/-
  DERIVED. GIVEN WITH THE SEED: THE CARDS: each row of YtgmncdpjbphfhaaDoorRows.lean that lists a variable, with what it lists TIED to the program's text (the seventh form; the later family's looks); each row that meets fmt, with fmt's text TOLD by the authors' own Lean function (tested against real Go, not proved from fmt's source: count such statements apart). THE CARD IS WHAT COUNTS. Prove the row's statement (the work); the ties are given (YtgmncdpjbphfhaaDoorTie.lean); close each card by the builder's one call (the guide's Derived/Test/ToyasCard.lean, 'card_holds'). Laid BY PROGRAM, IN A SANDBOX (cutbox-door.mjs). By AI agents, Wed Nov 11 2026. No macro, syntax, notation, axiom, sorry.
-/
import Derived.Test.YtgmncdpjbphfhaaDoorRows
import GoSem.ClaimSeven
namespace Go.Proofs.YtgmncdpjbphfhaaDoor
namespace Rows

/-- THE TIED CARD OF 'gavelhouselaw2.PursePays'. -/
def pursePaysCard : Claim7 := { stood := { row := pursePaysRow, standIns := [], harness := (true, "2856673d3695e51ceef9e3c0d2479d71ecf41b04692648c10f412c64e25d16e1"), looks := true }, kinds := [], alts := [], laidByText := true, laidKinds := [.handle, .sentinel, .sentinel, .sentinel, .sentinel, .sentinel, .sentinel, .sentinel, .sentinel, .sentinel, .sentinel, .sentinel, .sentinel], laidTests := true, laidLooks := .later }
def PursePaysCardSaid : Prop := Claim7.holds Tryd.pinned (.plain (OpenSpec.ofChange pursePaysSpec)) pursePaysCard

/-- THE TIED CARD OF 'gavelhouselaw2.PurseKeeps'. -/
def purseKeepsCard : Claim7 := { stood := { row := purseKeepsRow, standIns := [], harness := (true, "2856673d3695e51ceef9e3c0d2479d71ecf41b04692648c10f412c64e25d16e1"), looks := true }, kinds := [], alts := [], laidByText := true, laidKinds := [.sentinel, .sentinel, .sentinel, .sentinel, .sentinel, .sentinel], laidTests := true, laidLooks := .later }
def PurseKeepsCardSaid : Prop := Claim7.holds Tryd.pinned (.plain (OpenSpec.ofChange purseKeepsSpec)) purseKeepsCard

/-- THE TIED CARD OF 'gavelhouselaw2.PurseBack'. -/
def purseBackCard : Claim7 := { stood := { row := purseBackRow, standIns := [], harness := (true, "2856673d3695e51ceef9e3c0d2479d71ecf41b04692648c10f412c64e25d16e1"), looks := true }, kinds := [], alts := [], laidByText := true, laidKinds := [.sentinel, .sentinel, .sentinel, .sentinel], laidTests := true, laidLooks := .later }
def PurseBackCardSaid : Prop := Claim7.holds Tryd.pinned (.plain (OpenSpec.ofChange purseBackSpec)) purseBackCard

/-- THE SECOND FORM's CARD OF 'gavelhouselaw2.PursePays'. -/
def pursePaysUptoCard : Claim7 := { stood := { row := pursePaysUptoRow, standIns := [], harness := (true, "2856673d3695e51ceef9e3c0d2479d71ecf41b04692648c10f412c64e25d16e1"), looks := true }, kinds := [], alts := [], laidByText := true, laidKinds := [.handle, .sentinel, .sentinel, .sentinel, .sentinel, .sentinel, .sentinel, .sentinel, .sentinel, .sentinel, .sentinel, .sentinel, .sentinel], laidTests := true, laidLooks := .later }
def PursePaysUptoCardSaid : Prop := Claim7.holds Tryd.pinned (.plain (OpenSpec.upto pursePaysSpec)) pursePaysUptoCard

/-- THE SECOND FORM's CARD OF 'gavelhouselaw2.PurseKeeps'. -/
def purseKeepsUptoCard : Claim7 := { stood := { row := purseKeepsUptoRow, standIns := [], harness := (true, "2856673d3695e51ceef9e3c0d2479d71ecf41b04692648c10f412c64e25d16e1"), looks := true }, kinds := [], alts := [], laidByText := true, laidKinds := [.sentinel, .sentinel, .sentinel, .sentinel, .sentinel, .sentinel], laidTests := true, laidLooks := .later }
def PurseKeepsUptoCardSaid : Prop := Claim7.holds Tryd.pinned (.plain (OpenSpec.upto purseKeepsSpec)) purseKeepsUptoCard

/-- THE SECOND FORM's CARD OF 'gavelhouselaw2.PurseBack'. -/
def purseBackUptoCard : Claim7 := { stood := { row := purseBackUptoRow, standIns := [], harness := (true, "2856673d3695e51ceef9e3c0d2479d71ecf41b04692648c10f412c64e25d16e1"), looks := true }, kinds := [], alts := [], laidByText := true, laidKinds := [.sentinel, .sentinel, .sentinel, .sentinel], laidTests := true, laidLooks := .later }
def PurseBackUptoCardSaid : Prop := Claim7.holds Tryd.pinned (.plain (OpenSpec.upto purseBackSpec)) purseBackUptoCard
end Rows
end Go.Proofs.YtgmncdpjbphfhaaDoor
