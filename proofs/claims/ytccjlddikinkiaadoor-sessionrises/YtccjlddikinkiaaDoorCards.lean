/-
  DERIVED. GIVEN WITH THE SEED: THE CARDS: each row of YtccjlddikinkiaaDoorRows.lean that lists a variable, with what it lists TIED to the program's text (the seventh form; the later family's looks); each row that meets fmt, with fmt's text TOLD by the authors' own Lean function (tested against real Go, not proved from fmt's source: count such statements apart). THE CARD IS WHAT COUNTS. Prove the row's statement (the work); the ties are given (YtccjlddikinkiaaDoorTie.lean); close each card by the builder's one call (the guide's Derived/Test/ToyasCard.lean, 'card_holds'). Laid BY PROGRAM, IN A SANDBOX (cutbox-door.mjs). By AI agents, Wed Nov 11 2026. No macro, syntax, notation, axiom, sorry.
-/
import Derived.Test.YtccjlddikinkiaaDoorRows
import GoSem.ClaimSeven
namespace Go.Proofs.YtccjlddikinkiaaDoor
namespace Rows

/-- THE TIED CARD OF 'gavelhouselaw2.SessionTakes'. -/
def sessionTakesCard : Claim7 := { stood := { row := sessionTakesRow, standIns := [], harness := (true, "fc7a73f435ecf240fb0998446a838417ff335f581a565e7d02434ada9f64c95f"), looks := true }, kinds := [], alts := [], laidByText := true, laidKinds := [.handle, .sentinel, .sentinel, .sentinel, .sentinel, .sentinel, .sentinel, .sentinel, .sentinel, .sentinel, .sentinel, .sentinel, .sentinel], laidTests := true, laidLooks := .later }
def SessionTakesCardSaid : Prop := Claim7.holds Tryd.pinned (.plain (OpenSpec.ofChange sessionTakesSpec)) sessionTakesCard

/-- THE TIED CARD OF 'gavelhouselaw2.SessionRises'. -/
def sessionRisesCard : Claim7 := { stood := { row := sessionRisesRow, standIns := [], harness := (true, "fc7a73f435ecf240fb0998446a838417ff335f581a565e7d02434ada9f64c95f"), looks := true }, kinds := [], alts := [], laidByText := true, laidKinds := [.sentinel, .sentinel, .sentinel, .sentinel, .sentinel], laidTests := true, laidLooks := .later }
def SessionRisesCardSaid : Prop := Claim7.holds Tryd.pinned (.plain (OpenSpec.ofChange sessionRisesSpec)) sessionRisesCard

/-- THE SECOND FORM's CARD OF 'gavelhouselaw2.SessionTakes'. -/
def sessionTakesUptoCard : Claim7 := { stood := { row := sessionTakesUptoRow, standIns := [], harness := (true, "fc7a73f435ecf240fb0998446a838417ff335f581a565e7d02434ada9f64c95f"), looks := true }, kinds := [], alts := [], laidByText := true, laidKinds := [.handle, .sentinel, .sentinel, .sentinel, .sentinel, .sentinel, .sentinel, .sentinel, .sentinel, .sentinel, .sentinel, .sentinel, .sentinel], laidTests := true, laidLooks := .later }
def SessionTakesUptoCardSaid : Prop := Claim7.holds Tryd.pinned (.plain (OpenSpec.upto sessionTakesSpec)) sessionTakesUptoCard

/-- THE SECOND FORM's CARD OF 'gavelhouselaw2.SessionRises'. -/
def sessionRisesUptoCard : Claim7 := { stood := { row := sessionRisesUptoRow, standIns := [], harness := (true, "fc7a73f435ecf240fb0998446a838417ff335f581a565e7d02434ada9f64c95f"), looks := true }, kinds := [], alts := [], laidByText := true, laidKinds := [.sentinel, .sentinel, .sentinel, .sentinel, .sentinel], laidTests := true, laidLooks := .later }
def SessionRisesUptoCardSaid : Prop := Claim7.holds Tryd.pinned (.plain (OpenSpec.upto sessionRisesSpec)) sessionRisesUptoCard
end Rows
end Go.Proofs.YtccjlddikinkiaaDoor
