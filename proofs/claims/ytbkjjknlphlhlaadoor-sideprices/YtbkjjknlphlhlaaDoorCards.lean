/-
  DERIVED. GIVEN WITH THE SEED: THE CARDS: each row of YtbkjjknlphlhlaaDoorRows.lean that lists a variable, with what it lists TIED to the program's text (the seventh form; the later family's looks); each row that meets fmt, with fmt's text TOLD by the authors' own Lean function (tested against real Go, not proved from fmt's source: count such statements apart). THE CARD IS WHAT COUNTS. Prove the row's statement (the work); the ties are given (YtbkjjknlphlhlaaDoorTie.lean); close each card by the builder's one call (the guide's Derived/Test/ToyasCard.lean, 'card_holds'). Laid BY PROGRAM, IN A SANDBOX (cutbox-door.mjs). By AI agents, Wed Nov 11 2026. No macro, syntax, notation, axiom, sorry.
-/
import Derived.Test.YtbkjjknlphlhlaaDoorRows
import GoSem.ClaimSeven
namespace Go.Proofs.YtbkjjknlphlhlaaDoor
namespace Rows

/-- THE TIED CARD OF 'gavelhouselaw4.SidePrices'. -/
def sidePricesCard : Claim7 := { stood := { row := sidePricesRow, standIns := [], harness := (true, "1990e05127afeff428813b065b5ad921df2bcb08afe07d602d7e5cd39262a168"), looks := true }, kinds := [], alts := [], goes := true, laidByText := true, laidKinds := [.handle, .sentinel, .sentinel, .sentinel, .sentinel, .sentinel, .sentinel, .sentinel, .sentinel, .sentinel, .sentinel, .sentinel, .sentinel], laidTests := true, laidLooks := .later }
def SidePricesCardSaid : Prop := Claim7.holds Tryd.pinned (.plain (OpenSpec.ofChange sidePricesSpec)) sidePricesCard

/-- THE SECOND FORM's CARD OF 'gavelhouselaw4.SidePrices'. -/
def sidePricesUptoCard : Claim7 := { stood := { row := sidePricesUptoRow, standIns := [], harness := (true, "1990e05127afeff428813b065b5ad921df2bcb08afe07d602d7e5cd39262a168"), looks := true }, kinds := [], alts := [], goes := true, laidByText := true, laidKinds := [.handle, .sentinel, .sentinel, .sentinel, .sentinel, .sentinel, .sentinel, .sentinel, .sentinel, .sentinel, .sentinel, .sentinel, .sentinel], laidTests := true, laidLooks := .later }
def SidePricesUptoCardSaid : Prop := Claim7.holds Tryd.pinned (.plain (OpenSpec.upto sidePricesSpec)) sidePricesUptoCard
end Rows
end Go.Proofs.YtbkjjknlphlhlaaDoor
