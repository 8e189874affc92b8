/-
  DERIVED. GIVEN WITH THE SEED: THE CARDS: each row of YtpfdnoikemdkiaaDoorRows.lean that lists a variable, with what it lists TIED to the program's text (the seventh form; the later family's looks); each row that meets fmt, with fmt's text TOLD by the authors' own Lean function (tested against real Go, not proved from fmt's source: count such statements apart). THE CARD IS WHAT COUNTS. Prove the row's statement (the work); the ties are given (YtpfdnoikemdkiaaDoorTie.lean); close each card by the builder's one call (the guide's Derived/Test/ToyasCard.lean, 'card_holds'). Laid BY PROGRAM, IN A SANDBOX (cutbox-door.mjs). By AI agents, Wed Nov 11 2026. No macro, syntax, notation, axiom, sorry.
-/
import Derived.Test.YtpfdnoikemdkiaaDoorRows
import GoSem.ClaimSeven
namespace Go.Proofs.YtpfdnoikemdkiaaDoor
namespace Rows

/-- THE TIED CARD OF 'gavelhouselaw1.RationFills'. -/
def rationFillsCard : Claim7 := { stood := { row := rationFillsRow, standIns := [], harness := (true, "d8b7e67d8bf8a7ecd0e3f418d396a7659d2e93cbceb59b731b1861202783c568"), looks := true }, kinds := [], alts := [], laidByText := true, laidKinds := [.handle, .sentinel, .sentinel, .sentinel, .sentinel, .sentinel, .sentinel, .sentinel, .sentinel, .sentinel, .sentinel, .sentinel, .sentinel], laidTests := true, laidLooks := .later }
def RationFillsCardSaid : Prop := Claim7.holds Tryd.pinned (.plain (OpenSpec.ofChange rationFillsSpec)) rationFillsCard

/-- THE TIED CARD OF 'gavelhouselaw1.RationFair'. -/
def rationFairCard : Claim7 := { stood := { row := rationFairRow, standIns := [], harness := (true, "d8b7e67d8bf8a7ecd0e3f418d396a7659d2e93cbceb59b731b1861202783c568"), looks := true }, kinds := [], alts := [], laidByText := true, laidKinds := [.sentinel, .sentinel, .sentinel, .sentinel], laidTests := true, laidLooks := .later }
def RationFairCardSaid : Prop := Claim7.holds Tryd.pinned (.plain (OpenSpec.ofChange rationFairSpec)) rationFairCard

/-- THE TIED CARD OF 'gavelhouselaw1.RationSame'. -/
def rationSameCard : Claim7 := { stood := { row := rationSameRow, standIns := [], harness := (true, "d8b7e67d8bf8a7ecd0e3f418d396a7659d2e93cbceb59b731b1861202783c568"), looks := true }, kinds := [], alts := [], laidByText := true, laidKinds := [.sentinel, .sentinel, .sentinel, .sentinel], laidTests := true, laidLooks := .later }
def RationSameCardSaid : Prop := Claim7.holds Tryd.pinned (.plain (OpenSpec.ofChange rationSameSpec)) rationSameCard

/-- THE SECOND FORM's CARD OF 'gavelhouselaw1.RationFills'. -/
def rationFillsUptoCard : Claim7 := { stood := { row := rationFillsUptoRow, standIns := [], harness := (true, "d8b7e67d8bf8a7ecd0e3f418d396a7659d2e93cbceb59b731b1861202783c568"), looks := true }, kinds := [], alts := [], laidByText := true, laidKinds := [.handle, .sentinel, .sentinel, .sentinel, .sentinel, .sentinel, .sentinel, .sentinel, .sentinel, .sentinel, .sentinel, .sentinel, .sentinel], laidTests := true, laidLooks := .later }
def RationFillsUptoCardSaid : Prop := Claim7.holds Tryd.pinned (.plain (OpenSpec.upto rationFillsSpec)) rationFillsUptoCard

/-- THE SECOND FORM's CARD OF 'gavelhouselaw1.RationFair'. -/
def rationFairUptoCard : Claim7 := { stood := { row := rationFairUptoRow, standIns := [], harness := (true, "d8b7e67d8bf8a7ecd0e3f418d396a7659d2e93cbceb59b731b1861202783c568"), looks := true }, kinds := [], alts := [], laidByText := true, laidKinds := [.sentinel, .sentinel, .sentinel, .sentinel], laidTests := true, laidLooks := .later }
def RationFairUptoCardSaid : Prop := Claim7.holds Tryd.pinned (.plain (OpenSpec.upto rationFairSpec)) rationFairUptoCard

/-- THE SECOND FORM's CARD OF 'gavelhouselaw1.RationSame'. -/
def rationSameUptoCard : Claim7 := { stood := { row := rationSameUptoRow, standIns := [], harness := (true, "d8b7e67d8bf8a7ecd0e3f418d396a7659d2e93cbceb59b731b1861202783c568"), looks := true }, kinds := [], alts := [], laidByText := true, laidKinds := [.sentinel, .sentinel, .sentinel, .sentinel], laidTests := true, laidLooks := .later }
def RationSameUptoCardSaid : Prop := Claim7.holds Tryd.pinned (.plain (OpenSpec.upto rationSameSpec)) rationSameUptoCard
end Rows
end Go.Proofs.YtpfdnoikemdkiaaDoor
