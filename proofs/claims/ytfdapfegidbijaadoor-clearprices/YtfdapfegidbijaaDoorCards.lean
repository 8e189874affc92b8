/-
  DERIVED. GIVEN WITH THE SEED: THE CARDS: each row of YtfdapfegidbijaaDoorRows.lean that lists a variable, with what it lists TIED to the program's text (the seventh form; the later family's looks); each row that meets fmt, with fmt's text TOLD by the authors' own Lean function (tested against real Go, not proved from fmt's source: count such statements apart). THE CARD IS WHAT COUNTS. Prove the row's statement (the work); the ties are given (YtfdapfegidbijaaDoorTie.lean); close each card by the builder's one call (the guide's Derived/Test/ToyasCard.lean, 'card_holds'). Laid BY PROGRAM, IN A SANDBOX (cutbox-door.mjs). By AI agents, Wed Nov 11 2026. No macro, syntax, notation, axiom, sorry.
-/
import Derived.Test.YtfdapfegidbijaaDoorRows
import GoSem.ClaimSeven
namespace Go.Proofs.YtfdapfegidbijaaDoor
namespace Rows

/-- THE TIED CARD OF 'gavelhouselaw1.CurveTells'. -/
def curveTellsCard : Claim7 := { stood := { row := curveTellsRow, standIns := [], harness := (true, "990c4f83aa255aa17f29a2e461134562b18384e95f4dd7ef92da695e936e99d0"), looks := true }, kinds := [], alts := [], laidByText := true, laidKinds := [.handle, .sentinel, .sentinel, .sentinel, .sentinel, .sentinel, .sentinel, .sentinel, .sentinel, .sentinel, .sentinel, .sentinel, .sentinel], laidTests := true, laidLooks := .later }
def CurveTellsCardSaid : Prop := Claim7.holds Tryd.pinned (.plain (OpenSpec.ofChange curveTellsSpec)) curveTellsCard

/-- THE TIED CARD OF 'gavelhouselaw1.CurveFalls'. -/
def curveFallsCard : Claim7 := { stood := { row := curveFallsRow, standIns := [], harness := (true, "990c4f83aa255aa17f29a2e461134562b18384e95f4dd7ef92da695e936e99d0"), looks := true }, kinds := [], alts := [], laidByText := true, laidKinds := [.sentinel, .sentinel, .sentinel], laidTests := true, laidLooks := .later }
def CurveFallsCardSaid : Prop := Claim7.holds Tryd.pinned (.plain (OpenSpec.ofChange curveFallsSpec)) curveFallsCard

/-- THE TIED CARD OF 'gavelhouselaw1.CurveAdds'. -/
def curveAddsCard : Claim7 := { stood := { row := curveAddsRow, standIns := [], harness := (true, "990c4f83aa255aa17f29a2e461134562b18384e95f4dd7ef92da695e936e99d0"), looks := true }, kinds := [], alts := [], laidByText := true, laidKinds := [.sentinel, .sentinel, .sentinel], laidTests := true, laidLooks := .later }
def CurveAddsCardSaid : Prop := Claim7.holds Tryd.pinned (.plain (OpenSpec.ofChange curveAddsSpec)) curveAddsCard

/-- THE TIED CARD OF 'gavelhouselaw1.ClearPrices'. -/
def clearPricesCard : Claim7 := { stood := { row := clearPricesRow, standIns := [], harness := (true, "990c4f83aa255aa17f29a2e461134562b18384e95f4dd7ef92da695e936e99d0"), looks := true }, kinds := [], alts := [], laidByText := true, laidKinds := [.handle, .sentinel, .sentinel, .sentinel, .sentinel, .sentinel, .sentinel, .sentinel, .sentinel, .sentinel, .sentinel, .sentinel, .sentinel], laidTests := true, laidLooks := .later }
def ClearPricesCardSaid : Prop := Claim7.holds Tryd.pinned (.plain (OpenSpec.ofChange clearPricesSpec)) clearPricesCard

/-- THE TIED CARD OF 'gavelhouselaw1.ClearBest'. -/
def clearBestCard : Claim7 := { stood := { row := clearBestRow, standIns := [], harness := (true, "990c4f83aa255aa17f29a2e461134562b18384e95f4dd7ef92da695e936e99d0"), looks := true }, kinds := [], alts := [], laidByText := true, laidKinds := [.sentinel, .sentinel, .sentinel], laidTests := true, laidLooks := .later }
def ClearBestCardSaid : Prop := Claim7.holds Tryd.pinned (.plain (OpenSpec.ofChange clearBestSpec)) clearBestCard

/-- THE TIED CARD OF 'gavelhouselaw1.ClearShifts'. -/
def clearShiftsCard : Claim7 := { stood := { row := clearShiftsRow, standIns := [], harness := (true, "990c4f83aa255aa17f29a2e461134562b18384e95f4dd7ef92da695e936e99d0"), looks := true }, kinds := [], alts := [], laidByText := true, laidKinds := [.sentinel, .sentinel, .sentinel], laidTests := true, laidLooks := .later }
def ClearShiftsCardSaid : Prop := Claim7.holds Tryd.pinned (.plain (OpenSpec.ofChange clearShiftsSpec)) clearShiftsCard

/-- THE SECOND FORM's CARD OF 'gavelhouselaw1.CurveTells'. -/
def curveTellsUptoCard : Claim7 := { stood := { row := curveTellsUptoRow, standIns := [], harness := (true, "990c4f83aa255aa17f29a2e461134562b18384e95f4dd7ef92da695e936e99d0"), looks := true }, kinds := [], alts := [], laidByText := true, laidKinds := [.handle, .sentinel, .sentinel, .sentinel, .sentinel, .sentinel, .sentinel, .sentinel, .sentinel, .sentinel, .sentinel, .sentinel, .sentinel], laidTests := true, laidLooks := .later }
def CurveTellsUptoCardSaid : Prop := Claim7.holds Tryd.pinned (.plain (OpenSpec.upto curveTellsSpec)) curveTellsUptoCard

/-- THE SECOND FORM's CARD OF 'gavelhouselaw1.CurveFalls'. -/
def curveFallsUptoCard : Claim7 := { stood := { row := curveFallsUptoRow, standIns := [], harness := (true, "990c4f83aa255aa17f29a2e461134562b18384e95f4dd7ef92da695e936e99d0"), looks := true }, kinds := [], alts := [], laidByText := true, laidKinds := [.sentinel, .sentinel, .sentinel], laidTests := true, laidLooks := .later }
def CurveFallsUptoCardSaid : Prop := Claim7.holds Tryd.pinned (.plain (OpenSpec.upto curveFallsSpec)) curveFallsUptoCard

/-- THE SECOND FORM's CARD OF 'gavelhouselaw1.CurveAdds'. -/
def curveAddsUptoCard : Claim7 := { stood := { row := curveAddsUptoRow, standIns := [], harness := (true, "990c4f83aa255aa17f29a2e461134562b18384e95f4dd7ef92da695e936e99d0"), looks := true }, kinds := [], alts := [], laidByText := true, laidKinds := [.sentinel, .sentinel, .sentinel], laidTests := true, laidLooks := .later }
def CurveAddsUptoCardSaid : Prop := Claim7.holds Tryd.pinned (.plain (OpenSpec.upto curveAddsSpec)) curveAddsUptoCard

/-- THE SECOND FORM's CARD OF 'gavelhouselaw1.ClearPrices'. -/
def clearPricesUptoCard : Claim7 := { stood := { row := clearPricesUptoRow, standIns := [], harness := (true, "990c4f83aa255aa17f29a2e461134562b18384e95f4dd7ef92da695e936e99d0"), looks := true }, kinds := [], alts := [], laidByText := true, laidKinds := [.handle, .sentinel, .sentinel, .sentinel, .sentinel, .sentinel, .sentinel, .sentinel, .sentinel, .sentinel, .sentinel, .sentinel, .sentinel], laidTests := true, laidLooks := .later }
def ClearPricesUptoCardSaid : Prop := Claim7.holds Tryd.pinned (.plain (OpenSpec.upto clearPricesSpec)) clearPricesUptoCard

/-- THE SECOND FORM's CARD OF 'gavelhouselaw1.ClearBest'. -/
def clearBestUptoCard : Claim7 := { stood := { row := clearBestUptoRow, standIns := [], harness := (true, "990c4f83aa255aa17f29a2e461134562b18384e95f4dd7ef92da695e936e99d0"), looks := true }, kinds := [], alts := [], laidByText := true, laidKinds := [.sentinel, .sentinel, .sentinel], laidTests := true, laidLooks := .later }
def ClearBestUptoCardSaid : Prop := Claim7.holds Tryd.pinned (.plain (OpenSpec.upto clearBestSpec)) clearBestUptoCard

/-- THE SECOND FORM's CARD OF 'gavelhouselaw1.ClearShifts'. -/
def clearShiftsUptoCard : Claim7 := { stood := { row := clearShiftsUptoRow, standIns := [], harness := (true, "990c4f83aa255aa17f29a2e461134562b18384e95f4dd7ef92da695e936e99d0"), looks := true }, kinds := [], alts := [], laidByText := true, laidKinds := [.sentinel, .sentinel, .sentinel], laidTests := true, laidLooks := .later }
def ClearShiftsUptoCardSaid : Prop := Claim7.holds Tryd.pinned (.plain (OpenSpec.upto clearShiftsSpec)) clearShiftsUptoCard
end Rows
end Go.Proofs.YtfdapfegidbijaaDoor
