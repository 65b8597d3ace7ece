/-
  DERIVED. GIVEN WITH THE SEED: THE CARDS: each row of YtoomeimloaloaaaGreatDoorRows.lean that lists a variable, with what it lists TIED to the program's text (the seventh form; the later family's looks); each row that meets fmt, with fmt's text TOLD by the authors' own Lean function (tested against real Go, not proved from fmt's source: count such statements apart). THE CARD IS WHAT COUNTS. Prove the row's statement (the work); the ties are given (YtoomeimloaloaaaGreatDoorTie.lean); close each card by the builder's one call (the guide's Derived/Test/ToyasCard.lean, 'card_holds'). Laid BY PROGRAM, IN A SANDBOX (cutbox-door.mjs). By AI agents, Wed Nov 11 2026. No macro, syntax, notation, axiom, sorry.
-/
import Derived.Test.YtoomeimloaloaaaGreatDoorRows
import GoSem.ClaimSeven
namespace Go.Proofs.YtoomeimloaloaaaGreatDoor
namespace Rows

/-- THE TIED CARD OF 'laws.FnExactArrowObjects'. -/
def fnExactArrowObjectsCard : Claim7 := { stood := { row := fnExactArrowObjectsRow, standIns := [], harness := (true, "c5db5815f6d56e169cc02e9af2b6da3a860e508a99bc8097005b37e6b82a8400"), looks := true }, kinds := [], alts := [], goes := true, laidByText := true, laidKinds := [.handle], laidTests := true, laidLooks := .later }
def FnExactArrowObjectsCardSaid : Prop := Claim7.holds Tryz.pinned (.plain (OpenSpec.ofChange fnExactArrowObjectsSpec)) fnExactArrowObjectsCard

/-- THE TIED CARD OF 'laws.FnExactArrowParts'. -/
def fnExactArrowPartsCard : Claim7 := { stood := { row := fnExactArrowPartsRow, standIns := [], harness := (true, "c5db5815f6d56e169cc02e9af2b6da3a860e508a99bc8097005b37e6b82a8400"), looks := true }, kinds := [], alts := [], goes := true, laidByText := true, laidKinds := [.handle], laidTests := true, laidLooks := .later }
def FnExactArrowPartsCardSaid : Prop := Claim7.holds Tryz.pinned (.plain (OpenSpec.ofChange fnExactArrowPartsSpec)) fnExactArrowPartsCard

/-- THE TIED CARD OF 'laws.FnExactArrowLocal'. -/
def fnExactArrowLocalCard : Claim7 := { stood := { row := fnExactArrowLocalRow, standIns := [], harness := (true, "c5db5815f6d56e169cc02e9af2b6da3a860e508a99bc8097005b37e6b82a8400"), looks := true }, kinds := [], alts := [], goes := true, laidByText := true, laidKinds := [.handle], laidTests := true, laidLooks := .later }
def FnExactArrowLocalCardSaid : Prop := Claim7.holds Tryz.pinned (.plain (OpenSpec.ofChange fnExactArrowLocalSpec)) fnExactArrowLocalCard

/-- THE TIED CARD OF 'laws.FnExactArrowFrom'. -/
def fnExactArrowFromCard : Claim7 := { stood := { row := fnExactArrowFromRow, standIns := [], harness := (true, "c5db5815f6d56e169cc02e9af2b6da3a860e508a99bc8097005b37e6b82a8400"), looks := true }, kinds := [], alts := [], goes := true, laidByText := true, laidKinds := [.handle], laidTests := true, laidLooks := .later }
def FnExactArrowFromCardSaid : Prop := Claim7.holds Tryz.pinned (.plain (OpenSpec.ofChange fnExactArrowFromSpec)) fnExactArrowFromCard

/-- THE TIED CARD OF 'laws.FnExactGermSame'. -/
def fnExactGermSameCard : Claim7 := { stood := { row := fnExactGermSameRow, standIns := [], harness := (true, "c5db5815f6d56e169cc02e9af2b6da3a860e508a99bc8097005b37e6b82a8400"), looks := true }, kinds := [], alts := [], goes := true, laidByText := true, laidKinds := [.handle], laidTests := true, laidLooks := .later }
def FnExactGermSameCardSaid : Prop := Claim7.holds Tryz.pinned (.plain (OpenSpec.ofChange fnExactGermSameSpec)) fnExactGermSameCard

/-- THE TIED CARD OF 'laws.FnExactGermCount'. -/
def fnExactGermCountCard : Claim7 := { stood := { row := fnExactGermCountRow, standIns := [], harness := (true, "c5db5815f6d56e169cc02e9af2b6da3a860e508a99bc8097005b37e6b82a8400"), looks := true }, kinds := [], alts := [], goes := true, laidByText := true, laidKinds := [.handle], laidTests := true, laidLooks := .later }
def FnExactGermCountCardSaid : Prop := Claim7.holds Tryz.pinned (.plain (OpenSpec.ofChange fnExactGermCountSpec)) fnExactGermCountCard

/-- THE TIED CARD OF 'laws.FnExactGermPlaces'. -/
def fnExactGermPlacesCard : Claim7 := { stood := { row := fnExactGermPlacesRow, standIns := [], harness := (true, "c5db5815f6d56e169cc02e9af2b6da3a860e508a99bc8097005b37e6b82a8400"), looks := true }, kinds := [], alts := [], goes := true, laidByText := true, laidKinds := [.handle], laidTests := true, laidLooks := .later }
def FnExactGermPlacesCardSaid : Prop := Claim7.holds Tryz.pinned (.plain (OpenSpec.ofChange fnExactGermPlacesSpec)) fnExactGermPlacesCard

/-- THE TIED CARD OF 'laws.FnObjects'. -/
def fnObjectsCard : Claim7 := { stood := { row := fnObjectsRow, standIns := [], harness := (true, "c5db5815f6d56e169cc02e9af2b6da3a860e508a99bc8097005b37e6b82a8400"), looks := true }, kinds := [], alts := [], goes := true, laidByText := true, laidKinds := [.handle], laidTests := true, laidLooks := .later }
def FnObjectsCardSaid : Prop := Claim7.holds Tryz.pinned (.plain (OpenSpec.ofChange fnObjectsSpec)) fnObjectsCard

/-- THE SECOND FORM's CARD OF 'laws.FnExactArrowObjects'. -/
def fnExactArrowObjectsUptoCard : Claim7 := { stood := { row := fnExactArrowObjectsUptoRow, standIns := [], harness := (true, "c5db5815f6d56e169cc02e9af2b6da3a860e508a99bc8097005b37e6b82a8400"), looks := true }, kinds := [], alts := [], goes := true, laidByText := true, laidKinds := [.handle], laidTests := true, laidLooks := .later }
def FnExactArrowObjectsUptoCardSaid : Prop := Claim7.holds Tryz.pinned (.plain (OpenSpec.upto fnExactArrowObjectsSpec)) fnExactArrowObjectsUptoCard

/-- THE SECOND FORM's CARD OF 'laws.FnExactArrowParts'. -/
def fnExactArrowPartsUptoCard : Claim7 := { stood := { row := fnExactArrowPartsUptoRow, standIns := [], harness := (true, "c5db5815f6d56e169cc02e9af2b6da3a860e508a99bc8097005b37e6b82a8400"), looks := true }, kinds := [], alts := [], goes := true, laidByText := true, laidKinds := [.handle], laidTests := true, laidLooks := .later }
def FnExactArrowPartsUptoCardSaid : Prop := Claim7.holds Tryz.pinned (.plain (OpenSpec.upto fnExactArrowPartsSpec)) fnExactArrowPartsUptoCard

/-- THE SECOND FORM's CARD OF 'laws.FnExactArrowLocal'. -/
def fnExactArrowLocalUptoCard : Claim7 := { stood := { row := fnExactArrowLocalUptoRow, standIns := [], harness := (true, "c5db5815f6d56e169cc02e9af2b6da3a860e508a99bc8097005b37e6b82a8400"), looks := true }, kinds := [], alts := [], goes := true, laidByText := true, laidKinds := [.handle], laidTests := true, laidLooks := .later }
def FnExactArrowLocalUptoCardSaid : Prop := Claim7.holds Tryz.pinned (.plain (OpenSpec.upto fnExactArrowLocalSpec)) fnExactArrowLocalUptoCard

/-- THE SECOND FORM's CARD OF 'laws.FnExactArrowFrom'. -/
def fnExactArrowFromUptoCard : Claim7 := { stood := { row := fnExactArrowFromUptoRow, standIns := [], harness := (true, "c5db5815f6d56e169cc02e9af2b6da3a860e508a99bc8097005b37e6b82a8400"), looks := true }, kinds := [], alts := [], goes := true, laidByText := true, laidKinds := [.handle], laidTests := true, laidLooks := .later }
def FnExactArrowFromUptoCardSaid : Prop := Claim7.holds Tryz.pinned (.plain (OpenSpec.upto fnExactArrowFromSpec)) fnExactArrowFromUptoCard

/-- THE SECOND FORM's CARD OF 'laws.FnExactGermSame'. -/
def fnExactGermSameUptoCard : Claim7 := { stood := { row := fnExactGermSameUptoRow, standIns := [], harness := (true, "c5db5815f6d56e169cc02e9af2b6da3a860e508a99bc8097005b37e6b82a8400"), looks := true }, kinds := [], alts := [], goes := true, laidByText := true, laidKinds := [.handle], laidTests := true, laidLooks := .later }
def FnExactGermSameUptoCardSaid : Prop := Claim7.holds Tryz.pinned (.plain (OpenSpec.upto fnExactGermSameSpec)) fnExactGermSameUptoCard

/-- THE SECOND FORM's CARD OF 'laws.FnExactGermCount'. -/
def fnExactGermCountUptoCard : Claim7 := { stood := { row := fnExactGermCountUptoRow, standIns := [], harness := (true, "c5db5815f6d56e169cc02e9af2b6da3a860e508a99bc8097005b37e6b82a8400"), looks := true }, kinds := [], alts := [], goes := true, laidByText := true, laidKinds := [.handle], laidTests := true, laidLooks := .later }
def FnExactGermCountUptoCardSaid : Prop := Claim7.holds Tryz.pinned (.plain (OpenSpec.upto fnExactGermCountSpec)) fnExactGermCountUptoCard

/-- THE SECOND FORM's CARD OF 'laws.FnExactGermPlaces'. -/
def fnExactGermPlacesUptoCard : Claim7 := { stood := { row := fnExactGermPlacesUptoRow, standIns := [], harness := (true, "c5db5815f6d56e169cc02e9af2b6da3a860e508a99bc8097005b37e6b82a8400"), looks := true }, kinds := [], alts := [], goes := true, laidByText := true, laidKinds := [.handle], laidTests := true, laidLooks := .later }
def FnExactGermPlacesUptoCardSaid : Prop := Claim7.holds Tryz.pinned (.plain (OpenSpec.upto fnExactGermPlacesSpec)) fnExactGermPlacesUptoCard

/-- THE SECOND FORM's CARD OF 'laws.FnObjects'. -/
def fnObjectsUptoCard : Claim7 := { stood := { row := fnObjectsUptoRow, standIns := [], harness := (true, "c5db5815f6d56e169cc02e9af2b6da3a860e508a99bc8097005b37e6b82a8400"), looks := true }, kinds := [], alts := [], goes := true, laidByText := true, laidKinds := [.handle], laidTests := true, laidLooks := .later }
def FnObjectsUptoCardSaid : Prop := Claim7.holds Tryz.pinned (.plain (OpenSpec.upto fnObjectsSpec)) fnObjectsUptoCard
end Rows
end Go.Proofs.YtoomeimloaloaaaGreatDoor
