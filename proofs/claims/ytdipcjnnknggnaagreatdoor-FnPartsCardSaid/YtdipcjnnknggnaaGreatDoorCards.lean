/-
  DERIVED. GIVEN WITH THE SEED: THE CARDS: each row of YtdipcjnnknggnaaGreatDoorRows.lean that lists a variable, with what it lists TIED to the program's text (the seventh form; the later family's looks); each row that meets fmt, with fmt's text TOLD by the authors' own Lean function (tested against real Go, not proved from fmt's source: count such statements apart). THE CARD IS WHAT COUNTS. Prove the row's statement (the work); the ties are given (YtdipcjnnknggnaaGreatDoorTie.lean); close each card by the builder's one call (the guide's Derived/Test/ToyasCard.lean, 'card_holds'). Laid BY PROGRAM, IN A SANDBOX (cutbox-door.mjs). By AI agents, Wed Nov 11 2026. No macro, syntax, notation, axiom, sorry.
-/
import Derived.Test.YtdipcjnnknggnaaGreatDoorRows
import GoSem.ClaimSeven
namespace Go.Proofs.YtdipcjnnknggnaaGreatDoor
namespace Rows

/-- THE TIED CARD OF 'laws.FnParts'. -/
def fnPartsCard : Claim7 := { stood := { row := fnPartsRow, standIns := [], harness := (true, "337e193f7f78f2fb31b6ac039d258a0d7f543325c27dd4c2e5161ff2b315727c"), looks := true }, kinds := [], alts := [], goes := true, laidByText := true, laidKinds := [.handle], laidTests := true, laidLooks := .later }
def FnPartsCardSaid : Prop := Claim7.holds Tryz.pinned (.plain (OpenSpec.ofChange fnPartsSpec)) fnPartsCard

/-- THE TIED CARD OF 'laws.FnLocal'. -/
def fnLocalCard : Claim7 := { stood := { row := fnLocalRow, standIns := [], harness := (true, "337e193f7f78f2fb31b6ac039d258a0d7f543325c27dd4c2e5161ff2b315727c"), looks := true }, kinds := [], alts := [], goes := true, laidByText := true, laidKinds := [.handle], laidTests := true, laidLooks := .later }
def FnLocalCardSaid : Prop := Claim7.holds Tryz.pinned (.plain (OpenSpec.ofChange fnLocalSpec)) fnLocalCard

/-- THE TIED CARD OF 'laws.FnFrom'. -/
def fnFromCard : Claim7 := { stood := { row := fnFromRow, standIns := [], harness := (true, "337e193f7f78f2fb31b6ac039d258a0d7f543325c27dd4c2e5161ff2b315727c"), looks := true }, kinds := [], alts := [], goes := true, laidByText := true, laidKinds := [.handle], laidTests := true, laidLooks := .later }
def FnFromCardSaid : Prop := Claim7.holds Tryz.pinned (.plain (OpenSpec.ofChange fnFromSpec)) fnFromCard

/-- THE TIED CARD OF 'laws.FnGermSame'. -/
def fnGermSameCard : Claim7 := { stood := { row := fnGermSameRow, standIns := [], harness := (true, "337e193f7f78f2fb31b6ac039d258a0d7f543325c27dd4c2e5161ff2b315727c"), looks := true }, kinds := [], alts := [], goes := true, laidByText := true, laidKinds := [.handle], laidTests := true, laidLooks := .later }
def FnGermSameCardSaid : Prop := Claim7.holds Tryz.pinned (.plain (OpenSpec.ofChange fnGermSameSpec)) fnGermSameCard

/-- THE TIED CARD OF 'laws.FnGermCount'. -/
def fnGermCountCard : Claim7 := { stood := { row := fnGermCountRow, standIns := [], harness := (true, "337e193f7f78f2fb31b6ac039d258a0d7f543325c27dd4c2e5161ff2b315727c"), looks := true }, kinds := [], alts := [], goes := true, laidByText := true, laidKinds := [.handle], laidTests := true, laidLooks := .later }
def FnGermCountCardSaid : Prop := Claim7.holds Tryz.pinned (.plain (OpenSpec.ofChange fnGermCountSpec)) fnGermCountCard

/-- THE TIED CARD OF 'laws.FnPlaces'. -/
def fnPlacesCard : Claim7 := { stood := { row := fnPlacesRow, standIns := [], harness := (true, "337e193f7f78f2fb31b6ac039d258a0d7f543325c27dd4c2e5161ff2b315727c"), looks := true }, kinds := [], alts := [], goes := true, laidByText := true, laidKinds := [.handle], laidTests := true, laidLooks := .later }
def FnPlacesCardSaid : Prop := Claim7.holds Tryz.pinned (.plain (OpenSpec.ofChange fnPlacesSpec)) fnPlacesCard

/-- THE SECOND FORM's CARD OF 'laws.FnParts'. -/
def fnPartsUptoCard : Claim7 := { stood := { row := fnPartsUptoRow, standIns := [], harness := (true, "337e193f7f78f2fb31b6ac039d258a0d7f543325c27dd4c2e5161ff2b315727c"), looks := true }, kinds := [], alts := [], goes := true, laidByText := true, laidKinds := [.handle], laidTests := true, laidLooks := .later }
def FnPartsUptoCardSaid : Prop := Claim7.holds Tryz.pinned (.plain (OpenSpec.upto fnPartsSpec)) fnPartsUptoCard

/-- THE SECOND FORM's CARD OF 'laws.FnLocal'. -/
def fnLocalUptoCard : Claim7 := { stood := { row := fnLocalUptoRow, standIns := [], harness := (true, "337e193f7f78f2fb31b6ac039d258a0d7f543325c27dd4c2e5161ff2b315727c"), looks := true }, kinds := [], alts := [], goes := true, laidByText := true, laidKinds := [.handle], laidTests := true, laidLooks := .later }
def FnLocalUptoCardSaid : Prop := Claim7.holds Tryz.pinned (.plain (OpenSpec.upto fnLocalSpec)) fnLocalUptoCard

/-- THE SECOND FORM's CARD OF 'laws.FnFrom'. -/
def fnFromUptoCard : Claim7 := { stood := { row := fnFromUptoRow, standIns := [], harness := (true, "337e193f7f78f2fb31b6ac039d258a0d7f543325c27dd4c2e5161ff2b315727c"), looks := true }, kinds := [], alts := [], goes := true, laidByText := true, laidKinds := [.handle], laidTests := true, laidLooks := .later }
def FnFromUptoCardSaid : Prop := Claim7.holds Tryz.pinned (.plain (OpenSpec.upto fnFromSpec)) fnFromUptoCard

/-- THE SECOND FORM's CARD OF 'laws.FnGermSame'. -/
def fnGermSameUptoCard : Claim7 := { stood := { row := fnGermSameUptoRow, standIns := [], harness := (true, "337e193f7f78f2fb31b6ac039d258a0d7f543325c27dd4c2e5161ff2b315727c"), looks := true }, kinds := [], alts := [], goes := true, laidByText := true, laidKinds := [.handle], laidTests := true, laidLooks := .later }
def FnGermSameUptoCardSaid : Prop := Claim7.holds Tryz.pinned (.plain (OpenSpec.upto fnGermSameSpec)) fnGermSameUptoCard

/-- THE SECOND FORM's CARD OF 'laws.FnGermCount'. -/
def fnGermCountUptoCard : Claim7 := { stood := { row := fnGermCountUptoRow, standIns := [], harness := (true, "337e193f7f78f2fb31b6ac039d258a0d7f543325c27dd4c2e5161ff2b315727c"), looks := true }, kinds := [], alts := [], goes := true, laidByText := true, laidKinds := [.handle], laidTests := true, laidLooks := .later }
def FnGermCountUptoCardSaid : Prop := Claim7.holds Tryz.pinned (.plain (OpenSpec.upto fnGermCountSpec)) fnGermCountUptoCard

/-- THE SECOND FORM's CARD OF 'laws.FnPlaces'. -/
def fnPlacesUptoCard : Claim7 := { stood := { row := fnPlacesUptoRow, standIns := [], harness := (true, "337e193f7f78f2fb31b6ac039d258a0d7f543325c27dd4c2e5161ff2b315727c"), looks := true }, kinds := [], alts := [], goes := true, laidByText := true, laidKinds := [.handle], laidTests := true, laidLooks := .later }
def FnPlacesUptoCardSaid : Prop := Claim7.holds Tryz.pinned (.plain (OpenSpec.upto fnPlacesSpec)) fnPlacesUptoCard
end Rows
end Go.Proofs.YtdipcjnnknggnaaGreatDoor
