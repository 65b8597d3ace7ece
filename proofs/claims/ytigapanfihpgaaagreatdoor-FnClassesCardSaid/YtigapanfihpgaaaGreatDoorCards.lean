/-
  DERIVED. GIVEN WITH THE SEED: THE CARDS: each row of YtigapanfihpgaaaGreatDoorRows.lean that lists a variable, with what it lists TIED to the program's text (the seventh form; the later family's looks); each row that meets fmt, with fmt's text TOLD by the authors' own Lean function (tested against real Go, not proved from fmt's source: count such statements apart). THE CARD IS WHAT COUNTS. Prove the row's statement (the work); the ties are given (YtigapanfihpgaaaGreatDoorTie.lean); close each card by the builder's one call (the guide's Derived/Test/ToyasCard.lean, 'card_holds'). Laid BY PROGRAM, IN A SANDBOX (cutbox-door.mjs). By AI agents, Wed Nov 11 2026. No macro, syntax, notation, axiom, sorry.
-/
import Derived.Test.YtigapanfihpgaaaGreatDoorRows
import GoSem.ClaimSeven
namespace Go.Proofs.YtigapanfihpgaaaGreatDoor
namespace Rows

/-- THE TIED CARD OF 'laws.FnIdems'. -/
def fnIdemsCard : Claim7 := { stood := { row := fnIdemsRow, standIns := [], harness := (true, "d6cbd6545180b8f14813afabb3c5a3c91214e81ef26ab67e3e24d04cc1876bfb"), looks := true }, kinds := [], alts := [], laidByText := true, laidKinds := [.handle], laidTests := true, laidLooks := .later }
def FnIdemsCardSaid : Prop := Claim7.holds Tryz.pinned (.plain (OpenSpec.ofChange fnIdemsSpec)) fnIdemsCard

/-- THE TIED CARD OF 'laws.FnGroup'. -/
def fnGroupCard : Claim7 := { stood := { row := fnGroupRow, standIns := [], harness := (true, "d6cbd6545180b8f14813afabb3c5a3c91214e81ef26ab67e3e24d04cc1876bfb"), looks := true }, kinds := [], alts := [], laidByText := true, laidKinds := [.handle], laidTests := true, laidLooks := .later }
def FnGroupCardSaid : Prop := Claim7.holds Tryz.pinned (.plain (OpenSpec.ofChange fnGroupSpec)) fnGroupCard

/-- THE TIED CARD OF 'laws.FnBottom'. -/
def fnBottomCard : Claim7 := { stood := { row := fnBottomRow, standIns := [], harness := (true, "d6cbd6545180b8f14813afabb3c5a3c91214e81ef26ab67e3e24d04cc1876bfb"), looks := true }, kinds := [], alts := [], laidByText := true, laidKinds := [.handle], laidTests := true, laidLooks := .later }
def FnBottomCardSaid : Prop := Claim7.holds Tryz.pinned (.plain (OpenSpec.ofChange fnBottomSpec)) fnBottomCard

/-- THE TIED CARD OF 'laws.FnIdeal'. -/
def fnIdealCard : Claim7 := { stood := { row := fnIdealRow, standIns := [], harness := (true, "d6cbd6545180b8f14813afabb3c5a3c91214e81ef26ab67e3e24d04cc1876bfb"), looks := true }, kinds := [], alts := [], laidByText := true, laidKinds := [.handle], laidTests := true, laidLooks := .later }
def FnIdealCardSaid : Prop := Claim7.holds Tryz.pinned (.plain (OpenSpec.ofChange fnIdealSpec)) fnIdealCard

/-- THE TIED CARD OF 'laws.FnClasses'. -/
def fnClassesCard : Claim7 := { stood := { row := fnClassesRow, standIns := [], harness := (true, "d6cbd6545180b8f14813afabb3c5a3c91214e81ef26ab67e3e24d04cc1876bfb"), looks := true }, kinds := [], alts := [], laidByText := true, laidKinds := [.handle], laidTests := true, laidLooks := .later }
def FnClassesCardSaid : Prop := Claim7.holds Tryz.pinned (.plain (OpenSpec.ofChange fnClassesSpec)) fnClassesCard

/-- THE TIED CARD OF 'laws.FnTops'. -/
def fnTopsCard : Claim7 := { stood := { row := fnTopsRow, standIns := [], harness := (true, "d6cbd6545180b8f14813afabb3c5a3c91214e81ef26ab67e3e24d04cc1876bfb"), looks := true }, kinds := [], alts := [], laidByText := true, laidKinds := [.handle], laidTests := true, laidLooks := .later }
def FnTopsCardSaid : Prop := Claim7.holds Tryz.pinned (.plain (OpenSpec.ofChange fnTopsSpec)) fnTopsCard

/-- THE TIED CARD OF 'laws.FnAbove'. -/
def fnAboveCard : Claim7 := { stood := { row := fnAboveRow, standIns := [], harness := (true, "d6cbd6545180b8f14813afabb3c5a3c91214e81ef26ab67e3e24d04cc1876bfb"), looks := true }, kinds := [], alts := [], laidByText := true, laidKinds := [.handle], laidTests := true, laidLooks := .later }
def FnAboveCardSaid : Prop := Claim7.holds Tryz.pinned (.plain (OpenSpec.ofChange fnAboveSpec)) fnAboveCard

/-- THE TIED CARD OF 'laws.FnUnitary'. -/
def fnUnitaryCard : Claim7 := { stood := { row := fnUnitaryRow, standIns := [], harness := (true, "d6cbd6545180b8f14813afabb3c5a3c91214e81ef26ab67e3e24d04cc1876bfb"), looks := true }, kinds := [], alts := [], laidByText := true, laidKinds := [.handle], laidTests := true, laidLooks := .later }
def FnUnitaryCardSaid : Prop := Claim7.holds Tryz.pinned (.plain (OpenSpec.ofChange fnUnitarySpec)) fnUnitaryCard

/-- THE TIED CARD OF 'laws.FnSwaps'. -/
def fnSwapsCard : Claim7 := { stood := { row := fnSwapsRow, standIns := [], harness := (true, "d6cbd6545180b8f14813afabb3c5a3c91214e81ef26ab67e3e24d04cc1876bfb"), looks := true }, kinds := [], alts := [], laidByText := true, laidKinds := [.handle], laidTests := true, laidLooks := .later }
def FnSwapsCardSaid : Prop := Claim7.holds Tryz.pinned (.plain (OpenSpec.ofChange fnSwapsSpec)) fnSwapsCard

/-- THE SECOND FORM's CARD OF 'laws.FnIdems'. -/
def fnIdemsUptoCard : Claim7 := { stood := { row := fnIdemsUptoRow, standIns := [], harness := (true, "d6cbd6545180b8f14813afabb3c5a3c91214e81ef26ab67e3e24d04cc1876bfb"), looks := true }, kinds := [], alts := [], laidByText := true, laidKinds := [.handle], laidTests := true, laidLooks := .later }
def FnIdemsUptoCardSaid : Prop := Claim7.holds Tryz.pinned (.plain (OpenSpec.upto fnIdemsSpec)) fnIdemsUptoCard

/-- THE SECOND FORM's CARD OF 'laws.FnGroup'. -/
def fnGroupUptoCard : Claim7 := { stood := { row := fnGroupUptoRow, standIns := [], harness := (true, "d6cbd6545180b8f14813afabb3c5a3c91214e81ef26ab67e3e24d04cc1876bfb"), looks := true }, kinds := [], alts := [], laidByText := true, laidKinds := [.handle], laidTests := true, laidLooks := .later }
def FnGroupUptoCardSaid : Prop := Claim7.holds Tryz.pinned (.plain (OpenSpec.upto fnGroupSpec)) fnGroupUptoCard

/-- THE SECOND FORM's CARD OF 'laws.FnBottom'. -/
def fnBottomUptoCard : Claim7 := { stood := { row := fnBottomUptoRow, standIns := [], harness := (true, "d6cbd6545180b8f14813afabb3c5a3c91214e81ef26ab67e3e24d04cc1876bfb"), looks := true }, kinds := [], alts := [], laidByText := true, laidKinds := [.handle], laidTests := true, laidLooks := .later }
def FnBottomUptoCardSaid : Prop := Claim7.holds Tryz.pinned (.plain (OpenSpec.upto fnBottomSpec)) fnBottomUptoCard

/-- THE SECOND FORM's CARD OF 'laws.FnIdeal'. -/
def fnIdealUptoCard : Claim7 := { stood := { row := fnIdealUptoRow, standIns := [], harness := (true, "d6cbd6545180b8f14813afabb3c5a3c91214e81ef26ab67e3e24d04cc1876bfb"), looks := true }, kinds := [], alts := [], laidByText := true, laidKinds := [.handle], laidTests := true, laidLooks := .later }
def FnIdealUptoCardSaid : Prop := Claim7.holds Tryz.pinned (.plain (OpenSpec.upto fnIdealSpec)) fnIdealUptoCard

/-- THE SECOND FORM's CARD OF 'laws.FnClasses'. -/
def fnClassesUptoCard : Claim7 := { stood := { row := fnClassesUptoRow, standIns := [], harness := (true, "d6cbd6545180b8f14813afabb3c5a3c91214e81ef26ab67e3e24d04cc1876bfb"), looks := true }, kinds := [], alts := [], laidByText := true, laidKinds := [.handle], laidTests := true, laidLooks := .later }
def FnClassesUptoCardSaid : Prop := Claim7.holds Tryz.pinned (.plain (OpenSpec.upto fnClassesSpec)) fnClassesUptoCard

/-- THE SECOND FORM's CARD OF 'laws.FnTops'. -/
def fnTopsUptoCard : Claim7 := { stood := { row := fnTopsUptoRow, standIns := [], harness := (true, "d6cbd6545180b8f14813afabb3c5a3c91214e81ef26ab67e3e24d04cc1876bfb"), looks := true }, kinds := [], alts := [], laidByText := true, laidKinds := [.handle], laidTests := true, laidLooks := .later }
def FnTopsUptoCardSaid : Prop := Claim7.holds Tryz.pinned (.plain (OpenSpec.upto fnTopsSpec)) fnTopsUptoCard

/-- THE SECOND FORM's CARD OF 'laws.FnAbove'. -/
def fnAboveUptoCard : Claim7 := { stood := { row := fnAboveUptoRow, standIns := [], harness := (true, "d6cbd6545180b8f14813afabb3c5a3c91214e81ef26ab67e3e24d04cc1876bfb"), looks := true }, kinds := [], alts := [], laidByText := true, laidKinds := [.handle], laidTests := true, laidLooks := .later }
def FnAboveUptoCardSaid : Prop := Claim7.holds Tryz.pinned (.plain (OpenSpec.upto fnAboveSpec)) fnAboveUptoCard

/-- THE SECOND FORM's CARD OF 'laws.FnUnitary'. -/
def fnUnitaryUptoCard : Claim7 := { stood := { row := fnUnitaryUptoRow, standIns := [], harness := (true, "d6cbd6545180b8f14813afabb3c5a3c91214e81ef26ab67e3e24d04cc1876bfb"), looks := true }, kinds := [], alts := [], laidByText := true, laidKinds := [.handle], laidTests := true, laidLooks := .later }
def FnUnitaryUptoCardSaid : Prop := Claim7.holds Tryz.pinned (.plain (OpenSpec.upto fnUnitarySpec)) fnUnitaryUptoCard

/-- THE SECOND FORM's CARD OF 'laws.FnSwaps'. -/
def fnSwapsUptoCard : Claim7 := { stood := { row := fnSwapsUptoRow, standIns := [], harness := (true, "d6cbd6545180b8f14813afabb3c5a3c91214e81ef26ab67e3e24d04cc1876bfb"), looks := true }, kinds := [], alts := [], laidByText := true, laidKinds := [.handle], laidTests := true, laidLooks := .later }
def FnSwapsUptoCardSaid : Prop := Claim7.holds Tryz.pinned (.plain (OpenSpec.upto fnSwapsSpec)) fnSwapsUptoCard
end Rows
end Go.Proofs.YtigapanfihpgaaaGreatDoor
