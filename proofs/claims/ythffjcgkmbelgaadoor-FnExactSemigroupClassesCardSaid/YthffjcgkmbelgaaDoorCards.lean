/-
  DERIVED. GIVEN WITH THE SEED: THE CARDS: each row of YthffjcgkmbelgaaDoorRows.lean that lists a variable, with what it lists TIED to the program's text (the seventh form; the later family's looks); each row that meets fmt, with fmt's text TOLD by the authors' own Lean function (tested against real Go, not proved from fmt's source: count such statements apart). THE CARD IS WHAT COUNTS. Prove the row's statement (the work); the ties are given (YthffjcgkmbelgaaDoorTie.lean); close each card by the builder's one call (the guide's Derived/Test/ToyasCard.lean, 'card_holds'). Laid BY PROGRAM, IN A SANDBOX (cutbox-door.mjs). By AI agents, Wed Nov 11 2026. No macro, syntax, notation, axiom, sorry.
-/
import Derived.Test.YthffjcgkmbelgaaDoorRows
import GoSem.ClaimSeven
namespace Go.Proofs.YthffjcgkmbelgaaDoor
namespace Rows

/-- THE TIED CARD OF 'laws.FnExactSemigroupIdems'. -/
def fnExactSemigroupIdemsCard : Claim7 := { stood := { row := fnExactSemigroupIdemsRow, standIns := [], harness := (true, "1508ae66e164f096fb36c09a4b55ca3afe3342269dd3bc43cf1d220ce710d222"), looks := true }, kinds := [], alts := [], laidByText := true, laidKinds := [.handle], laidTests := true, laidLooks := .later }
def FnExactSemigroupIdemsCardSaid : Prop := Claim7.holds Tryd.pinned (.plain (OpenSpec.ofChange fnExactSemigroupIdemsSpec)) fnExactSemigroupIdemsCard

/-- THE TIED CARD OF 'laws.FnExactSemigroupBottom'. -/
def fnExactSemigroupBottomCard : Claim7 := { stood := { row := fnExactSemigroupBottomRow, standIns := [], harness := (true, "1508ae66e164f096fb36c09a4b55ca3afe3342269dd3bc43cf1d220ce710d222"), looks := true }, kinds := [], alts := [], laidByText := true, laidKinds := [.handle], laidTests := true, laidLooks := .later }
def FnExactSemigroupBottomCardSaid : Prop := Claim7.holds Tryd.pinned (.plain (OpenSpec.ofChange fnExactSemigroupBottomSpec)) fnExactSemigroupBottomCard

/-- THE TIED CARD OF 'laws.FnExactSemigroupTops'. -/
def fnExactSemigroupTopsCard : Claim7 := { stood := { row := fnExactSemigroupTopsRow, standIns := [], harness := (true, "1508ae66e164f096fb36c09a4b55ca3afe3342269dd3bc43cf1d220ce710d222"), looks := true }, kinds := [], alts := [], laidByText := true, laidKinds := [.handle], laidTests := true, laidLooks := .later }
def FnExactSemigroupTopsCardSaid : Prop := Claim7.holds Tryd.pinned (.plain (OpenSpec.ofChange fnExactSemigroupTopsSpec)) fnExactSemigroupTopsCard

/-- THE TIED CARD OF 'laws.FnExactSemigroupAbove'. -/
def fnExactSemigroupAboveCard : Claim7 := { stood := { row := fnExactSemigroupAboveRow, standIns := [], harness := (true, "1508ae66e164f096fb36c09a4b55ca3afe3342269dd3bc43cf1d220ce710d222"), looks := true }, kinds := [], alts := [], laidByText := true, laidKinds := [.handle], laidTests := true, laidLooks := .later }
def FnExactSemigroupAboveCardSaid : Prop := Claim7.holds Tryd.pinned (.plain (OpenSpec.ofChange fnExactSemigroupAboveSpec)) fnExactSemigroupAboveCard

/-- THE TIED CARD OF 'laws.FnExactSemigroupSwaps'. -/
def fnExactSemigroupSwapsCard : Claim7 := { stood := { row := fnExactSemigroupSwapsRow, standIns := [], harness := (true, "1508ae66e164f096fb36c09a4b55ca3afe3342269dd3bc43cf1d220ce710d222"), looks := true }, kinds := [], alts := [], laidByText := true, laidKinds := [.handle], laidTests := true, laidLooks := .later }
def FnExactSemigroupSwapsCardSaid : Prop := Claim7.holds Tryd.pinned (.plain (OpenSpec.ofChange fnExactSemigroupSwapsSpec)) fnExactSemigroupSwapsCard

/-- THE TIED CARD OF 'laws.FnExactSemigroupClasses'. -/
def fnExactSemigroupClassesCard : Claim7 := { stood := { row := fnExactSemigroupClassesRow, standIns := [], harness := (true, "1508ae66e164f096fb36c09a4b55ca3afe3342269dd3bc43cf1d220ce710d222"), looks := true }, kinds := [], alts := [], laidByText := true, laidKinds := [.handle], laidTests := true, laidLooks := .later }
def FnExactSemigroupClassesCardSaid : Prop := Claim7.holds Tryd.pinned (.plain (OpenSpec.ofChange fnExactSemigroupClassesSpec)) fnExactSemigroupClassesCard

/-- THE TIED CARD OF 'laws.FnExactSemigroupIdeal'. -/
def fnExactSemigroupIdealCard : Claim7 := { stood := { row := fnExactSemigroupIdealRow, standIns := [], harness := (true, "1508ae66e164f096fb36c09a4b55ca3afe3342269dd3bc43cf1d220ce710d222"), looks := true }, kinds := [], alts := [], laidByText := true, laidKinds := [.handle], laidTests := true, laidLooks := .later }
def FnExactSemigroupIdealCardSaid : Prop := Claim7.holds Tryd.pinned (.plain (OpenSpec.ofChange fnExactSemigroupIdealSpec)) fnExactSemigroupIdealCard

/-- THE TIED CARD OF 'laws.FnExactSemigroupOf'. -/
def fnExactSemigroupOfCard : Claim7 := { stood := { row := fnExactSemigroupOfRow, standIns := [], harness := (true, "1508ae66e164f096fb36c09a4b55ca3afe3342269dd3bc43cf1d220ce710d222"), looks := true }, kinds := [], alts := [], laidByText := true, laidKinds := [.handle], laidTests := true, laidLooks := .later }
def FnExactSemigroupOfCardSaid : Prop := Claim7.holds Tryd.pinned (.plain (OpenSpec.ofChange fnExactSemigroupOfSpec)) fnExactSemigroupOfCard

/-- THE SECOND FORM's CARD OF 'laws.FnExactSemigroupIdems'. -/
def fnExactSemigroupIdemsUptoCard : Claim7 := { stood := { row := fnExactSemigroupIdemsUptoRow, standIns := [], harness := (true, "1508ae66e164f096fb36c09a4b55ca3afe3342269dd3bc43cf1d220ce710d222"), looks := true }, kinds := [], alts := [], laidByText := true, laidKinds := [.handle], laidTests := true, laidLooks := .later }
def FnExactSemigroupIdemsUptoCardSaid : Prop := Claim7.holds Tryd.pinned (.plain (OpenSpec.upto fnExactSemigroupIdemsSpec)) fnExactSemigroupIdemsUptoCard

/-- THE SECOND FORM's CARD OF 'laws.FnExactSemigroupBottom'. -/
def fnExactSemigroupBottomUptoCard : Claim7 := { stood := { row := fnExactSemigroupBottomUptoRow, standIns := [], harness := (true, "1508ae66e164f096fb36c09a4b55ca3afe3342269dd3bc43cf1d220ce710d222"), looks := true }, kinds := [], alts := [], laidByText := true, laidKinds := [.handle], laidTests := true, laidLooks := .later }
def FnExactSemigroupBottomUptoCardSaid : Prop := Claim7.holds Tryd.pinned (.plain (OpenSpec.upto fnExactSemigroupBottomSpec)) fnExactSemigroupBottomUptoCard

/-- THE SECOND FORM's CARD OF 'laws.FnExactSemigroupTops'. -/
def fnExactSemigroupTopsUptoCard : Claim7 := { stood := { row := fnExactSemigroupTopsUptoRow, standIns := [], harness := (true, "1508ae66e164f096fb36c09a4b55ca3afe3342269dd3bc43cf1d220ce710d222"), looks := true }, kinds := [], alts := [], laidByText := true, laidKinds := [.handle], laidTests := true, laidLooks := .later }
def FnExactSemigroupTopsUptoCardSaid : Prop := Claim7.holds Tryd.pinned (.plain (OpenSpec.upto fnExactSemigroupTopsSpec)) fnExactSemigroupTopsUptoCard

/-- THE SECOND FORM's CARD OF 'laws.FnExactSemigroupAbove'. -/
def fnExactSemigroupAboveUptoCard : Claim7 := { stood := { row := fnExactSemigroupAboveUptoRow, standIns := [], harness := (true, "1508ae66e164f096fb36c09a4b55ca3afe3342269dd3bc43cf1d220ce710d222"), looks := true }, kinds := [], alts := [], laidByText := true, laidKinds := [.handle], laidTests := true, laidLooks := .later }
def FnExactSemigroupAboveUptoCardSaid : Prop := Claim7.holds Tryd.pinned (.plain (OpenSpec.upto fnExactSemigroupAboveSpec)) fnExactSemigroupAboveUptoCard

/-- THE SECOND FORM's CARD OF 'laws.FnExactSemigroupSwaps'. -/
def fnExactSemigroupSwapsUptoCard : Claim7 := { stood := { row := fnExactSemigroupSwapsUptoRow, standIns := [], harness := (true, "1508ae66e164f096fb36c09a4b55ca3afe3342269dd3bc43cf1d220ce710d222"), looks := true }, kinds := [], alts := [], laidByText := true, laidKinds := [.handle], laidTests := true, laidLooks := .later }
def FnExactSemigroupSwapsUptoCardSaid : Prop := Claim7.holds Tryd.pinned (.plain (OpenSpec.upto fnExactSemigroupSwapsSpec)) fnExactSemigroupSwapsUptoCard

/-- THE SECOND FORM's CARD OF 'laws.FnExactSemigroupClasses'. -/
def fnExactSemigroupClassesUptoCard : Claim7 := { stood := { row := fnExactSemigroupClassesUptoRow, standIns := [], harness := (true, "1508ae66e164f096fb36c09a4b55ca3afe3342269dd3bc43cf1d220ce710d222"), looks := true }, kinds := [], alts := [], laidByText := true, laidKinds := [.handle], laidTests := true, laidLooks := .later }
def FnExactSemigroupClassesUptoCardSaid : Prop := Claim7.holds Tryd.pinned (.plain (OpenSpec.upto fnExactSemigroupClassesSpec)) fnExactSemigroupClassesUptoCard

/-- THE SECOND FORM's CARD OF 'laws.FnExactSemigroupIdeal'. -/
def fnExactSemigroupIdealUptoCard : Claim7 := { stood := { row := fnExactSemigroupIdealUptoRow, standIns := [], harness := (true, "1508ae66e164f096fb36c09a4b55ca3afe3342269dd3bc43cf1d220ce710d222"), looks := true }, kinds := [], alts := [], laidByText := true, laidKinds := [.handle], laidTests := true, laidLooks := .later }
def FnExactSemigroupIdealUptoCardSaid : Prop := Claim7.holds Tryd.pinned (.plain (OpenSpec.upto fnExactSemigroupIdealSpec)) fnExactSemigroupIdealUptoCard

/-- THE SECOND FORM's CARD OF 'laws.FnExactSemigroupOf'. -/
def fnExactSemigroupOfUptoCard : Claim7 := { stood := { row := fnExactSemigroupOfUptoRow, standIns := [], harness := (true, "1508ae66e164f096fb36c09a4b55ca3afe3342269dd3bc43cf1d220ce710d222"), looks := true }, kinds := [], alts := [], laidByText := true, laidKinds := [.handle], laidTests := true, laidLooks := .later }
def FnExactSemigroupOfUptoCardSaid : Prop := Claim7.holds Tryd.pinned (.plain (OpenSpec.upto fnExactSemigroupOfSpec)) fnExactSemigroupOfUptoCard
end Rows
end Go.Proofs.YthffjcgkmbelgaaDoor
