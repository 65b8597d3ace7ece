/-
  DERIVED. GIVEN WITH THE SEED: THE CARDS: each row of YtefpkallocnlkaaDoorRows.lean that lists a variable, with what it lists TIED to the program's text (the seventh form; the later family's looks); each row that meets fmt, with fmt's text TOLD by the authors' own Lean function (tested against real Go, not proved from fmt's source: count such statements apart). THE CARD IS WHAT COUNTS. Prove the row's statement (the work); the ties are given (YtefpkallocnlkaaDoorTie.lean); close each card by the builder's one call (the guide's Derived/Test/ToyasCard.lean, 'card_holds'). Laid BY PROGRAM, IN A SANDBOX (cutbox-door.mjs). By AI agents, Wed Nov 11 2026. No macro, syntax, notation, axiom, sorry.
-/
import Derived.Test.YtefpkallocnlkaaDoorRows
import GoSem.ClaimSeven
namespace Go.Proofs.YtefpkallocnlkaaDoor
namespace Rows

/-- THE TIED CARD OF 'laws.FnExactSemigroupIn'. -/
def fnExactSemigroupInCard : Claim7 := { stood := { row := fnExactSemigroupInRow, standIns := [], harness := (true, "a9addfbaf30a9f1fc9a57a8057382d96547ccd1b4f3b9b604658daf65d617936"), looks := true }, kinds := [], alts := [], laidByText := true, laidKinds := [.handle], laidTests := true, laidLooks := .later }
def FnExactSemigroupInCardSaid : Prop := Claim7.holds Tryd.pinned (.plain (OpenSpec.ofChange fnExactSemigroupInSpec)) fnExactSemigroupInCard

/-- THE TIED CARD OF 'laws.FnExactSemigroupGroup'. -/
def fnExactSemigroupGroupCard : Claim7 := { stood := { row := fnExactSemigroupGroupRow, standIns := [], harness := (true, "a9addfbaf30a9f1fc9a57a8057382d96547ccd1b4f3b9b604658daf65d617936"), looks := true }, kinds := [], alts := [], laidByText := true, laidKinds := [.handle], laidTests := true, laidLooks := .later }
def FnExactSemigroupGroupCardSaid : Prop := Claim7.holds Tryd.pinned (.plain (OpenSpec.ofChange fnExactSemigroupGroupSpec)) fnExactSemigroupGroupCard

/-- THE TIED CARD OF 'laws.FnExactSemigroupUnitary'. -/
def fnExactSemigroupUnitaryCard : Claim7 := { stood := { row := fnExactSemigroupUnitaryRow, standIns := [], harness := (true, "a9addfbaf30a9f1fc9a57a8057382d96547ccd1b4f3b9b604658daf65d617936"), looks := true }, kinds := [], alts := [], laidByText := true, laidKinds := [.handle], laidTests := true, laidLooks := .later }
def FnExactSemigroupUnitaryCardSaid : Prop := Claim7.holds Tryd.pinned (.plain (OpenSpec.ofChange fnExactSemigroupUnitarySpec)) fnExactSemigroupUnitaryCard

/-- THE TIED CARD OF 'laws.FnExactSemigroupSwaps'. -/
def fnExactSemigroupSwapsCard : Claim7 := { stood := { row := fnExactSemigroupSwapsRow, standIns := [], harness := (true, "a9addfbaf30a9f1fc9a57a8057382d96547ccd1b4f3b9b604658daf65d617936"), looks := true }, kinds := [], alts := [], laidByText := true, laidKinds := [.handle], laidTests := true, laidLooks := .later }
def FnExactSemigroupSwapsCardSaid : Prop := Claim7.holds Tryd.pinned (.plain (OpenSpec.ofChange fnExactSemigroupSwapsSpec)) fnExactSemigroupSwapsCard

/-- THE SECOND FORM's CARD OF 'laws.FnExactSemigroupIn'. -/
def fnExactSemigroupInUptoCard : Claim7 := { stood := { row := fnExactSemigroupInUptoRow, standIns := [], harness := (true, "a9addfbaf30a9f1fc9a57a8057382d96547ccd1b4f3b9b604658daf65d617936"), looks := true }, kinds := [], alts := [], laidByText := true, laidKinds := [.handle], laidTests := true, laidLooks := .later }
def FnExactSemigroupInUptoCardSaid : Prop := Claim7.holds Tryd.pinned (.plain (OpenSpec.upto fnExactSemigroupInSpec)) fnExactSemigroupInUptoCard

/-- THE SECOND FORM's CARD OF 'laws.FnExactSemigroupGroup'. -/
def fnExactSemigroupGroupUptoCard : Claim7 := { stood := { row := fnExactSemigroupGroupUptoRow, standIns := [], harness := (true, "a9addfbaf30a9f1fc9a57a8057382d96547ccd1b4f3b9b604658daf65d617936"), looks := true }, kinds := [], alts := [], laidByText := true, laidKinds := [.handle], laidTests := true, laidLooks := .later }
def FnExactSemigroupGroupUptoCardSaid : Prop := Claim7.holds Tryd.pinned (.plain (OpenSpec.upto fnExactSemigroupGroupSpec)) fnExactSemigroupGroupUptoCard

/-- THE SECOND FORM's CARD OF 'laws.FnExactSemigroupUnitary'. -/
def fnExactSemigroupUnitaryUptoCard : Claim7 := { stood := { row := fnExactSemigroupUnitaryUptoRow, standIns := [], harness := (true, "a9addfbaf30a9f1fc9a57a8057382d96547ccd1b4f3b9b604658daf65d617936"), looks := true }, kinds := [], alts := [], laidByText := true, laidKinds := [.handle], laidTests := true, laidLooks := .later }
def FnExactSemigroupUnitaryUptoCardSaid : Prop := Claim7.holds Tryd.pinned (.plain (OpenSpec.upto fnExactSemigroupUnitarySpec)) fnExactSemigroupUnitaryUptoCard

/-- THE SECOND FORM's CARD OF 'laws.FnExactSemigroupSwaps'. -/
def fnExactSemigroupSwapsUptoCard : Claim7 := { stood := { row := fnExactSemigroupSwapsUptoRow, standIns := [], harness := (true, "a9addfbaf30a9f1fc9a57a8057382d96547ccd1b4f3b9b604658daf65d617936"), looks := true }, kinds := [], alts := [], laidByText := true, laidKinds := [.handle], laidTests := true, laidLooks := .later }
def FnExactSemigroupSwapsUptoCardSaid : Prop := Claim7.holds Tryd.pinned (.plain (OpenSpec.upto fnExactSemigroupSwapsSpec)) fnExactSemigroupSwapsUptoCard
end Rows
end Go.Proofs.YtefpkallocnlkaaDoor
