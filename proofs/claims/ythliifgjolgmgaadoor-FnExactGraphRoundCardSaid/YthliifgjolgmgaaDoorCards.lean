/-
  DERIVED. GIVEN WITH THE SEED: THE CARDS: each row of YthliifgjolgmgaaDoorRows.lean that lists a variable, with what it lists TIED to the program's text (the seventh form; the later family's looks); each row that meets fmt, with fmt's text TOLD by the authors' own Lean function (tested against real Go, not proved from fmt's source: count such statements apart). THE CARD IS WHAT COUNTS. Prove the row's statement (the work); the ties are given (YthliifgjolgmgaaDoorTie.lean); close each card by the builder's one call (the guide's Derived/Test/ToyasCard.lean, 'card_holds'). Laid BY PROGRAM, IN A SANDBOX (cutbox-door.mjs). By AI agents, Wed Nov 11 2026. No macro, syntax, notation, axiom, sorry.
-/
import Derived.Test.YthliifgjolgmgaaDoorRows
import GoSem.ClaimSeven
namespace Go.Proofs.YthliifgjolgmgaaDoor
namespace Rows

/-- THE TIED CARD OF 'laws.FnExactGraphOf'. -/
def fnExactGraphOfCard : Claim7 := { stood := { row := fnExactGraphOfRow, standIns := [], harness := (true, "de7cf5ad17ea25419ae14a23ea5523c15a460b3e337dd6d353d465ebfe0a4664"), looks := false }, kinds := [], alts := [], laidByText := true, laidKinds := [.data, .pinned], laidTests := true, laidLooks := .later }
def FnExactGraphOfCardSaid : Prop := Claim7.holds Tryd.pinned (.plain (OpenSpec.ofChange fnExactGraphOfSpec)) fnExactGraphOfCard

/-- THE TIED CARD OF 'laws.FnExactGraphRound'. -/
def fnExactGraphRoundCard : Claim7 := { stood := { row := fnExactGraphRoundRow, standIns := [], harness := (true, "de7cf5ad17ea25419ae14a23ea5523c15a460b3e337dd6d353d465ebfe0a4664"), looks := false }, kinds := [], alts := [], laidByText := true, laidKinds := [.data, .pinned], laidTests := true, laidLooks := .later }
def FnExactGraphRoundCardSaid : Prop := Claim7.holds Tryd.pinned (.plain (OpenSpec.ofChange fnExactGraphRoundSpec)) fnExactGraphRoundCard

/-- THE TIED CARD OF 'laws.FnExactGraphBase'. -/
def fnExactGraphBaseCard : Claim7 := { stood := { row := fnExactGraphBaseRow, standIns := [], harness := (true, "de7cf5ad17ea25419ae14a23ea5523c15a460b3e337dd6d353d465ebfe0a4664"), looks := false }, kinds := [], alts := [], laidByText := true, laidKinds := [.data, .pinned], laidTests := true, laidLooks := .later }
def FnExactGraphBaseCardSaid : Prop := Claim7.holds Tryd.pinned (.plain (OpenSpec.ofChange fnExactGraphBaseSpec)) fnExactGraphBaseCard

/-- THE SECOND FORM's CARD OF 'laws.FnExactGraphOf'. -/
def fnExactGraphOfUptoCard : Claim7 := { stood := { row := fnExactGraphOfUptoRow, standIns := [], harness := (true, "de7cf5ad17ea25419ae14a23ea5523c15a460b3e337dd6d353d465ebfe0a4664"), looks := false }, kinds := [], alts := [], laidByText := true, laidKinds := [.data, .pinned], laidTests := true, laidLooks := .later }
def FnExactGraphOfUptoCardSaid : Prop := Claim7.holds Tryd.pinned (.plain (OpenSpec.upto fnExactGraphOfSpec)) fnExactGraphOfUptoCard

/-- THE SECOND FORM's CARD OF 'laws.FnExactGraphRound'. -/
def fnExactGraphRoundUptoCard : Claim7 := { stood := { row := fnExactGraphRoundUptoRow, standIns := [], harness := (true, "de7cf5ad17ea25419ae14a23ea5523c15a460b3e337dd6d353d465ebfe0a4664"), looks := false }, kinds := [], alts := [], laidByText := true, laidKinds := [.data, .pinned], laidTests := true, laidLooks := .later }
def FnExactGraphRoundUptoCardSaid : Prop := Claim7.holds Tryd.pinned (.plain (OpenSpec.upto fnExactGraphRoundSpec)) fnExactGraphRoundUptoCard

/-- THE SECOND FORM's CARD OF 'laws.FnExactGraphBase'. -/
def fnExactGraphBaseUptoCard : Claim7 := { stood := { row := fnExactGraphBaseUptoRow, standIns := [], harness := (true, "de7cf5ad17ea25419ae14a23ea5523c15a460b3e337dd6d353d465ebfe0a4664"), looks := false }, kinds := [], alts := [], laidByText := true, laidKinds := [.data, .pinned], laidTests := true, laidLooks := .later }
def FnExactGraphBaseUptoCardSaid : Prop := Claim7.holds Tryd.pinned (.plain (OpenSpec.upto fnExactGraphBaseSpec)) fnExactGraphBaseUptoCard
end Rows
end Go.Proofs.YthliifgjolgmgaaDoor
