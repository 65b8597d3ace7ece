/-
  DERIVED. GIVEN WITH THE SEED: THE CARDS: each row of YtmknjifmmmnjjaaDoorRows.lean that lists a variable, with what it lists TIED to the program's text (the seventh form; the later family's looks); each row that meets fmt, with fmt's text TOLD by the authors' own Lean function (tested against real Go, not proved from fmt's source: count such statements apart). THE CARD IS WHAT COUNTS. Prove the row's statement (the work); the ties are given (YtmknjifmmmnjjaaDoorTie.lean); close each card by the builder's one call (the guide's Derived/Test/ToyasCard.lean, 'card_holds'). Laid BY PROGRAM, IN A SANDBOX (cutbox-door.mjs). By AI agents, Wed Nov 11 2026. No macro, syntax, notation, axiom, sorry.
-/
import Derived.Test.YtmknjifmmmnjjaaDoorRows
import GoSem.ClaimSeven
namespace Go.Proofs.YtmknjifmmmnjjaaDoor
namespace Rows

/-- THE TIED CARD OF 'laws.FnExactCongruenceIn'. -/
def fnExactCongruenceInCard : Claim7 := { stood := { row := fnExactCongruenceInRow, standIns := [], harness := (true, "202a503cea61956c48ea0ea736587dbc4da1ba6a724105ed3d8a7b5d84776900"), looks := true }, kinds := [], alts := [], laidByText := true, laidKinds := [.handle], laidTests := true, laidLooks := .later }
def FnExactCongruenceInCardSaid : Prop := Claim7.holds Tryd.pinned (.plain (OpenSpec.ofChange fnExactCongruenceInSpec)) fnExactCongruenceInCard

/-- THE SECOND FORM's CARD OF 'laws.FnExactCongruenceIn'. -/
def fnExactCongruenceInUptoCard : Claim7 := { stood := { row := fnExactCongruenceInUptoRow, standIns := [], harness := (true, "202a503cea61956c48ea0ea736587dbc4da1ba6a724105ed3d8a7b5d84776900"), looks := true }, kinds := [], alts := [], laidByText := true, laidKinds := [.handle], laidTests := true, laidLooks := .later }
def FnExactCongruenceInUptoCardSaid : Prop := Claim7.holds Tryd.pinned (.plain (OpenSpec.upto fnExactCongruenceInSpec)) fnExactCongruenceInUptoCard
end Rows
end Go.Proofs.YtmknjifmmmnjjaaDoor
