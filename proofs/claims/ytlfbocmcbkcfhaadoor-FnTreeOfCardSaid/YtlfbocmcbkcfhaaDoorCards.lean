/-
  DERIVED. GIVEN WITH THE SEED: THE CARDS: each row of YtlfbocmcbkcfhaaDoorRows.lean that lists a variable, with what it lists TIED to the program's text (the seventh form; the later family's looks); each row that meets fmt, with fmt's text TOLD by the authors' own Lean function (tested against real Go, not proved from fmt's source: count such statements apart). THE CARD IS WHAT COUNTS. Prove the row's statement (the work); the ties are given (YtlfbocmcbkcfhaaDoorTie.lean); close each card by the builder's one call (the guide's Derived/Test/ToyasCard.lean, 'card_holds'). Laid BY PROGRAM, IN A SANDBOX (cutbox-door.mjs). By AI agents, Wed Nov 11 2026. No macro, syntax, notation, axiom, sorry.
-/
import Derived.Test.YtlfbocmcbkcfhaaDoorRows
import GoSem.ClaimSeven
namespace Go.Proofs.YtlfbocmcbkcfhaaDoor
namespace Rows

/-- THE TIED CARD OF 'laws.FnTree'. -/
def fnTreeCard : Claim7 := { stood := { row := fnTreeRow, standIns := [], harness := (true, "ef3293630575122ae563bc89d3eb979a376f0c69435abdddd2e17b05e2b1e99f"), looks := false }, kinds := [], alts := [], laidByText := true, laidKinds := [.data, .pinned], laidTests := true, laidLooks := .later }
def FnTreeCardSaid : Prop := Claim7.holds Tryd.pinned (.plain (OpenSpec.ofChange fnTreeSpec)) fnTreeCard

/-- THE TIED CARD OF 'laws.FnTreeOf'. -/
def fnTreeOfCard : Claim7 := { stood := { row := fnTreeOfRow, standIns := [], harness := (true, "ef3293630575122ae563bc89d3eb979a376f0c69435abdddd2e17b05e2b1e99f"), looks := false }, kinds := [], alts := [], laidByText := true, laidKinds := [.data, .pinned], laidTests := true, laidLooks := .later }
def FnTreeOfCardSaid : Prop := Claim7.holds Tryd.pinned (.plain (OpenSpec.ofChange fnTreeOfSpec)) fnTreeOfCard

/-- THE TIED CARD OF 'laws.FnTreeTimes'. -/
def fnTreeTimesCard : Claim7 := { stood := { row := fnTreeTimesRow, standIns := [], harness := (true, "ef3293630575122ae563bc89d3eb979a376f0c69435abdddd2e17b05e2b1e99f"), looks := false }, kinds := [], alts := [], laidByText := true, laidKinds := [.data, .pinned], laidTests := true, laidLooks := .later }
def FnTreeTimesCardSaid : Prop := Claim7.holds Tryd.pinned (.plain (OpenSpec.ofChange fnTreeTimesSpec)) fnTreeTimesCard

/-- THE TIED CARD OF 'laws.FnTreeWords'. -/
def fnTreeWordsCard : Claim7 := { stood := { row := fnTreeWordsRow, standIns := [], harness := (true, "ef3293630575122ae563bc89d3eb979a376f0c69435abdddd2e17b05e2b1e99f"), looks := false }, kinds := [], alts := [], laidByText := true, laidKinds := [.data, .pinned], laidTests := true, laidLooks := .later }
def FnTreeWordsCardSaid : Prop := Claim7.holds Tryd.pinned (.plain (OpenSpec.ofChange fnTreeWordsSpec)) fnTreeWordsCard

/-- THE TIED CARD OF 'laws.FnTreeTurned'. -/
def fnTreeTurnedCard : Claim7 := { stood := { row := fnTreeTurnedRow, standIns := [], harness := (true, "ef3293630575122ae563bc89d3eb979a376f0c69435abdddd2e17b05e2b1e99f"), looks := false }, kinds := [], alts := [], laidByText := true, laidKinds := [.data, .pinned], laidTests := true, laidLooks := .later }
def FnTreeTurnedCardSaid : Prop := Claim7.holds Tryd.pinned (.plain (OpenSpec.ofChange fnTreeTurnedSpec)) fnTreeTurnedCard

/-- THE TIED CARD OF 'laws.FnTreeIdem'. -/
def fnTreeIdemCard : Claim7 := { stood := { row := fnTreeIdemRow, standIns := [], harness := (true, "ef3293630575122ae563bc89d3eb979a376f0c69435abdddd2e17b05e2b1e99f"), looks := false }, kinds := [], alts := [], laidByText := true, laidKinds := [.data, .pinned], laidTests := true, laidLooks := .later }
def FnTreeIdemCardSaid : Prop := Claim7.holds Tryd.pinned (.plain (OpenSpec.ofChange fnTreeIdemSpec)) fnTreeIdemCard

/-- THE TIED CARD OF 'laws.FnTreeBelow'. -/
def fnTreeBelowCard : Claim7 := { stood := { row := fnTreeBelowRow, standIns := [], harness := (true, "ef3293630575122ae563bc89d3eb979a376f0c69435abdddd2e17b05e2b1e99f"), looks := false }, kinds := [], alts := [], laidByText := true, laidKinds := [.data, .pinned], laidTests := true, laidLooks := .later }
def FnTreeBelowCardSaid : Prop := Claim7.holds Tryd.pinned (.plain (OpenSpec.ofChange fnTreeBelowSpec)) fnTreeBelowCard

/-- THE TIED CARD OF 'laws.FnTreeSame'. -/
def fnTreeSameCard : Claim7 := { stood := { row := fnTreeSameRow, standIns := [], harness := (true, "ef3293630575122ae563bc89d3eb979a376f0c69435abdddd2e17b05e2b1e99f"), looks := false }, kinds := [], alts := [], laidByText := true, laidKinds := [.data, .pinned], laidTests := true, laidLooks := .later }
def FnTreeSameCardSaid : Prop := Claim7.holds Tryd.pinned (.plain (OpenSpec.ofChange fnTreeSameSpec)) fnTreeSameCard

/-- THE TIED CARD OF 'laws.FnTreeWord'. -/
def fnTreeWordCard : Claim7 := { stood := { row := fnTreeWordRow, standIns := [], harness := (true, "ef3293630575122ae563bc89d3eb979a376f0c69435abdddd2e17b05e2b1e99f"), looks := false }, kinds := [], alts := [], laidByText := true, laidKinds := [.data, .pinned], laidTests := true, laidLooks := .later }
def FnTreeWordCardSaid : Prop := Claim7.holds Tryd.pinned (.plain (OpenSpec.ofChange fnTreeWordSpec)) fnTreeWordCard

/-- THE TIED CARD OF 'laws.FnWalk'. -/
def fnWalkCard : Claim7 := { stood := { row := fnWalkRow, standIns := [], harness := (true, "ef3293630575122ae563bc89d3eb979a376f0c69435abdddd2e17b05e2b1e99f"), looks := false }, kinds := [], alts := [], laidByText := true, laidKinds := [.data, .pinned], laidTests := true, laidLooks := .later }
def FnWalkCardSaid : Prop := Claim7.holds Tryd.pinned (.plain (OpenSpec.ofChange fnWalkSpec)) fnWalkCard

/-- THE SECOND FORM's CARD OF 'laws.FnTree'. -/
def fnTreeUptoCard : Claim7 := { stood := { row := fnTreeUptoRow, standIns := [], harness := (true, "ef3293630575122ae563bc89d3eb979a376f0c69435abdddd2e17b05e2b1e99f"), looks := false }, kinds := [], alts := [], laidByText := true, laidKinds := [.data, .pinned], laidTests := true, laidLooks := .later }
def FnTreeUptoCardSaid : Prop := Claim7.holds Tryd.pinned (.plain (OpenSpec.upto fnTreeSpec)) fnTreeUptoCard

/-- THE SECOND FORM's CARD OF 'laws.FnTreeOf'. -/
def fnTreeOfUptoCard : Claim7 := { stood := { row := fnTreeOfUptoRow, standIns := [], harness := (true, "ef3293630575122ae563bc89d3eb979a376f0c69435abdddd2e17b05e2b1e99f"), looks := false }, kinds := [], alts := [], laidByText := true, laidKinds := [.data, .pinned], laidTests := true, laidLooks := .later }
def FnTreeOfUptoCardSaid : Prop := Claim7.holds Tryd.pinned (.plain (OpenSpec.upto fnTreeOfSpec)) fnTreeOfUptoCard

/-- THE SECOND FORM's CARD OF 'laws.FnTreeTimes'. -/
def fnTreeTimesUptoCard : Claim7 := { stood := { row := fnTreeTimesUptoRow, standIns := [], harness := (true, "ef3293630575122ae563bc89d3eb979a376f0c69435abdddd2e17b05e2b1e99f"), looks := false }, kinds := [], alts := [], laidByText := true, laidKinds := [.data, .pinned], laidTests := true, laidLooks := .later }
def FnTreeTimesUptoCardSaid : Prop := Claim7.holds Tryd.pinned (.plain (OpenSpec.upto fnTreeTimesSpec)) fnTreeTimesUptoCard

/-- THE SECOND FORM's CARD OF 'laws.FnTreeWords'. -/
def fnTreeWordsUptoCard : Claim7 := { stood := { row := fnTreeWordsUptoRow, standIns := [], harness := (true, "ef3293630575122ae563bc89d3eb979a376f0c69435abdddd2e17b05e2b1e99f"), looks := false }, kinds := [], alts := [], laidByText := true, laidKinds := [.data, .pinned], laidTests := true, laidLooks := .later }
def FnTreeWordsUptoCardSaid : Prop := Claim7.holds Tryd.pinned (.plain (OpenSpec.upto fnTreeWordsSpec)) fnTreeWordsUptoCard

/-- THE SECOND FORM's CARD OF 'laws.FnTreeTurned'. -/
def fnTreeTurnedUptoCard : Claim7 := { stood := { row := fnTreeTurnedUptoRow, standIns := [], harness := (true, "ef3293630575122ae563bc89d3eb979a376f0c69435abdddd2e17b05e2b1e99f"), looks := false }, kinds := [], alts := [], laidByText := true, laidKinds := [.data, .pinned], laidTests := true, laidLooks := .later }
def FnTreeTurnedUptoCardSaid : Prop := Claim7.holds Tryd.pinned (.plain (OpenSpec.upto fnTreeTurnedSpec)) fnTreeTurnedUptoCard

/-- THE SECOND FORM's CARD OF 'laws.FnTreeIdem'. -/
def fnTreeIdemUptoCard : Claim7 := { stood := { row := fnTreeIdemUptoRow, standIns := [], harness := (true, "ef3293630575122ae563bc89d3eb979a376f0c69435abdddd2e17b05e2b1e99f"), looks := false }, kinds := [], alts := [], laidByText := true, laidKinds := [.data, .pinned], laidTests := true, laidLooks := .later }
def FnTreeIdemUptoCardSaid : Prop := Claim7.holds Tryd.pinned (.plain (OpenSpec.upto fnTreeIdemSpec)) fnTreeIdemUptoCard

/-- THE SECOND FORM's CARD OF 'laws.FnTreeBelow'. -/
def fnTreeBelowUptoCard : Claim7 := { stood := { row := fnTreeBelowUptoRow, standIns := [], harness := (true, "ef3293630575122ae563bc89d3eb979a376f0c69435abdddd2e17b05e2b1e99f"), looks := false }, kinds := [], alts := [], laidByText := true, laidKinds := [.data, .pinned], laidTests := true, laidLooks := .later }
def FnTreeBelowUptoCardSaid : Prop := Claim7.holds Tryd.pinned (.plain (OpenSpec.upto fnTreeBelowSpec)) fnTreeBelowUptoCard

/-- THE SECOND FORM's CARD OF 'laws.FnTreeSame'. -/
def fnTreeSameUptoCard : Claim7 := { stood := { row := fnTreeSameUptoRow, standIns := [], harness := (true, "ef3293630575122ae563bc89d3eb979a376f0c69435abdddd2e17b05e2b1e99f"), looks := false }, kinds := [], alts := [], laidByText := true, laidKinds := [.data, .pinned], laidTests := true, laidLooks := .later }
def FnTreeSameUptoCardSaid : Prop := Claim7.holds Tryd.pinned (.plain (OpenSpec.upto fnTreeSameSpec)) fnTreeSameUptoCard

/-- THE SECOND FORM's CARD OF 'laws.FnTreeWord'. -/
def fnTreeWordUptoCard : Claim7 := { stood := { row := fnTreeWordUptoRow, standIns := [], harness := (true, "ef3293630575122ae563bc89d3eb979a376f0c69435abdddd2e17b05e2b1e99f"), looks := false }, kinds := [], alts := [], laidByText := true, laidKinds := [.data, .pinned], laidTests := true, laidLooks := .later }
def FnTreeWordUptoCardSaid : Prop := Claim7.holds Tryd.pinned (.plain (OpenSpec.upto fnTreeWordSpec)) fnTreeWordUptoCard

/-- THE SECOND FORM's CARD OF 'laws.FnWalk'. -/
def fnWalkUptoCard : Claim7 := { stood := { row := fnWalkUptoRow, standIns := [], harness := (true, "ef3293630575122ae563bc89d3eb979a376f0c69435abdddd2e17b05e2b1e99f"), looks := false }, kinds := [], alts := [], laidByText := true, laidKinds := [.data, .pinned], laidTests := true, laidLooks := .later }
def FnWalkUptoCardSaid : Prop := Claim7.holds Tryd.pinned (.plain (OpenSpec.upto fnWalkSpec)) fnWalkUptoCard
end Rows
end Go.Proofs.YtlfbocmcbkcfhaaDoor
