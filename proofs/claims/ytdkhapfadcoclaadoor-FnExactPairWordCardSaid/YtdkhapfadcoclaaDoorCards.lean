/-
  DERIVED. GIVEN WITH THE SEED: THE CARDS: each row of YtdkhapfadcoclaaDoorRows.lean that lists a variable, with what it lists TIED to the program's text (the seventh form; the later family's looks); each row that meets fmt, with fmt's text TOLD by the authors' own Lean function (tested against real Go, not proved from fmt's source: count such statements apart). THE CARD IS WHAT COUNTS. Prove the row's statement (the work); the ties are given (YtdkhapfadcoclaaDoorTie.lean); close each card by the builder's one call (the guide's Derived/Test/ToyasCard.lean, 'card_holds'). Laid BY PROGRAM, IN A SANDBOX (cutbox-door.mjs). By AI agents, Wed Nov 11 2026. No macro, syntax, notation, axiom, sorry.
-/
import Derived.Test.YtdkhapfadcoclaaDoorRows
import GoSem.ClaimSeven
namespace Go.Proofs.YtdkhapfadcoclaaDoor
namespace Rows

/-- THE TIED CARD OF 'laws.FnExactPairTimes'. -/
def fnExactPairTimesCard : Claim7 := { stood := { row := fnExactPairTimesRow, standIns := [], harness := (true, "1bdf4c76338574e78a52e70ee2f77eeb47611f44c6952b4d7badd657dfc63720"), looks := true }, kinds := [], alts := [], laidByText := true, laidKinds := [.data, .pinned], laidTests := true, laidLooks := .later }
def FnExactPairTimesCardSaid : Prop := Claim7.holds Tryd.pinned (.plain (OpenSpec.ofChange fnExactPairTimesSpec)) fnExactPairTimesCard

/-- THE TIED CARD OF 'laws.FnExactPairWord'. -/
def fnExactPairWordCard : Claim7 := { stood := { row := fnExactPairWordRow, standIns := [], harness := (true, "1bdf4c76338574e78a52e70ee2f77eeb47611f44c6952b4d7badd657dfc63720"), looks := true }, kinds := [], alts := [], laidByText := true, laidKinds := [.data, .pinned], laidTests := true, laidLooks := .later }
def FnExactPairWordCardSaid : Prop := Claim7.holds Tryd.pinned (.plain (OpenSpec.ofChange fnExactPairWordSpec)) fnExactPairWordCard

/-- THE TIED CARD OF 'laws.FnExactPairBelow'. -/
def fnExactPairBelowCard : Claim7 := { stood := { row := fnExactPairBelowRow, standIns := [], harness := (true, "1bdf4c76338574e78a52e70ee2f77eeb47611f44c6952b4d7badd657dfc63720"), looks := true }, kinds := [], alts := [], laidByText := true, laidKinds := [.data, .pinned], laidTests := true, laidLooks := .later }
def FnExactPairBelowCardSaid : Prop := Claim7.holds Tryd.pinned (.plain (OpenSpec.ofChange fnExactPairBelowSpec)) fnExactPairBelowCard

/-- THE TIED CARD OF 'laws.FnExactSwapIn'. -/
def fnExactSwapInCard : Claim7 := { stood := { row := fnExactSwapInRow, standIns := [], harness := (true, "1bdf4c76338574e78a52e70ee2f77eeb47611f44c6952b4d7badd657dfc63720"), looks := true }, kinds := [], alts := [], laidByText := true, laidKinds := [.data, .pinned], laidTests := true, laidLooks := .later }
def FnExactSwapInCardSaid : Prop := Claim7.holds Tryd.pinned (.plain (OpenSpec.ofChange fnExactSwapInSpec)) fnExactSwapInCard

/-- THE TIED CARD OF 'laws.FnExactSwapTimes'. -/
def fnExactSwapTimesCard : Claim7 := { stood := { row := fnExactSwapTimesRow, standIns := [], harness := (true, "1bdf4c76338574e78a52e70ee2f77eeb47611f44c6952b4d7badd657dfc63720"), looks := true }, kinds := [], alts := [], laidByText := true, laidKinds := [.data, .pinned], laidTests := true, laidLooks := .later }
def FnExactSwapTimesCardSaid : Prop := Claim7.holds Tryd.pinned (.plain (OpenSpec.ofChange fnExactSwapTimesSpec)) fnExactSwapTimesCard

/-- THE TIED CARD OF 'laws.FnExactSwapTurned'. -/
def fnExactSwapTurnedCard : Claim7 := { stood := { row := fnExactSwapTurnedRow, standIns := [], harness := (true, "1bdf4c76338574e78a52e70ee2f77eeb47611f44c6952b4d7badd657dfc63720"), looks := true }, kinds := [], alts := [], laidByText := true, laidKinds := [.data, .pinned], laidTests := true, laidLooks := .later }
def FnExactSwapTurnedCardSaid : Prop := Claim7.holds Tryd.pinned (.plain (OpenSpec.ofChange fnExactSwapTurnedSpec)) fnExactSwapTurnedCard

/-- THE TIED CARD OF 'laws.FnExactSwapIdem'. -/
def fnExactSwapIdemCard : Claim7 := { stood := { row := fnExactSwapIdemRow, standIns := [], harness := (true, "1bdf4c76338574e78a52e70ee2f77eeb47611f44c6952b4d7badd657dfc63720"), looks := true }, kinds := [], alts := [], laidByText := true, laidKinds := [.data, .pinned], laidTests := true, laidLooks := .later }
def FnExactSwapIdemCardSaid : Prop := Claim7.holds Tryd.pinned (.plain (OpenSpec.ofChange fnExactSwapIdemSpec)) fnExactSwapIdemCard

/-- THE TIED CARD OF 'laws.FnExactSwapAct'. -/
def fnExactSwapActCard : Claim7 := { stood := { row := fnExactSwapActRow, standIns := [], harness := (true, "1bdf4c76338574e78a52e70ee2f77eeb47611f44c6952b4d7badd657dfc63720"), looks := true }, kinds := [], alts := [], laidByText := true, laidKinds := [.data, .pinned], laidTests := true, laidLooks := .later }
def FnExactSwapActCardSaid : Prop := Claim7.holds Tryd.pinned (.plain (OpenSpec.ofChange fnExactSwapActSpec)) fnExactSwapActCard

/-- THE TIED CARD OF 'laws.FnExactSwapBelow'. -/
def fnExactSwapBelowCard : Claim7 := { stood := { row := fnExactSwapBelowRow, standIns := [], harness := (true, "1bdf4c76338574e78a52e70ee2f77eeb47611f44c6952b4d7badd657dfc63720"), looks := true }, kinds := [], alts := [], laidByText := true, laidKinds := [.data, .pinned], laidTests := true, laidLooks := .later }
def FnExactSwapBelowCardSaid : Prop := Claim7.holds Tryd.pinned (.plain (OpenSpec.ofChange fnExactSwapBelowSpec)) fnExactSwapBelowCard

/-- THE TIED CARD OF 'laws.FnExactSwapMeet'. -/
def fnExactSwapMeetCard : Claim7 := { stood := { row := fnExactSwapMeetRow, standIns := [], harness := (true, "1bdf4c76338574e78a52e70ee2f77eeb47611f44c6952b4d7badd657dfc63720"), looks := true }, kinds := [], alts := [], laidByText := true, laidKinds := [.data, .pinned], laidTests := true, laidLooks := .later }
def FnExactSwapMeetCardSaid : Prop := Claim7.holds Tryd.pinned (.plain (OpenSpec.ofChange fnExactSwapMeetSpec)) fnExactSwapMeetCard

/-- THE SECOND FORM's CARD OF 'laws.FnExactPairTimes'. -/
def fnExactPairTimesUptoCard : Claim7 := { stood := { row := fnExactPairTimesUptoRow, standIns := [], harness := (true, "1bdf4c76338574e78a52e70ee2f77eeb47611f44c6952b4d7badd657dfc63720"), looks := true }, kinds := [], alts := [], laidByText := true, laidKinds := [.data, .pinned], laidTests := true, laidLooks := .later }
def FnExactPairTimesUptoCardSaid : Prop := Claim7.holds Tryd.pinned (.plain (OpenSpec.upto fnExactPairTimesSpec)) fnExactPairTimesUptoCard

/-- THE SECOND FORM's CARD OF 'laws.FnExactPairWord'. -/
def fnExactPairWordUptoCard : Claim7 := { stood := { row := fnExactPairWordUptoRow, standIns := [], harness := (true, "1bdf4c76338574e78a52e70ee2f77eeb47611f44c6952b4d7badd657dfc63720"), looks := true }, kinds := [], alts := [], laidByText := true, laidKinds := [.data, .pinned], laidTests := true, laidLooks := .later }
def FnExactPairWordUptoCardSaid : Prop := Claim7.holds Tryd.pinned (.plain (OpenSpec.upto fnExactPairWordSpec)) fnExactPairWordUptoCard

/-- THE SECOND FORM's CARD OF 'laws.FnExactPairBelow'. -/
def fnExactPairBelowUptoCard : Claim7 := { stood := { row := fnExactPairBelowUptoRow, standIns := [], harness := (true, "1bdf4c76338574e78a52e70ee2f77eeb47611f44c6952b4d7badd657dfc63720"), looks := true }, kinds := [], alts := [], laidByText := true, laidKinds := [.data, .pinned], laidTests := true, laidLooks := .later }
def FnExactPairBelowUptoCardSaid : Prop := Claim7.holds Tryd.pinned (.plain (OpenSpec.upto fnExactPairBelowSpec)) fnExactPairBelowUptoCard

/-- THE SECOND FORM's CARD OF 'laws.FnExactSwapIn'. -/
def fnExactSwapInUptoCard : Claim7 := { stood := { row := fnExactSwapInUptoRow, standIns := [], harness := (true, "1bdf4c76338574e78a52e70ee2f77eeb47611f44c6952b4d7badd657dfc63720"), looks := true }, kinds := [], alts := [], laidByText := true, laidKinds := [.data, .pinned], laidTests := true, laidLooks := .later }
def FnExactSwapInUptoCardSaid : Prop := Claim7.holds Tryd.pinned (.plain (OpenSpec.upto fnExactSwapInSpec)) fnExactSwapInUptoCard

/-- THE SECOND FORM's CARD OF 'laws.FnExactSwapTimes'. -/
def fnExactSwapTimesUptoCard : Claim7 := { stood := { row := fnExactSwapTimesUptoRow, standIns := [], harness := (true, "1bdf4c76338574e78a52e70ee2f77eeb47611f44c6952b4d7badd657dfc63720"), looks := true }, kinds := [], alts := [], laidByText := true, laidKinds := [.data, .pinned], laidTests := true, laidLooks := .later }
def FnExactSwapTimesUptoCardSaid : Prop := Claim7.holds Tryd.pinned (.plain (OpenSpec.upto fnExactSwapTimesSpec)) fnExactSwapTimesUptoCard

/-- THE SECOND FORM's CARD OF 'laws.FnExactSwapTurned'. -/
def fnExactSwapTurnedUptoCard : Claim7 := { stood := { row := fnExactSwapTurnedUptoRow, standIns := [], harness := (true, "1bdf4c76338574e78a52e70ee2f77eeb47611f44c6952b4d7badd657dfc63720"), looks := true }, kinds := [], alts := [], laidByText := true, laidKinds := [.data, .pinned], laidTests := true, laidLooks := .later }
def FnExactSwapTurnedUptoCardSaid : Prop := Claim7.holds Tryd.pinned (.plain (OpenSpec.upto fnExactSwapTurnedSpec)) fnExactSwapTurnedUptoCard

/-- THE SECOND FORM's CARD OF 'laws.FnExactSwapIdem'. -/
def fnExactSwapIdemUptoCard : Claim7 := { stood := { row := fnExactSwapIdemUptoRow, standIns := [], harness := (true, "1bdf4c76338574e78a52e70ee2f77eeb47611f44c6952b4d7badd657dfc63720"), looks := true }, kinds := [], alts := [], laidByText := true, laidKinds := [.data, .pinned], laidTests := true, laidLooks := .later }
def FnExactSwapIdemUptoCardSaid : Prop := Claim7.holds Tryd.pinned (.plain (OpenSpec.upto fnExactSwapIdemSpec)) fnExactSwapIdemUptoCard

/-- THE SECOND FORM's CARD OF 'laws.FnExactSwapAct'. -/
def fnExactSwapActUptoCard : Claim7 := { stood := { row := fnExactSwapActUptoRow, standIns := [], harness := (true, "1bdf4c76338574e78a52e70ee2f77eeb47611f44c6952b4d7badd657dfc63720"), looks := true }, kinds := [], alts := [], laidByText := true, laidKinds := [.data, .pinned], laidTests := true, laidLooks := .later }
def FnExactSwapActUptoCardSaid : Prop := Claim7.holds Tryd.pinned (.plain (OpenSpec.upto fnExactSwapActSpec)) fnExactSwapActUptoCard

/-- THE SECOND FORM's CARD OF 'laws.FnExactSwapBelow'. -/
def fnExactSwapBelowUptoCard : Claim7 := { stood := { row := fnExactSwapBelowUptoRow, standIns := [], harness := (true, "1bdf4c76338574e78a52e70ee2f77eeb47611f44c6952b4d7badd657dfc63720"), looks := true }, kinds := [], alts := [], laidByText := true, laidKinds := [.data, .pinned], laidTests := true, laidLooks := .later }
def FnExactSwapBelowUptoCardSaid : Prop := Claim7.holds Tryd.pinned (.plain (OpenSpec.upto fnExactSwapBelowSpec)) fnExactSwapBelowUptoCard

/-- THE SECOND FORM's CARD OF 'laws.FnExactSwapMeet'. -/
def fnExactSwapMeetUptoCard : Claim7 := { stood := { row := fnExactSwapMeetUptoRow, standIns := [], harness := (true, "1bdf4c76338574e78a52e70ee2f77eeb47611f44c6952b4d7badd657dfc63720"), looks := true }, kinds := [], alts := [], laidByText := true, laidKinds := [.data, .pinned], laidTests := true, laidLooks := .later }
def FnExactSwapMeetUptoCardSaid : Prop := Claim7.holds Tryd.pinned (.plain (OpenSpec.upto fnExactSwapMeetSpec)) fnExactSwapMeetUptoCard
end Rows
end Go.Proofs.YtdkhapfadcoclaaDoor
