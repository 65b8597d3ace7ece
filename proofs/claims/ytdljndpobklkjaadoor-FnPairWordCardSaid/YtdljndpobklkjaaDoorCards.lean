/-
  DERIVED. GIVEN WITH THE SEED: THE CARDS: each row of YtdljndpobklkjaaDoorRows.lean that lists a variable, with what it lists TIED to the program's text (the seventh form; the later family's looks); each row that meets fmt, with fmt's text TOLD by the authors' own Lean function (tested against real Go, not proved from fmt's source: count such statements apart). THE CARD IS WHAT COUNTS. Prove the row's statement (the work); the ties are given (YtdljndpobklkjaaDoorTie.lean); close each card by the builder's one call (the guide's Derived/Test/ToyasCard.lean, 'card_holds'). Laid BY PROGRAM, IN A SANDBOX (cutbox-door.mjs). By AI agents, Wed Nov 11 2026. No macro, syntax, notation, axiom, sorry.
-/
import Derived.Test.YtdljndpobklkjaaDoorRows
import GoSem.ClaimSeven
namespace Go.Proofs.YtdljndpobklkjaaDoor
namespace Rows

/-- THE TIED CARD OF 'laws.FnPair'. -/
def fnPairCard : Claim7 := { stood := { row := fnPairRow, standIns := [], harness := (true, "0db2e7233154bf82c6b3ac503a0f10c60ddf87bc097241e74a94227f6bba6224"), looks := true }, kinds := [], alts := [], laidByText := true, laidKinds := [.data, .pinned], laidTests := true, laidLooks := .later }
def FnPairCardSaid : Prop := Claim7.holds Tryd.pinned (.plain (OpenSpec.ofChange fnPairSpec)) fnPairCard

/-- THE TIED CARD OF 'laws.FnPairWord'. -/
def fnPairWordCard : Claim7 := { stood := { row := fnPairWordRow, standIns := [], harness := (true, "0db2e7233154bf82c6b3ac503a0f10c60ddf87bc097241e74a94227f6bba6224"), looks := true }, kinds := [], alts := [], laidByText := true, laidKinds := [.data, .pinned], laidTests := true, laidLooks := .later }
def FnPairWordCardSaid : Prop := Claim7.holds Tryd.pinned (.plain (OpenSpec.ofChange fnPairWordSpec)) fnPairWordCard

/-- THE TIED CARD OF 'laws.FnPairBelow'. -/
def fnPairBelowCard : Claim7 := { stood := { row := fnPairBelowRow, standIns := [], harness := (true, "0db2e7233154bf82c6b3ac503a0f10c60ddf87bc097241e74a94227f6bba6224"), looks := true }, kinds := [], alts := [], laidByText := true, laidKinds := [.data, .pinned], laidTests := true, laidLooks := .later }
def FnPairBelowCardSaid : Prop := Claim7.holds Tryd.pinned (.plain (OpenSpec.ofChange fnPairBelowSpec)) fnPairBelowCard

/-- THE TIED CARD OF 'laws.FnSwap'. -/
def fnSwapCard : Claim7 := { stood := { row := fnSwapRow, standIns := [], harness := (true, "0db2e7233154bf82c6b3ac503a0f10c60ddf87bc097241e74a94227f6bba6224"), looks := true }, kinds := [], alts := [], laidByText := true, laidKinds := [.data, .pinned], laidTests := true, laidLooks := .later }
def FnSwapCardSaid : Prop := Claim7.holds Tryd.pinned (.plain (OpenSpec.ofChange fnSwapSpec)) fnSwapCard

/-- THE TIED CARD OF 'laws.FnSwapTimes'. -/
def fnSwapTimesCard : Claim7 := { stood := { row := fnSwapTimesRow, standIns := [], harness := (true, "0db2e7233154bf82c6b3ac503a0f10c60ddf87bc097241e74a94227f6bba6224"), looks := true }, kinds := [], alts := [], laidByText := true, laidKinds := [.data, .pinned], laidTests := true, laidLooks := .later }
def FnSwapTimesCardSaid : Prop := Claim7.holds Tryd.pinned (.plain (OpenSpec.ofChange fnSwapTimesSpec)) fnSwapTimesCard

/-- THE TIED CARD OF 'laws.FnSwapBrackets'. -/
def fnSwapBracketsCard : Claim7 := { stood := { row := fnSwapBracketsRow, standIns := [], harness := (true, "0db2e7233154bf82c6b3ac503a0f10c60ddf87bc097241e74a94227f6bba6224"), looks := true }, kinds := [], alts := [], laidByText := true, laidKinds := [.data, .pinned], laidTests := true, laidLooks := .later }
def FnSwapBracketsCardSaid : Prop := Claim7.holds Tryd.pinned (.plain (OpenSpec.ofChange fnSwapBracketsSpec)) fnSwapBracketsCard

/-- THE TIED CARD OF 'laws.FnSwapTurned'. -/
def fnSwapTurnedCard : Claim7 := { stood := { row := fnSwapTurnedRow, standIns := [], harness := (true, "0db2e7233154bf82c6b3ac503a0f10c60ddf87bc097241e74a94227f6bba6224"), looks := true }, kinds := [], alts := [], laidByText := true, laidKinds := [.data, .pinned], laidTests := true, laidLooks := .later }
def FnSwapTurnedCardSaid : Prop := Claim7.holds Tryd.pinned (.plain (OpenSpec.ofChange fnSwapTurnedSpec)) fnSwapTurnedCard

/-- THE TIED CARD OF 'laws.FnSwapIdem'. -/
def fnSwapIdemCard : Claim7 := { stood := { row := fnSwapIdemRow, standIns := [], harness := (true, "0db2e7233154bf82c6b3ac503a0f10c60ddf87bc097241e74a94227f6bba6224"), looks := true }, kinds := [], alts := [], laidByText := true, laidKinds := [.data, .pinned], laidTests := true, laidLooks := .later }
def FnSwapIdemCardSaid : Prop := Claim7.holds Tryd.pinned (.plain (OpenSpec.ofChange fnSwapIdemSpec)) fnSwapIdemCard

/-- THE TIED CARD OF 'laws.FnSwapAct'. -/
def fnSwapActCard : Claim7 := { stood := { row := fnSwapActRow, standIns := [], harness := (true, "0db2e7233154bf82c6b3ac503a0f10c60ddf87bc097241e74a94227f6bba6224"), looks := true }, kinds := [], alts := [], laidByText := true, laidKinds := [.data, .pinned], laidTests := true, laidLooks := .later }
def FnSwapActCardSaid : Prop := Claim7.holds Tryd.pinned (.plain (OpenSpec.ofChange fnSwapActSpec)) fnSwapActCard

/-- THE TIED CARD OF 'laws.FnSwapBelow'. -/
def fnSwapBelowCard : Claim7 := { stood := { row := fnSwapBelowRow, standIns := [], harness := (true, "0db2e7233154bf82c6b3ac503a0f10c60ddf87bc097241e74a94227f6bba6224"), looks := true }, kinds := [], alts := [], laidByText := true, laidKinds := [.data, .pinned], laidTests := true, laidLooks := .later }
def FnSwapBelowCardSaid : Prop := Claim7.holds Tryd.pinned (.plain (OpenSpec.ofChange fnSwapBelowSpec)) fnSwapBelowCard

/-- THE TIED CARD OF 'laws.FnSwapMeet'. -/
def fnSwapMeetCard : Claim7 := { stood := { row := fnSwapMeetRow, standIns := [], harness := (true, "0db2e7233154bf82c6b3ac503a0f10c60ddf87bc097241e74a94227f6bba6224"), looks := true }, kinds := [], alts := [], laidByText := true, laidKinds := [.data, .pinned], laidTests := true, laidLooks := .later }
def FnSwapMeetCardSaid : Prop := Claim7.holds Tryd.pinned (.plain (OpenSpec.ofChange fnSwapMeetSpec)) fnSwapMeetCard

/-- THE SECOND FORM's CARD OF 'laws.FnPair'. -/
def fnPairUptoCard : Claim7 := { stood := { row := fnPairUptoRow, standIns := [], harness := (true, "0db2e7233154bf82c6b3ac503a0f10c60ddf87bc097241e74a94227f6bba6224"), looks := true }, kinds := [], alts := [], laidByText := true, laidKinds := [.data, .pinned], laidTests := true, laidLooks := .later }
def FnPairUptoCardSaid : Prop := Claim7.holds Tryd.pinned (.plain (OpenSpec.upto fnPairSpec)) fnPairUptoCard

/-- THE SECOND FORM's CARD OF 'laws.FnPairWord'. -/
def fnPairWordUptoCard : Claim7 := { stood := { row := fnPairWordUptoRow, standIns := [], harness := (true, "0db2e7233154bf82c6b3ac503a0f10c60ddf87bc097241e74a94227f6bba6224"), looks := true }, kinds := [], alts := [], laidByText := true, laidKinds := [.data, .pinned], laidTests := true, laidLooks := .later }
def FnPairWordUptoCardSaid : Prop := Claim7.holds Tryd.pinned (.plain (OpenSpec.upto fnPairWordSpec)) fnPairWordUptoCard

/-- THE SECOND FORM's CARD OF 'laws.FnPairBelow'. -/
def fnPairBelowUptoCard : Claim7 := { stood := { row := fnPairBelowUptoRow, standIns := [], harness := (true, "0db2e7233154bf82c6b3ac503a0f10c60ddf87bc097241e74a94227f6bba6224"), looks := true }, kinds := [], alts := [], laidByText := true, laidKinds := [.data, .pinned], laidTests := true, laidLooks := .later }
def FnPairBelowUptoCardSaid : Prop := Claim7.holds Tryd.pinned (.plain (OpenSpec.upto fnPairBelowSpec)) fnPairBelowUptoCard

/-- THE SECOND FORM's CARD OF 'laws.FnSwap'. -/
def fnSwapUptoCard : Claim7 := { stood := { row := fnSwapUptoRow, standIns := [], harness := (true, "0db2e7233154bf82c6b3ac503a0f10c60ddf87bc097241e74a94227f6bba6224"), looks := true }, kinds := [], alts := [], laidByText := true, laidKinds := [.data, .pinned], laidTests := true, laidLooks := .later }
def FnSwapUptoCardSaid : Prop := Claim7.holds Tryd.pinned (.plain (OpenSpec.upto fnSwapSpec)) fnSwapUptoCard

/-- THE SECOND FORM's CARD OF 'laws.FnSwapTimes'. -/
def fnSwapTimesUptoCard : Claim7 := { stood := { row := fnSwapTimesUptoRow, standIns := [], harness := (true, "0db2e7233154bf82c6b3ac503a0f10c60ddf87bc097241e74a94227f6bba6224"), looks := true }, kinds := [], alts := [], laidByText := true, laidKinds := [.data, .pinned], laidTests := true, laidLooks := .later }
def FnSwapTimesUptoCardSaid : Prop := Claim7.holds Tryd.pinned (.plain (OpenSpec.upto fnSwapTimesSpec)) fnSwapTimesUptoCard

/-- THE SECOND FORM's CARD OF 'laws.FnSwapBrackets'. -/
def fnSwapBracketsUptoCard : Claim7 := { stood := { row := fnSwapBracketsUptoRow, standIns := [], harness := (true, "0db2e7233154bf82c6b3ac503a0f10c60ddf87bc097241e74a94227f6bba6224"), looks := true }, kinds := [], alts := [], laidByText := true, laidKinds := [.data, .pinned], laidTests := true, laidLooks := .later }
def FnSwapBracketsUptoCardSaid : Prop := Claim7.holds Tryd.pinned (.plain (OpenSpec.upto fnSwapBracketsSpec)) fnSwapBracketsUptoCard

/-- THE SECOND FORM's CARD OF 'laws.FnSwapTurned'. -/
def fnSwapTurnedUptoCard : Claim7 := { stood := { row := fnSwapTurnedUptoRow, standIns := [], harness := (true, "0db2e7233154bf82c6b3ac503a0f10c60ddf87bc097241e74a94227f6bba6224"), looks := true }, kinds := [], alts := [], laidByText := true, laidKinds := [.data, .pinned], laidTests := true, laidLooks := .later }
def FnSwapTurnedUptoCardSaid : Prop := Claim7.holds Tryd.pinned (.plain (OpenSpec.upto fnSwapTurnedSpec)) fnSwapTurnedUptoCard

/-- THE SECOND FORM's CARD OF 'laws.FnSwapIdem'. -/
def fnSwapIdemUptoCard : Claim7 := { stood := { row := fnSwapIdemUptoRow, standIns := [], harness := (true, "0db2e7233154bf82c6b3ac503a0f10c60ddf87bc097241e74a94227f6bba6224"), looks := true }, kinds := [], alts := [], laidByText := true, laidKinds := [.data, .pinned], laidTests := true, laidLooks := .later }
def FnSwapIdemUptoCardSaid : Prop := Claim7.holds Tryd.pinned (.plain (OpenSpec.upto fnSwapIdemSpec)) fnSwapIdemUptoCard

/-- THE SECOND FORM's CARD OF 'laws.FnSwapAct'. -/
def fnSwapActUptoCard : Claim7 := { stood := { row := fnSwapActUptoRow, standIns := [], harness := (true, "0db2e7233154bf82c6b3ac503a0f10c60ddf87bc097241e74a94227f6bba6224"), looks := true }, kinds := [], alts := [], laidByText := true, laidKinds := [.data, .pinned], laidTests := true, laidLooks := .later }
def FnSwapActUptoCardSaid : Prop := Claim7.holds Tryd.pinned (.plain (OpenSpec.upto fnSwapActSpec)) fnSwapActUptoCard

/-- THE SECOND FORM's CARD OF 'laws.FnSwapBelow'. -/
def fnSwapBelowUptoCard : Claim7 := { stood := { row := fnSwapBelowUptoRow, standIns := [], harness := (true, "0db2e7233154bf82c6b3ac503a0f10c60ddf87bc097241e74a94227f6bba6224"), looks := true }, kinds := [], alts := [], laidByText := true, laidKinds := [.data, .pinned], laidTests := true, laidLooks := .later }
def FnSwapBelowUptoCardSaid : Prop := Claim7.holds Tryd.pinned (.plain (OpenSpec.upto fnSwapBelowSpec)) fnSwapBelowUptoCard

/-- THE SECOND FORM's CARD OF 'laws.FnSwapMeet'. -/
def fnSwapMeetUptoCard : Claim7 := { stood := { row := fnSwapMeetUptoRow, standIns := [], harness := (true, "0db2e7233154bf82c6b3ac503a0f10c60ddf87bc097241e74a94227f6bba6224"), looks := true }, kinds := [], alts := [], laidByText := true, laidKinds := [.data, .pinned], laidTests := true, laidLooks := .later }
def FnSwapMeetUptoCardSaid : Prop := Claim7.holds Tryd.pinned (.plain (OpenSpec.upto fnSwapMeetSpec)) fnSwapMeetUptoCard
end Rows
end Go.Proofs.YtdljndpobklkjaaDoor
