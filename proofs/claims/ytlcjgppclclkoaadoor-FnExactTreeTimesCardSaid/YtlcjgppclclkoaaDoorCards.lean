/-
  DERIVED. GIVEN WITH THE SEED: THE CARDS: each row of YtlcjgppclclkoaaDoorRows.lean that lists a variable, with what it lists TIED to the program's text (the seventh form; the later family's looks); each row that meets fmt, with fmt's text TOLD by the authors' own Lean function (tested against real Go, not proved from fmt's source: count such statements apart). THE CARD IS WHAT COUNTS. Prove the row's statement (the work); the ties are given (YtlcjgppclclkoaaDoorTie.lean); close each card by the builder's one call (the guide's Derived/Test/ToyasCard.lean, 'card_holds'). Laid BY PROGRAM, IN A SANDBOX (cutbox-door.mjs). By AI agents, Wed Nov 11 2026. No macro, syntax, notation, axiom, sorry.
-/
import Derived.Test.YtlcjgppclclkoaaDoorRows
import GoSem.ClaimSeven
namespace Go.Proofs.YtlcjgppclclkoaaDoor
namespace Rows

/-- THE TIED CARD OF 'laws.FnReduced'. -/
def fnReducedCard : Claim7 := { stood := { row := fnReducedRow, standIns := [], harness := (true, "d6f5fe088861a57f8bee9700759510cfe9763c90bc3e85ad6503bb21761841b1"), looks := false }, kinds := [], alts := [], laidByText := true, laidKinds := [.data, .pinned], laidTests := true, laidLooks := .later }
def FnReducedCardSaid : Prop := Claim7.holds Tryd.pinned (.plain (OpenSpec.ofChange fnReducedSpec)) fnReducedCard

/-- THE TIED CARD OF 'laws.FnExactTreeOf'. -/
def fnExactTreeOfCard : Claim7 := { stood := { row := fnExactTreeOfRow, standIns := [], harness := (true, "d6f5fe088861a57f8bee9700759510cfe9763c90bc3e85ad6503bb21761841b1"), looks := false }, kinds := [], alts := [], laidByText := true, laidKinds := [.data, .pinned], laidTests := true, laidLooks := .later }
def FnExactTreeOfCardSaid : Prop := Claim7.holds Tryd.pinned (.plain (OpenSpec.ofChange fnExactTreeOfSpec)) fnExactTreeOfCard

/-- THE TIED CARD OF 'laws.FnExactTreeSame'. -/
def fnExactTreeSameCard : Claim7 := { stood := { row := fnExactTreeSameRow, standIns := [], harness := (true, "d6f5fe088861a57f8bee9700759510cfe9763c90bc3e85ad6503bb21761841b1"), looks := false }, kinds := [], alts := [], laidByText := true, laidKinds := [.data, .pinned], laidTests := true, laidLooks := .later }
def FnExactTreeSameCardSaid : Prop := Claim7.holds Tryd.pinned (.plain (OpenSpec.ofChange fnExactTreeSameSpec)) fnExactTreeSameCard

/-- THE TIED CARD OF 'laws.FnExactTreeIn'. -/
def fnExactTreeInCard : Claim7 := { stood := { row := fnExactTreeInRow, standIns := [], harness := (true, "d6f5fe088861a57f8bee9700759510cfe9763c90bc3e85ad6503bb21761841b1"), looks := false }, kinds := [], alts := [], laidByText := true, laidKinds := [.data, .pinned], laidTests := true, laidLooks := .later }
def FnExactTreeInCardSaid : Prop := Claim7.holds Tryd.pinned (.plain (OpenSpec.ofChange fnExactTreeInSpec)) fnExactTreeInCard

/-- THE TIED CARD OF 'laws.FnExactTreeIdem'. -/
def fnExactTreeIdemCard : Claim7 := { stood := { row := fnExactTreeIdemRow, standIns := [], harness := (true, "d6f5fe088861a57f8bee9700759510cfe9763c90bc3e85ad6503bb21761841b1"), looks := false }, kinds := [], alts := [], laidByText := true, laidKinds := [.data, .pinned], laidTests := true, laidLooks := .later }
def FnExactTreeIdemCardSaid : Prop := Claim7.holds Tryd.pinned (.plain (OpenSpec.ofChange fnExactTreeIdemSpec)) fnExactTreeIdemCard

/-- THE TIED CARD OF 'laws.FnExactTreeBelow'. -/
def fnExactTreeBelowCard : Claim7 := { stood := { row := fnExactTreeBelowRow, standIns := [], harness := (true, "d6f5fe088861a57f8bee9700759510cfe9763c90bc3e85ad6503bb21761841b1"), looks := false }, kinds := [], alts := [], laidByText := true, laidKinds := [.data, .pinned], laidTests := true, laidLooks := .later }
def FnExactTreeBelowCardSaid : Prop := Claim7.holds Tryd.pinned (.plain (OpenSpec.ofChange fnExactTreeBelowSpec)) fnExactTreeBelowCard

/-- THE TIED CARD OF 'laws.FnExactTreeWalk'. -/
def fnExactTreeWalkCard : Claim7 := { stood := { row := fnExactTreeWalkRow, standIns := [], harness := (true, "d6f5fe088861a57f8bee9700759510cfe9763c90bc3e85ad6503bb21761841b1"), looks := false }, kinds := [], alts := [], laidByText := true, laidKinds := [.data, .pinned], laidTests := true, laidLooks := .later }
def FnExactTreeWalkCardSaid : Prop := Claim7.holds Tryd.pinned (.plain (OpenSpec.ofChange fnExactTreeWalkSpec)) fnExactTreeWalkCard

/-- THE TIED CARD OF 'laws.FnExactTreeWord'. -/
def fnExactTreeWordCard : Claim7 := { stood := { row := fnExactTreeWordRow, standIns := [], harness := (true, "d6f5fe088861a57f8bee9700759510cfe9763c90bc3e85ad6503bb21761841b1"), looks := false }, kinds := [], alts := [], laidByText := true, laidKinds := [.data, .pinned], laidTests := true, laidLooks := .later }
def FnExactTreeWordCardSaid : Prop := Claim7.holds Tryd.pinned (.plain (OpenSpec.ofChange fnExactTreeWordSpec)) fnExactTreeWordCard

/-- THE TIED CARD OF 'laws.FnExactTreeTimes'. -/
def fnExactTreeTimesCard : Claim7 := { stood := { row := fnExactTreeTimesRow, standIns := [], harness := (true, "d6f5fe088861a57f8bee9700759510cfe9763c90bc3e85ad6503bb21761841b1"), looks := false }, kinds := [], alts := [], laidByText := true, laidKinds := [.data, .pinned], laidTests := true, laidLooks := .later }
def FnExactTreeTimesCardSaid : Prop := Claim7.holds Tryd.pinned (.plain (OpenSpec.ofChange fnExactTreeTimesSpec)) fnExactTreeTimesCard

/-- THE TIED CARD OF 'laws.FnExactTreeTurned'. -/
def fnExactTreeTurnedCard : Claim7 := { stood := { row := fnExactTreeTurnedRow, standIns := [], harness := (true, "d6f5fe088861a57f8bee9700759510cfe9763c90bc3e85ad6503bb21761841b1"), looks := false }, kinds := [], alts := [], laidByText := true, laidKinds := [.data, .pinned], laidTests := true, laidLooks := .later }
def FnExactTreeTurnedCardSaid : Prop := Claim7.holds Tryd.pinned (.plain (OpenSpec.ofChange fnExactTreeTurnedSpec)) fnExactTreeTurnedCard

/-- THE SECOND FORM's CARD OF 'laws.FnReduced'. -/
def fnReducedUptoCard : Claim7 := { stood := { row := fnReducedUptoRow, standIns := [], harness := (true, "d6f5fe088861a57f8bee9700759510cfe9763c90bc3e85ad6503bb21761841b1"), looks := false }, kinds := [], alts := [], laidByText := true, laidKinds := [.data, .pinned], laidTests := true, laidLooks := .later }
def FnReducedUptoCardSaid : Prop := Claim7.holds Tryd.pinned (.plain (OpenSpec.upto fnReducedSpec)) fnReducedUptoCard

/-- THE SECOND FORM's CARD OF 'laws.FnExactTreeOf'. -/
def fnExactTreeOfUptoCard : Claim7 := { stood := { row := fnExactTreeOfUptoRow, standIns := [], harness := (true, "d6f5fe088861a57f8bee9700759510cfe9763c90bc3e85ad6503bb21761841b1"), looks := false }, kinds := [], alts := [], laidByText := true, laidKinds := [.data, .pinned], laidTests := true, laidLooks := .later }
def FnExactTreeOfUptoCardSaid : Prop := Claim7.holds Tryd.pinned (.plain (OpenSpec.upto fnExactTreeOfSpec)) fnExactTreeOfUptoCard

/-- THE SECOND FORM's CARD OF 'laws.FnExactTreeSame'. -/
def fnExactTreeSameUptoCard : Claim7 := { stood := { row := fnExactTreeSameUptoRow, standIns := [], harness := (true, "d6f5fe088861a57f8bee9700759510cfe9763c90bc3e85ad6503bb21761841b1"), looks := false }, kinds := [], alts := [], laidByText := true, laidKinds := [.data, .pinned], laidTests := true, laidLooks := .later }
def FnExactTreeSameUptoCardSaid : Prop := Claim7.holds Tryd.pinned (.plain (OpenSpec.upto fnExactTreeSameSpec)) fnExactTreeSameUptoCard

/-- THE SECOND FORM's CARD OF 'laws.FnExactTreeIn'. -/
def fnExactTreeInUptoCard : Claim7 := { stood := { row := fnExactTreeInUptoRow, standIns := [], harness := (true, "d6f5fe088861a57f8bee9700759510cfe9763c90bc3e85ad6503bb21761841b1"), looks := false }, kinds := [], alts := [], laidByText := true, laidKinds := [.data, .pinned], laidTests := true, laidLooks := .later }
def FnExactTreeInUptoCardSaid : Prop := Claim7.holds Tryd.pinned (.plain (OpenSpec.upto fnExactTreeInSpec)) fnExactTreeInUptoCard

/-- THE SECOND FORM's CARD OF 'laws.FnExactTreeIdem'. -/
def fnExactTreeIdemUptoCard : Claim7 := { stood := { row := fnExactTreeIdemUptoRow, standIns := [], harness := (true, "d6f5fe088861a57f8bee9700759510cfe9763c90bc3e85ad6503bb21761841b1"), looks := false }, kinds := [], alts := [], laidByText := true, laidKinds := [.data, .pinned], laidTests := true, laidLooks := .later }
def FnExactTreeIdemUptoCardSaid : Prop := Claim7.holds Tryd.pinned (.plain (OpenSpec.upto fnExactTreeIdemSpec)) fnExactTreeIdemUptoCard

/-- THE SECOND FORM's CARD OF 'laws.FnExactTreeBelow'. -/
def fnExactTreeBelowUptoCard : Claim7 := { stood := { row := fnExactTreeBelowUptoRow, standIns := [], harness := (true, "d6f5fe088861a57f8bee9700759510cfe9763c90bc3e85ad6503bb21761841b1"), looks := false }, kinds := [], alts := [], laidByText := true, laidKinds := [.data, .pinned], laidTests := true, laidLooks := .later }
def FnExactTreeBelowUptoCardSaid : Prop := Claim7.holds Tryd.pinned (.plain (OpenSpec.upto fnExactTreeBelowSpec)) fnExactTreeBelowUptoCard

/-- THE SECOND FORM's CARD OF 'laws.FnExactTreeWalk'. -/
def fnExactTreeWalkUptoCard : Claim7 := { stood := { row := fnExactTreeWalkUptoRow, standIns := [], harness := (true, "d6f5fe088861a57f8bee9700759510cfe9763c90bc3e85ad6503bb21761841b1"), looks := false }, kinds := [], alts := [], laidByText := true, laidKinds := [.data, .pinned], laidTests := true, laidLooks := .later }
def FnExactTreeWalkUptoCardSaid : Prop := Claim7.holds Tryd.pinned (.plain (OpenSpec.upto fnExactTreeWalkSpec)) fnExactTreeWalkUptoCard

/-- THE SECOND FORM's CARD OF 'laws.FnExactTreeWord'. -/
def fnExactTreeWordUptoCard : Claim7 := { stood := { row := fnExactTreeWordUptoRow, standIns := [], harness := (true, "d6f5fe088861a57f8bee9700759510cfe9763c90bc3e85ad6503bb21761841b1"), looks := false }, kinds := [], alts := [], laidByText := true, laidKinds := [.data, .pinned], laidTests := true, laidLooks := .later }
def FnExactTreeWordUptoCardSaid : Prop := Claim7.holds Tryd.pinned (.plain (OpenSpec.upto fnExactTreeWordSpec)) fnExactTreeWordUptoCard

/-- THE SECOND FORM's CARD OF 'laws.FnExactTreeTimes'. -/
def fnExactTreeTimesUptoCard : Claim7 := { stood := { row := fnExactTreeTimesUptoRow, standIns := [], harness := (true, "d6f5fe088861a57f8bee9700759510cfe9763c90bc3e85ad6503bb21761841b1"), looks := false }, kinds := [], alts := [], laidByText := true, laidKinds := [.data, .pinned], laidTests := true, laidLooks := .later }
def FnExactTreeTimesUptoCardSaid : Prop := Claim7.holds Tryd.pinned (.plain (OpenSpec.upto fnExactTreeTimesSpec)) fnExactTreeTimesUptoCard

/-- THE SECOND FORM's CARD OF 'laws.FnExactTreeTurned'. -/
def fnExactTreeTurnedUptoCard : Claim7 := { stood := { row := fnExactTreeTurnedUptoRow, standIns := [], harness := (true, "d6f5fe088861a57f8bee9700759510cfe9763c90bc3e85ad6503bb21761841b1"), looks := false }, kinds := [], alts := [], laidByText := true, laidKinds := [.data, .pinned], laidTests := true, laidLooks := .later }
def FnExactTreeTurnedUptoCardSaid : Prop := Claim7.holds Tryd.pinned (.plain (OpenSpec.upto fnExactTreeTurnedSpec)) fnExactTreeTurnedUptoCard
end Rows
end Go.Proofs.YtlcjgppclclkoaaDoor
