/-
  DERIVED. GIVEN WITH THE SEED: THE CARDS: each row of YtmknjifmmmnjjaaGreatDoorRows.lean that lists a variable, with what it lists TIED to the program's text (the seventh form; the later family's looks); each row that meets fmt, with fmt's text TOLD by the authors' own Lean function (tested against real Go, not proved from fmt's source: count such statements apart). THE CARD IS WHAT COUNTS. Prove the row's statement (the work); the ties are given (YtmknjifmmmnjjaaGreatDoorTie.lean); close each card by the builder's one call (the guide's Derived/Test/ToyasCard.lean, 'card_holds'). Laid BY PROGRAM, IN A SANDBOX (cutbox-door.mjs). By AI agents, Wed Nov 11 2026. No macro, syntax, notation, axiom, sorry.
-/
import Derived.Test.YtmknjifmmmnjjaaGreatDoorRows
import GoSem.ClaimSeven
namespace Go.Proofs.YtmknjifmmmnjjaaGreatDoor
namespace Rows

/-- THE TIED CARD OF 'laws.FnGermSame'. -/
def fnGermSameCard : Claim7 := { stood := { row := fnGermSameRow, standIns := [], harness := (true, "77c222406daaab5ca4452883f23dbb83e7f9c038892078ae1db43077ba47699e"), looks := true }, kinds := [], alts := [], goes := true, laidByText := true, laidKinds := [.handle], laidTests := true, laidLooks := .later }
def FnGermSameCardSaid : Prop := Claim7.holds Tryz.pinned (.plain (OpenSpec.ofChange fnGermSameSpec)) fnGermSameCard

/-- THE TIED CARD OF 'laws.FnGermCount'. -/
def fnGermCountCard : Claim7 := { stood := { row := fnGermCountRow, standIns := [], harness := (true, "77c222406daaab5ca4452883f23dbb83e7f9c038892078ae1db43077ba47699e"), looks := true }, kinds := [], alts := [], goes := true, laidByText := true, laidKinds := [.handle], laidTests := true, laidLooks := .later }
def FnGermCountCardSaid : Prop := Claim7.holds Tryz.pinned (.plain (OpenSpec.ofChange fnGermCountSpec)) fnGermCountCard

/-- THE TIED CARD OF 'laws.FnExactGermCount'. -/
def fnExactGermCountCard : Claim7 := { stood := { row := fnExactGermCountRow, standIns := [], harness := (true, "77c222406daaab5ca4452883f23dbb83e7f9c038892078ae1db43077ba47699e"), looks := true }, kinds := [], alts := [], goes := true, laidByText := true, laidKinds := [.handle], laidTests := true, laidLooks := .later }
def FnExactGermCountCardSaid : Prop := Claim7.holds Tryz.pinned (.plain (OpenSpec.ofChange fnExactGermCountSpec)) fnExactGermCountCard

/-- THE TIED CARD OF 'laws.FnExactCongruenceGroup'. -/
def fnExactCongruenceGroupCard : Claim7 := { stood := { row := fnExactCongruenceGroupRow, standIns := [], harness := (true, "77c222406daaab5ca4452883f23dbb83e7f9c038892078ae1db43077ba47699e"), looks := true }, kinds := [], alts := [], goes := true, laidByText := true, laidKinds := [.handle], laidTests := true, laidLooks := .later }
def FnExactCongruenceGroupCardSaid : Prop := Claim7.holds Tryz.pinned (.plain (OpenSpec.ofChange fnExactCongruenceGroupSpec)) fnExactCongruenceGroupCard

/-- THE TIED CARD OF 'laws.FnExactCongruenceLeast'. -/
def fnExactCongruenceLeastCard : Claim7 := { stood := { row := fnExactCongruenceLeastRow, standIns := [], harness := (true, "77c222406daaab5ca4452883f23dbb83e7f9c038892078ae1db43077ba47699e"), looks := true }, kinds := [], alts := [], goes := true, laidByText := true, laidKinds := [.handle], laidTests := true, laidLooks := .later }
def FnExactCongruenceLeastCardSaid : Prop := Claim7.holds Tryz.pinned (.plain (OpenSpec.ofChange fnExactCongruenceLeastSpec)) fnExactCongruenceLeastCard

/-- THE TIED CARD OF 'laws.FnExactCongruenceSplit'. -/
def fnExactCongruenceSplitCard : Claim7 := { stood := { row := fnExactCongruenceSplitRow, standIns := [], harness := (true, "77c222406daaab5ca4452883f23dbb83e7f9c038892078ae1db43077ba47699e"), looks := true }, kinds := [], alts := [], goes := true, laidByText := true, laidKinds := [.handle], laidTests := true, laidLooks := .later }
def FnExactCongruenceSplitCardSaid : Prop := Claim7.holds Tryz.pinned (.plain (OpenSpec.ofChange fnExactCongruenceSplitSpec)) fnExactCongruenceSplitCard

/-- THE TIED CARD OF 'laws.FnExactCongruenceSplits'. -/
def fnExactCongruenceSplitsCard : Claim7 := { stood := { row := fnExactCongruenceSplitsRow, standIns := [], harness := (true, "77c222406daaab5ca4452883f23dbb83e7f9c038892078ae1db43077ba47699e"), looks := true }, kinds := [], alts := [], goes := true, laidByText := true, laidKinds := [.handle], laidTests := true, laidLooks := .later }
def FnExactCongruenceSplitsCardSaid : Prop := Claim7.holds Tryz.pinned (.plain (OpenSpec.ofChange fnExactCongruenceSplitsSpec)) fnExactCongruenceSplitsCard

/-- THE TIED CARD OF 'laws.FnExactCongruenceKernel'. -/
def fnExactCongruenceKernelCard : Claim7 := { stood := { row := fnExactCongruenceKernelRow, standIns := [], harness := (true, "77c222406daaab5ca4452883f23dbb83e7f9c038892078ae1db43077ba47699e"), looks := true }, kinds := [], alts := [], goes := true, laidByText := true, laidKinds := [.handle], laidTests := true, laidLooks := .later }
def FnExactCongruenceKernelCardSaid : Prop := Claim7.holds Tryz.pinned (.plain (OpenSpec.ofChange fnExactCongruenceKernelSpec)) fnExactCongruenceKernelCard

/-- THE TIED CARD OF 'laws.FnExactCongruenceSize'. -/
def fnExactCongruenceSizeCard : Claim7 := { stood := { row := fnExactCongruenceSizeRow, standIns := [], harness := (true, "77c222406daaab5ca4452883f23dbb83e7f9c038892078ae1db43077ba47699e"), looks := true }, kinds := [], alts := [], goes := true, laidByText := true, laidKinds := [.handle], laidTests := true, laidLooks := .later }
def FnExactCongruenceSizeCardSaid : Prop := Claim7.holds Tryz.pinned (.plain (OpenSpec.ofChange fnExactCongruenceSizeSpec)) fnExactCongruenceSizeCard

/-- THE TIED CARD OF 'laws.FnExactCongruenceFiner'. -/
def fnExactCongruenceFinerCard : Claim7 := { stood := { row := fnExactCongruenceFinerRow, standIns := [], harness := (true, "77c222406daaab5ca4452883f23dbb83e7f9c038892078ae1db43077ba47699e"), looks := true }, kinds := [], alts := [], goes := true, laidByText := true, laidKinds := [.handle], laidTests := true, laidLooks := .later }
def FnExactCongruenceFinerCardSaid : Prop := Claim7.holds Tryz.pinned (.plain (OpenSpec.ofChange fnExactCongruenceFinerSpec)) fnExactCongruenceFinerCard

/-- THE SECOND FORM's CARD OF 'laws.FnGermSame'. -/
def fnGermSameUptoCard : Claim7 := { stood := { row := fnGermSameUptoRow, standIns := [], harness := (true, "77c222406daaab5ca4452883f23dbb83e7f9c038892078ae1db43077ba47699e"), looks := true }, kinds := [], alts := [], goes := true, laidByText := true, laidKinds := [.handle], laidTests := true, laidLooks := .later }
def FnGermSameUptoCardSaid : Prop := Claim7.holds Tryz.pinned (.plain (OpenSpec.upto fnGermSameSpec)) fnGermSameUptoCard

/-- THE SECOND FORM's CARD OF 'laws.FnGermCount'. -/
def fnGermCountUptoCard : Claim7 := { stood := { row := fnGermCountUptoRow, standIns := [], harness := (true, "77c222406daaab5ca4452883f23dbb83e7f9c038892078ae1db43077ba47699e"), looks := true }, kinds := [], alts := [], goes := true, laidByText := true, laidKinds := [.handle], laidTests := true, laidLooks := .later }
def FnGermCountUptoCardSaid : Prop := Claim7.holds Tryz.pinned (.plain (OpenSpec.upto fnGermCountSpec)) fnGermCountUptoCard

/-- THE SECOND FORM's CARD OF 'laws.FnExactGermCount'. -/
def fnExactGermCountUptoCard : Claim7 := { stood := { row := fnExactGermCountUptoRow, standIns := [], harness := (true, "77c222406daaab5ca4452883f23dbb83e7f9c038892078ae1db43077ba47699e"), looks := true }, kinds := [], alts := [], goes := true, laidByText := true, laidKinds := [.handle], laidTests := true, laidLooks := .later }
def FnExactGermCountUptoCardSaid : Prop := Claim7.holds Tryz.pinned (.plain (OpenSpec.upto fnExactGermCountSpec)) fnExactGermCountUptoCard

/-- THE SECOND FORM's CARD OF 'laws.FnExactCongruenceGroup'. -/
def fnExactCongruenceGroupUptoCard : Claim7 := { stood := { row := fnExactCongruenceGroupUptoRow, standIns := [], harness := (true, "77c222406daaab5ca4452883f23dbb83e7f9c038892078ae1db43077ba47699e"), looks := true }, kinds := [], alts := [], goes := true, laidByText := true, laidKinds := [.handle], laidTests := true, laidLooks := .later }
def FnExactCongruenceGroupUptoCardSaid : Prop := Claim7.holds Tryz.pinned (.plain (OpenSpec.upto fnExactCongruenceGroupSpec)) fnExactCongruenceGroupUptoCard

/-- THE SECOND FORM's CARD OF 'laws.FnExactCongruenceLeast'. -/
def fnExactCongruenceLeastUptoCard : Claim7 := { stood := { row := fnExactCongruenceLeastUptoRow, standIns := [], harness := (true, "77c222406daaab5ca4452883f23dbb83e7f9c038892078ae1db43077ba47699e"), looks := true }, kinds := [], alts := [], goes := true, laidByText := true, laidKinds := [.handle], laidTests := true, laidLooks := .later }
def FnExactCongruenceLeastUptoCardSaid : Prop := Claim7.holds Tryz.pinned (.plain (OpenSpec.upto fnExactCongruenceLeastSpec)) fnExactCongruenceLeastUptoCard

/-- THE SECOND FORM's CARD OF 'laws.FnExactCongruenceSplit'. -/
def fnExactCongruenceSplitUptoCard : Claim7 := { stood := { row := fnExactCongruenceSplitUptoRow, standIns := [], harness := (true, "77c222406daaab5ca4452883f23dbb83e7f9c038892078ae1db43077ba47699e"), looks := true }, kinds := [], alts := [], goes := true, laidByText := true, laidKinds := [.handle], laidTests := true, laidLooks := .later }
def FnExactCongruenceSplitUptoCardSaid : Prop := Claim7.holds Tryz.pinned (.plain (OpenSpec.upto fnExactCongruenceSplitSpec)) fnExactCongruenceSplitUptoCard

/-- THE SECOND FORM's CARD OF 'laws.FnExactCongruenceSplits'. -/
def fnExactCongruenceSplitsUptoCard : Claim7 := { stood := { row := fnExactCongruenceSplitsUptoRow, standIns := [], harness := (true, "77c222406daaab5ca4452883f23dbb83e7f9c038892078ae1db43077ba47699e"), looks := true }, kinds := [], alts := [], goes := true, laidByText := true, laidKinds := [.handle], laidTests := true, laidLooks := .later }
def FnExactCongruenceSplitsUptoCardSaid : Prop := Claim7.holds Tryz.pinned (.plain (OpenSpec.upto fnExactCongruenceSplitsSpec)) fnExactCongruenceSplitsUptoCard

/-- THE SECOND FORM's CARD OF 'laws.FnExactCongruenceKernel'. -/
def fnExactCongruenceKernelUptoCard : Claim7 := { stood := { row := fnExactCongruenceKernelUptoRow, standIns := [], harness := (true, "77c222406daaab5ca4452883f23dbb83e7f9c038892078ae1db43077ba47699e"), looks := true }, kinds := [], alts := [], goes := true, laidByText := true, laidKinds := [.handle], laidTests := true, laidLooks := .later }
def FnExactCongruenceKernelUptoCardSaid : Prop := Claim7.holds Tryz.pinned (.plain (OpenSpec.upto fnExactCongruenceKernelSpec)) fnExactCongruenceKernelUptoCard

/-- THE SECOND FORM's CARD OF 'laws.FnExactCongruenceSize'. -/
def fnExactCongruenceSizeUptoCard : Claim7 := { stood := { row := fnExactCongruenceSizeUptoRow, standIns := [], harness := (true, "77c222406daaab5ca4452883f23dbb83e7f9c038892078ae1db43077ba47699e"), looks := true }, kinds := [], alts := [], goes := true, laidByText := true, laidKinds := [.handle], laidTests := true, laidLooks := .later }
def FnExactCongruenceSizeUptoCardSaid : Prop := Claim7.holds Tryz.pinned (.plain (OpenSpec.upto fnExactCongruenceSizeSpec)) fnExactCongruenceSizeUptoCard

/-- THE SECOND FORM's CARD OF 'laws.FnExactCongruenceFiner'. -/
def fnExactCongruenceFinerUptoCard : Claim7 := { stood := { row := fnExactCongruenceFinerUptoRow, standIns := [], harness := (true, "77c222406daaab5ca4452883f23dbb83e7f9c038892078ae1db43077ba47699e"), looks := true }, kinds := [], alts := [], goes := true, laidByText := true, laidKinds := [.handle], laidTests := true, laidLooks := .later }
def FnExactCongruenceFinerUptoCardSaid : Prop := Claim7.holds Tryz.pinned (.plain (OpenSpec.upto fnExactCongruenceFinerSpec)) fnExactCongruenceFinerUptoCard
end Rows
end Go.Proofs.YtmknjifmmmnjjaaGreatDoor
