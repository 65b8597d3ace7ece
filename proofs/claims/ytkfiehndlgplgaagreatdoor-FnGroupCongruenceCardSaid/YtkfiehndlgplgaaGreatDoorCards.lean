/-
  DERIVED. GIVEN WITH THE SEED: THE CARDS: each row of YtkfiehndlgplgaaGreatDoorRows.lean that lists a variable, with what it lists TIED to the program's text (the seventh form; the later family's looks); each row that meets fmt, with fmt's text TOLD by the authors' own Lean function (tested against real Go, not proved from fmt's source: count such statements apart). THE CARD IS WHAT COUNTS. Prove the row's statement (the work); the ties are given (YtkfiehndlgplgaaGreatDoorTie.lean); close each card by the builder's one call (the guide's Derived/Test/ToyasCard.lean, 'card_holds'). Laid BY PROGRAM, IN A SANDBOX (cutbox-door.mjs). By AI agents, Wed Nov 11 2026. No macro, syntax, notation, axiom, sorry.
-/
import Derived.Test.YtkfiehndlgplgaaGreatDoorRows
import GoSem.ClaimSeven
namespace Go.Proofs.YtkfiehndlgplgaaGreatDoor
namespace Rows

/-- THE TIED CARD OF 'laws.FnCongruence'. -/
def fnCongruenceCard : Claim7 := { stood := { row := fnCongruenceRow, standIns := [], harness := (true, "cf10485727b4cbc9ed44e11dc98c3aaa4be50a4a50a1bd2cd942e92a9600ff70"), looks := true }, kinds := [], alts := [], laidByText := true, laidKinds := [.handle], laidTests := true, laidLooks := .later }
def FnCongruenceCardSaid : Prop := Claim7.holds Tryz.pinned (.plain (OpenSpec.ofChange fnCongruenceSpec)) fnCongruenceCard

/-- THE TIED CARD OF 'laws.FnGroupCongruence'. -/
def fnGroupCongruenceCard : Claim7 := { stood := { row := fnGroupCongruenceRow, standIns := [], harness := (true, "cf10485727b4cbc9ed44e11dc98c3aaa4be50a4a50a1bd2cd942e92a9600ff70"), looks := true }, kinds := [], alts := [], laidByText := true, laidKinds := [.handle], laidTests := true, laidLooks := .later }
def FnGroupCongruenceCardSaid : Prop := Claim7.holds Tryz.pinned (.plain (OpenSpec.ofChange fnGroupCongruenceSpec)) fnGroupCongruenceCard

/-- THE TIED CARD OF 'laws.FnLeast'. -/
def fnLeastCard : Claim7 := { stood := { row := fnLeastRow, standIns := [], harness := (true, "cf10485727b4cbc9ed44e11dc98c3aaa4be50a4a50a1bd2cd942e92a9600ff70"), looks := true }, kinds := [], alts := [], laidByText := true, laidKinds := [.handle], laidTests := true, laidLooks := .later }
def FnLeastCardSaid : Prop := Claim7.holds Tryz.pinned (.plain (OpenSpec.ofChange fnLeastSpec)) fnLeastCard

/-- THE TIED CARD OF 'laws.FnSplit'. -/
def fnSplitCard : Claim7 := { stood := { row := fnSplitRow, standIns := [], harness := (true, "cf10485727b4cbc9ed44e11dc98c3aaa4be50a4a50a1bd2cd942e92a9600ff70"), looks := true }, kinds := [], alts := [], laidByText := true, laidKinds := [.handle], laidTests := true, laidLooks := .later }
def FnSplitCardSaid : Prop := Claim7.holds Tryz.pinned (.plain (OpenSpec.ofChange fnSplitSpec)) fnSplitCard

/-- THE TIED CARD OF 'laws.FnSplits'. -/
def fnSplitsCard : Claim7 := { stood := { row := fnSplitsRow, standIns := [], harness := (true, "cf10485727b4cbc9ed44e11dc98c3aaa4be50a4a50a1bd2cd942e92a9600ff70"), looks := true }, kinds := [], alts := [], laidByText := true, laidKinds := [.handle], laidTests := true, laidLooks := .later }
def FnSplitsCardSaid : Prop := Claim7.holds Tryz.pinned (.plain (OpenSpec.ofChange fnSplitsSpec)) fnSplitsCard

/-- THE TIED CARD OF 'laws.FnKernel'. -/
def fnKernelCard : Claim7 := { stood := { row := fnKernelRow, standIns := [], harness := (true, "cf10485727b4cbc9ed44e11dc98c3aaa4be50a4a50a1bd2cd942e92a9600ff70"), looks := true }, kinds := [], alts := [], laidByText := true, laidKinds := [.handle], laidTests := true, laidLooks := .later }
def FnKernelCardSaid : Prop := Claim7.holds Tryz.pinned (.plain (OpenSpec.ofChange fnKernelSpec)) fnKernelCard

/-- THE TIED CARD OF 'laws.FnSize'. -/
def fnSizeCard : Claim7 := { stood := { row := fnSizeRow, standIns := [], harness := (true, "cf10485727b4cbc9ed44e11dc98c3aaa4be50a4a50a1bd2cd942e92a9600ff70"), looks := true }, kinds := [], alts := [], laidByText := true, laidKinds := [.handle], laidTests := true, laidLooks := .later }
def FnSizeCardSaid : Prop := Claim7.holds Tryz.pinned (.plain (OpenSpec.ofChange fnSizeSpec)) fnSizeCard

/-- THE TIED CARD OF 'laws.FnFiner'. -/
def fnFinerCard : Claim7 := { stood := { row := fnFinerRow, standIns := [], harness := (true, "cf10485727b4cbc9ed44e11dc98c3aaa4be50a4a50a1bd2cd942e92a9600ff70"), looks := true }, kinds := [], alts := [], laidByText := true, laidKinds := [.handle], laidTests := true, laidLooks := .later }
def FnFinerCardSaid : Prop := Claim7.holds Tryz.pinned (.plain (OpenSpec.ofChange fnFinerSpec)) fnFinerCard

/-- THE SECOND FORM's CARD OF 'laws.FnCongruence'. -/
def fnCongruenceUptoCard : Claim7 := { stood := { row := fnCongruenceUptoRow, standIns := [], harness := (true, "cf10485727b4cbc9ed44e11dc98c3aaa4be50a4a50a1bd2cd942e92a9600ff70"), looks := true }, kinds := [], alts := [], laidByText := true, laidKinds := [.handle], laidTests := true, laidLooks := .later }
def FnCongruenceUptoCardSaid : Prop := Claim7.holds Tryz.pinned (.plain (OpenSpec.upto fnCongruenceSpec)) fnCongruenceUptoCard

/-- THE SECOND FORM's CARD OF 'laws.FnGroupCongruence'. -/
def fnGroupCongruenceUptoCard : Claim7 := { stood := { row := fnGroupCongruenceUptoRow, standIns := [], harness := (true, "cf10485727b4cbc9ed44e11dc98c3aaa4be50a4a50a1bd2cd942e92a9600ff70"), looks := true }, kinds := [], alts := [], laidByText := true, laidKinds := [.handle], laidTests := true, laidLooks := .later }
def FnGroupCongruenceUptoCardSaid : Prop := Claim7.holds Tryz.pinned (.plain (OpenSpec.upto fnGroupCongruenceSpec)) fnGroupCongruenceUptoCard

/-- THE SECOND FORM's CARD OF 'laws.FnLeast'. -/
def fnLeastUptoCard : Claim7 := { stood := { row := fnLeastUptoRow, standIns := [], harness := (true, "cf10485727b4cbc9ed44e11dc98c3aaa4be50a4a50a1bd2cd942e92a9600ff70"), looks := true }, kinds := [], alts := [], laidByText := true, laidKinds := [.handle], laidTests := true, laidLooks := .later }
def FnLeastUptoCardSaid : Prop := Claim7.holds Tryz.pinned (.plain (OpenSpec.upto fnLeastSpec)) fnLeastUptoCard

/-- THE SECOND FORM's CARD OF 'laws.FnSplit'. -/
def fnSplitUptoCard : Claim7 := { stood := { row := fnSplitUptoRow, standIns := [], harness := (true, "cf10485727b4cbc9ed44e11dc98c3aaa4be50a4a50a1bd2cd942e92a9600ff70"), looks := true }, kinds := [], alts := [], laidByText := true, laidKinds := [.handle], laidTests := true, laidLooks := .later }
def FnSplitUptoCardSaid : Prop := Claim7.holds Tryz.pinned (.plain (OpenSpec.upto fnSplitSpec)) fnSplitUptoCard

/-- THE SECOND FORM's CARD OF 'laws.FnSplits'. -/
def fnSplitsUptoCard : Claim7 := { stood := { row := fnSplitsUptoRow, standIns := [], harness := (true, "cf10485727b4cbc9ed44e11dc98c3aaa4be50a4a50a1bd2cd942e92a9600ff70"), looks := true }, kinds := [], alts := [], laidByText := true, laidKinds := [.handle], laidTests := true, laidLooks := .later }
def FnSplitsUptoCardSaid : Prop := Claim7.holds Tryz.pinned (.plain (OpenSpec.upto fnSplitsSpec)) fnSplitsUptoCard

/-- THE SECOND FORM's CARD OF 'laws.FnKernel'. -/
def fnKernelUptoCard : Claim7 := { stood := { row := fnKernelUptoRow, standIns := [], harness := (true, "cf10485727b4cbc9ed44e11dc98c3aaa4be50a4a50a1bd2cd942e92a9600ff70"), looks := true }, kinds := [], alts := [], laidByText := true, laidKinds := [.handle], laidTests := true, laidLooks := .later }
def FnKernelUptoCardSaid : Prop := Claim7.holds Tryz.pinned (.plain (OpenSpec.upto fnKernelSpec)) fnKernelUptoCard

/-- THE SECOND FORM's CARD OF 'laws.FnSize'. -/
def fnSizeUptoCard : Claim7 := { stood := { row := fnSizeUptoRow, standIns := [], harness := (true, "cf10485727b4cbc9ed44e11dc98c3aaa4be50a4a50a1bd2cd942e92a9600ff70"), looks := true }, kinds := [], alts := [], laidByText := true, laidKinds := [.handle], laidTests := true, laidLooks := .later }
def FnSizeUptoCardSaid : Prop := Claim7.holds Tryz.pinned (.plain (OpenSpec.upto fnSizeSpec)) fnSizeUptoCard

/-- THE SECOND FORM's CARD OF 'laws.FnFiner'. -/
def fnFinerUptoCard : Claim7 := { stood := { row := fnFinerUptoRow, standIns := [], harness := (true, "cf10485727b4cbc9ed44e11dc98c3aaa4be50a4a50a1bd2cd942e92a9600ff70"), looks := true }, kinds := [], alts := [], laidByText := true, laidKinds := [.handle], laidTests := true, laidLooks := .later }
def FnFinerUptoCardSaid : Prop := Claim7.holds Tryz.pinned (.plain (OpenSpec.upto fnFinerSpec)) fnFinerUptoCard
end Rows
end Go.Proofs.YtkfiehndlgplgaaGreatDoor
