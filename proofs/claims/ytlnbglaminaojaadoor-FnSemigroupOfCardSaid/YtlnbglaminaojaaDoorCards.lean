/-
  DERIVED. GIVEN WITH THE SEED: THE CARDS: each row of YtlnbglaminaojaaDoorRows.lean that lists a variable, with what it lists TIED to the program's text (the seventh form; the later family's looks); each row that meets fmt, with fmt's text TOLD by the authors' own Lean function (tested against real Go, not proved from fmt's source: count such statements apart). THE CARD IS WHAT COUNTS. Prove the row's statement (the work); the ties are given (YtlnbglaminaojaaDoorTie.lean); close each card by the builder's one call (the guide's Derived/Test/ToyasCard.lean, 'card_holds'). Laid BY PROGRAM, IN A SANDBOX (cutbox-door.mjs). By AI agents, Wed Nov 11 2026. No macro, syntax, notation, axiom, sorry.
-/
import Derived.Test.YtlnbglaminaojaaDoorRows
import GoSem.ClaimSeven
namespace Go.Proofs.YtlnbglaminaojaaDoor
namespace Rows

/-- THE TIED CARD OF 'laws.FnSemigroup'. -/
def fnSemigroupCard : Claim7 := { stood := { row := fnSemigroupRow, standIns := [], harness := (true, "e458392d7b788e510a59cba5334228a63456cfb1e91f569fa9f5e87a9988a61b"), looks := true }, kinds := [], alts := [], laidByText := true, laidKinds := [.handle], laidTests := true, laidLooks := .later }
def FnSemigroupCardSaid : Prop := Claim7.holds Tryd.pinned (.plain (OpenSpec.ofChange fnSemigroupSpec)) fnSemigroupCard

/-- THE TIED CARD OF 'laws.FnSemigroupOf'. -/
def fnSemigroupOfCard : Claim7 := { stood := { row := fnSemigroupOfRow, standIns := [], harness := (true, "e458392d7b788e510a59cba5334228a63456cfb1e91f569fa9f5e87a9988a61b"), looks := true }, kinds := [], alts := [], laidByText := true, laidKinds := [.handle], laidTests := true, laidLooks := .later }
def FnSemigroupOfCardSaid : Prop := Claim7.holds Tryd.pinned (.plain (OpenSpec.ofChange fnSemigroupOfSpec)) fnSemigroupOfCard

/-- THE TIED CARD OF 'laws.FnExactSemigroupOf'. -/
def fnExactSemigroupOfCard : Claim7 := { stood := { row := fnExactSemigroupOfRow, standIns := [], harness := (true, "e458392d7b788e510a59cba5334228a63456cfb1e91f569fa9f5e87a9988a61b"), looks := true }, kinds := [], alts := [], laidByText := true, laidKinds := [.handle], laidTests := true, laidLooks := .later }
def FnExactSemigroupOfCardSaid : Prop := Claim7.holds Tryd.pinned (.plain (OpenSpec.ofChange fnExactSemigroupOfSpec)) fnExactSemigroupOfCard

/-- THE SECOND FORM's CARD OF 'laws.FnSemigroup'. -/
def fnSemigroupUptoCard : Claim7 := { stood := { row := fnSemigroupUptoRow, standIns := [], harness := (true, "e458392d7b788e510a59cba5334228a63456cfb1e91f569fa9f5e87a9988a61b"), looks := true }, kinds := [], alts := [], laidByText := true, laidKinds := [.handle], laidTests := true, laidLooks := .later }
def FnSemigroupUptoCardSaid : Prop := Claim7.holds Tryd.pinned (.plain (OpenSpec.upto fnSemigroupSpec)) fnSemigroupUptoCard

/-- THE SECOND FORM's CARD OF 'laws.FnSemigroupOf'. -/
def fnSemigroupOfUptoCard : Claim7 := { stood := { row := fnSemigroupOfUptoRow, standIns := [], harness := (true, "e458392d7b788e510a59cba5334228a63456cfb1e91f569fa9f5e87a9988a61b"), looks := true }, kinds := [], alts := [], laidByText := true, laidKinds := [.handle], laidTests := true, laidLooks := .later }
def FnSemigroupOfUptoCardSaid : Prop := Claim7.holds Tryd.pinned (.plain (OpenSpec.upto fnSemigroupOfSpec)) fnSemigroupOfUptoCard

/-- THE SECOND FORM's CARD OF 'laws.FnExactSemigroupOf'. -/
def fnExactSemigroupOfUptoCard : Claim7 := { stood := { row := fnExactSemigroupOfUptoRow, standIns := [], harness := (true, "e458392d7b788e510a59cba5334228a63456cfb1e91f569fa9f5e87a9988a61b"), looks := true }, kinds := [], alts := [], laidByText := true, laidKinds := [.handle], laidTests := true, laidLooks := .later }
def FnExactSemigroupOfUptoCardSaid : Prop := Claim7.holds Tryd.pinned (.plain (OpenSpec.upto fnExactSemigroupOfSpec)) fnExactSemigroupOfUptoCard
end Rows
end Go.Proofs.YtlnbglaminaojaaDoor
