/-
  Ag.
-/
import Derived.Test.YtkfiehndlgplgaaGreatDoorPF
namespace Go.Proofs.YtkfiehndlgplgaaGreatDoor
set_option maxRecDepth 100000
set_option linter.unusedVariables false
set_option linter.unusedSimpArgs false
set_option linter.unusedSectionVars false

/-! slices.IndexFunc, slices.ContainsFunc of arrows; (impl.arrows).isObject, lists; ArrowObjects, ArrowLocal, ArrowFrom of the program. -/
section
open Go.RowKit Go.Maps

def isO (a : Int) (L : List Int) : Bool := decide (doI L = a)
end

end Go.Proofs.YtkfiehndlgplgaaGreatDoor
