/-
  Ac.
-/
import Derived.Test.YtkfiehndlgplgaaGreatDoorShi
import Derived.Test.YtkfiehndlgplgaaGreatDoorPA
import Derived.Test.YtkfiehndlgplgaaGreatDoorPC
namespace Go.Proofs.YtkfiehndlgplgaaGreatDoor
set_option maxRecDepth 100000
set_option linter.unusedVariables false
set_option linter.unusedSimpArgs false
set_option linter.unusedSectionVars false

/-! (impl.arrows).part, numbers, lists. -/
section
open Go.RowKit Go.Maps

end

end Go.Proofs.YtkfiehndlgplgaaGreatDoor
