/-
  Ae.
-/
import Derived.Test.YtkfiehndlgplgaaGreatDoorPA
import Derived.Test.YtkfiehndlgplgaaGreatDoorPD
namespace Go.Proofs.YtkfiehndlgplgaaGreatDoor
set_option maxRecDepth 100000
set_option linter.unusedVariables false
set_option linter.unusedSimpArgs false
set_option linter.unusedSectionVars false

/-! (impl.arrows).numbers, lists; impl.arrowsFrom; objects, isObject, between, and what is asked of them: ArrowObjects, ArrowLocal, ArrowFrom. -/
section
open Go.RowKit Go.Maps

theorem nums_nil : nums [] = [] := List.eq_nil_iff_forall_not_mem.2 (fun x h => by rw [nums_mem] at h; cases h)
end

end Go.Proofs.YtkfiehndlgplgaaGreatDoor
