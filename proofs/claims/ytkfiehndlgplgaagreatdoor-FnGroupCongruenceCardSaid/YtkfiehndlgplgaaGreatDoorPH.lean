/-
  Ah.
-/
import Derived.Test.YtkfiehndlgplgaaGreatDoorPG
namespace Go.Proofs.YtkfiehndlgplgaaGreatDoor
set_option maxRecDepth 100000
set_option linter.unusedVariables false
set_option linter.unusedSimpArgs false
set_option linter.unusedSectionVars false

/-! (impl.arrows).lists; ArrowObjects, ArrowLocal, ArrowFrom of the program. -/
section
open Go.RowKit Go.Maps

def objI (zs : List (List Int)) : List Int := nums ((sgl zs).map doI)
def frL (zs : List (List Int)) (a b : Int) : List (List Int) := (sgl zs).filter (btB a b)
def obB (zs : List (List Int)) (a : Int) : Bool := (sgl zs).any (isO a)
theorem frL_ch {zs : List (List Int)} {a b : Int} : ∀ L ∈ frL zs a b, isC L = true ∧ L.length = m0 zs := fun L hL => sgl_ch L (List.mem_filter.1 hL).1
theorem frL_len (zs : List (List Int)) (a b : Int) : (frL zs a b).length ≤ 400 := Nat.le_trans (List.length_filter_le _ _) (sgl_len zs)
end

end Go.Proofs.YtkfiehndlgplgaaGreatDoor
