/-
  impl.GraphIn.
-/
import Derived.Test.YthliifgjolgmgaaDoorHd
namespace Go.Proofs.YthliifgjolgmgaaDoor
set_option maxRecDepth 100000
set_option linter.unusedVariables false
open Go.RowKit Go.Lib

theorem b2 {r s : Bool} {P : Prop} (h : r = true ↔ P) (h' : s = true ↔ P) : r = s := by
  cases r <;> cases s
  · rfl
  · exact absurd (h.2 (h'.1 rfl)) (by decide)
  · exact absurd (h'.2 (h.1 rfl)) (by decide)
  · rfl
end Go.Proofs.YthliifgjolgmgaaDoor
