/-
  UnI.
-/
import Derived.Test.YtmknjifmmmnjjaaDoorNT
namespace Go.Proofs.YtmknjifmmmnjjaaDoor
set_option maxRecDepth 100000
set_option linter.unusedVariables false
set_option linter.unusedSimpArgs false
set_option linter.unusedSectionVars false

/-! (impl.chart).below as the maps know it, (impl.semigroup).above, unitary, impl.SemigroupUnitary. -/
section
open Go.RowKit Go.Maps

theorem all_no {L : List (List Int)} {P : List Int → Bool} {x : List Int} (hx : x ∈ L) (h : P x = false) : L.all P = false := by
  cases hc : L.all P
  · rfl
  · have := List.all_eq_true.1 hc x hx; rw [h] at this; cases this

end

end Go.Proofs.YtmknjifmmmnjjaaDoor
