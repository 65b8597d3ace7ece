/-
  Part.
-/
import Derived.Test.YtmknjifmmmnjjaaDoorNP
import Derived.Test.YtmknjifmmmnjjaaDoorNQ
namespace Go.Proofs.YtmknjifmmmnjjaaDoor
set_option maxRecDepth 100000
set_option linter.unusedVariables false
set_option linter.unusedSimpArgs false
set_option linter.unusedSectionVars false

/-! (impl.semigroup).part, (impl.semigroup).idems. -/
section
open Go.RowKit Go.Maps

end

end Go.Proofs.YtmknjifmmmnjjaaDoor
