/-
  Grp.
-/
import Derived.Test.YtmknjifmmmnjjaaDoorNQ
import Derived.Test.YtmknjifmmmnjjaaDoorNR
namespace Go.Proofs.YtmknjifmmmnjjaaDoor
set_option maxRecDepth 100000
set_option linter.unusedVariables false
set_option linter.unusedSimpArgs false
set_option linter.unusedSectionVars false

/-! SemigroupIdems (spec), SemigroupGroup (both sides). -/
section
open Go.RowKit Go.Maps

theorem sg_isC {zs : List (List Int)} (h : sgS zs = true) : ∀ L ∈ zs, isC L = true := fun L hL => ((sgS_iff.1 h).ch L hL).1
def idL (zs : List (List Int)) : List (List Int) := if sgS zs = true then zs.filter idB else []
def sgrB (zs : List (List Int)) : Bool := sgS zs && decide ((zs.filter idB).length = 1)

theorem own_shape {w : World} {base size n : Nat} {e : TypeId} {v : Value} {xs : List Value} (h : w.ownsRow base e size v n xs) : ∃ A c, v = .slice A n c := by
  rcases h.2 with ⟨rfl, rfl⟩ | ⟨g, cap, _, rfl, _⟩
  · exact ⟨none, 0, rfl⟩
  · exact ⟨_, _, rfl⟩

end

end Go.Proofs.YtmknjifmmmnjjaaDoor
