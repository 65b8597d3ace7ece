/-
  Af.
-/
import Derived.Test.YtkfiehndlgplgaaGreatDoorPE
namespace Go.Proofs.YtkfiehndlgplgaaGreatDoor
set_option maxRecDepth 100000
set_option linter.unusedVariables false
set_option linter.unusedSimpArgs false
set_option linter.unusedSectionVars false

/-! (impl.arrows).lists, objects, isObject, between; impl.arrowsFrom, ArrowObjects, ArrowLocal, ArrowFrom. -/
section
open Go.RowKit Go.Maps

/-- the charts of a list that is a semigroup, none of others -/
def sgl (zs : List (List Int)) : List (List Int) := if sgS zs = true then zs else []
def m0 (zs : List (List Int)) : Nat := (ent zs 0).length
theorem sgl_ch {zs : List (List Int)} : ∀ L ∈ sgl zs, isC L = true ∧ L.length = m0 zs := fun L hL => by
  unfold sgl at hL
  split at hL
  · rename_i h; exact (sgS_iff.1 h).ch L hL
  · cases hL
theorem sgl_len (zs : List (List Int)) : (sgl zs).length ≤ 400 := by
  unfold sgl
  split
  · rename_i h; exact (sgS_iff.1 h).most
  · simp
def doI (L : List Int) : Int := (doN L : Nat)
def raI (L : List Int) : Int := (raN L : Nat)
def btB (a b : Int) (L : List Int) : Bool := decide (doI L = a) && decide (raI L = b)
end

end Go.Proofs.YtkfiehndlgplgaaGreatDoor
