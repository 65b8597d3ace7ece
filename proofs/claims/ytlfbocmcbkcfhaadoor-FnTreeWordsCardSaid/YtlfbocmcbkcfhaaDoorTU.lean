/-
  St.
-/
import Derived.Test.YtlfbocmcbkcfhaaDoorTT
namespace Go.Proofs.YtlfbocmcbkcfhaaDoor
set_option maxRecDepth 100000
set_option linter.unusedVariables false
set_option linter.unusedSimpArgs false
set_option linter.unusedSectionVars false

/-! The laws' own functions on trees: copies, sizes, equality. -/
section
open Go.RowKit

theorem own_down0 {w : World} {base base' size n : Nat} {e : TypeId} {v : Value} {xs : List Value} (h : w.ownsRow base e size v n xs) (hb : base' ≤ base) : w.ownsRow base' e size v n xs :=
  ⟨h.1, h.2.imp id fun ⟨g, cap, cur, e1, h1, r⟩ => ⟨g, cap, cur, e1, Nat.le_trans hb h1, r⟩⟩
/-- stores into two blocks of another type -/
theorem own_far4 {w : World} {base size n g g' : Nat} {e t t' : TypeId} {v : Value} {xs : List Value} {cs cs' : Array Value} (h : w.ownsRow base e size v n xs) (hg : Blk w g t cs) (hg' : Blk w g' t' cs') (hne : e ≠ t) (hne' : e ≠ t') (x y z u : Value) :
    ((((w.setCell ⟨g, 0, none⟩ x).setCell ⟨g, 1, none⟩ y).setCell ⟨g', 0, none⟩ z).setCell ⟨g', 1, none⟩ u).ownsRow base e size v n xs := by
  have n1 := own_blk_ne h hg hne
  have n2 := own_blk_ne h hg' hne'
  exact ownsRow_setCell_other (ownsRow_setCell_other (ownsRow_setCell_other (ownsRow_setCell_other h n1 x) n1 y) n2 z) n2 u



end

end Go.Proofs.YtlfbocmcbkcfhaaDoor
