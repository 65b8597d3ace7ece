/-
  S3A.
-/
import Derived.Test.YtifijokfgidbcaaDoorME
import Derived.Test.YtifijokfgidbcaaDoorNA
namespace Go.Proofs.YtifijokfgidbcaaDoor
set_option maxRecDepth 100000
set_option linter.unusedVariables false
set_option linter.unusedSimpArgs false
set_option linter.unusedSectionVars false

/-! spec: lists compared, a list among others by halving; they only read. -/
section
open Go.RowKit

theorem RI.drawn {w : World} {A : Option Addr} {n : Nat} {zs : List Int} (h : RI w A n zs) (k : Nat) : RI (w.drewN k) A n zs := h.below ⟨rfl, rfl, rfl, Nat.le_refl _, fun _ _ => rfl⟩
theorem RSS.drawn {w : World} {A : Option Addr} {n : Nat} {zs : List (List Int)} (h : RSS w A n zs) (k : Nat) : RSS (w.drewN k) A n zs := h.below ⟨rfl, rfl, rfl, Nat.le_refl _, fun _ _ => rfl⟩

theorem drawn_on {w wr : World} {q : Nat} (hw : wr = w.drewN q) (k : Nat) : ∃ r, wr.drewN k = w.drewN r := ⟨q + k, by rw [hw]; exact World.drewN_drewN _ _ _⟩
theorem drawn_on1 {w wr : World} {q : Nat} (hw : wr = w.drewN q) : ∃ r, wr = w.drewN r := ⟨q, hw⟩


end

end Go.Proofs.YtifijokfgidbcaaDoor
