/-
  All.
-/
import Derived.Test.YtifijokfgidbcaaDoorME
import Derived.Test.YtifijokfgidbcaaDoorMG
import Derived.Test.YtifijokfgidbcaaDoorNA
namespace Go.Proofs.YtifijokfgidbcaaDoor
set_option maxRecDepth 100000
set_option linter.unusedVariables false
set_option linter.unusedSimpArgs false
set_option linter.unusedSectionVars false

/-! All charts of at most three points are a semigroup, and as many as counted; no program. -/
section
theorem all_sg : ∀ k : Fin 5, inB ((k.val : Nat) : Int) 1 3 = true → sgS (allCL ((k.val : Nat) : Int)) = true ∧ numL ((k.val : Nat) : Int) = (allCL ((k.val : Nat) : Int)).length ∧ inB ((k.val : Nat) : Int) 0 12 = true := by decide +kernel
theorem all_no (n : Int) (h : inB n 1 3 = false) : allCL n = [] := by unfold allCL; rw [h]; rfl
/-! ### what the law's rounds want -/
open Go.RowKit
theorem ri_hp {w W : World} {A : Option Addr} {n : Nat} {zs : List Int} (h : RI w A n zs) (e : W.heap = w.heap) : RI W A n zs := by
  cases W; cases w; simp only at e; subst e; exact h
theorem ri_kp {W W0 W1 : World} {A : Option Addr} {n : Nat} {zs : List Int} (hb : Below W0.heap.size W0 W1) (h : RI W A n zs) (eh : W0.heap = W.heap) : RI W1 A n zs := (ri_hp h eh).below hb
theorem cell_kp {W W0 W1 : World} {a : Addr} {v : Value} (hb : Below W0.heap.size W0 W1) (h : W.cell? a = some v) (eh : W0.heap = W.heap) : W1.cell? a = some v := by
  have h0 : W0.cell? a = some v := by
    cases W0; cases W; simp only at eh; subst eh; exact h
  exact (hb.cell (block_lt_of_cell h0)).trans h0
theorem srt_ne {zs : List (List Int)} (h : Srt zs) {i p : Nat} (hp : p + 1 = i) (hi : i < zs.length) : ent zs i ≠ ent zs p := fun e => by
  have h1 := h p i (by omega) hi
  rw [e, lexB_irrefl] at h1
  cases h1
end

end Go.Proofs.YtifijokfgidbcaaDoor
