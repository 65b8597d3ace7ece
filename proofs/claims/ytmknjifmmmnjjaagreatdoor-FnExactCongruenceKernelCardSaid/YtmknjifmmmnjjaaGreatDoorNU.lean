/-
  UnI.
-/
import Derived.Test.YtmknjifmmmnjjaaGreatDoorNT
namespace Go.Proofs.YtmknjifmmmnjjaaGreatDoor
set_option maxRecDepth 100000
set_option linter.unusedVariables false
set_option linter.unusedSimpArgs false
set_option linter.unusedSectionVars false

/-! (impl.chart).below as the maps know it, (impl.semigroup).above, unitary, impl.SemigroupUnitary. -/
section
open Go.RowKit Go.Maps

theorem all_no {L : List (List Int)} {P : List Int → Bool} {x : List Int} (hx : x ∈ L) (h : P x = false) : L.all P = false := by
  cases hc : L.all P
  · rfl
  · have := List.all_eq_true.1 hc x hx; rw [h] at this; cases this

theorem idem_c (m : Nat) (L : List Int) (hL : isC L = true) (hm : L.length = m) (w : World) :
    Calls Tryz.prog 163 #[.agg #[.int .i64 ((m : Int)), .int .i64 (ofL L 0), .int .i64 (ofL L 1), .int .i64 (ofL L 2), .int .i64 (ofL L 3), .int .i64 (ofL L 4), .int .i64 (ofL L 5)]] w fun e w' => e = .returned (.bool (idB L)) ∧ Below w.heap.size w w' := by
  subst hm
  have := idem_any L.length (isC_len hL).2 (ofL L) (isC_Ok hL) w
  rw [idB_of hL] at this
  exact this
end

end Go.Proofs.YtmknjifmmmnjjaaGreatDoor
