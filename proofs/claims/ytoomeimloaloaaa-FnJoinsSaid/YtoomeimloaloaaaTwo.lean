/-
  spec's drawn charts: l91One, l91Two.
-/
import Derived.Test.YtoomeimloaloaaaOpen
import Derived.Deep.Onto
import Derived.Test.YtoomeimloaloaaaSet
import Derived.Test.YtoomeimloaloaaaMark
namespace Go.Proofs.Ytoomeimloaloaaa
set_option maxRecDepth 100000
open Go.RowKit
theorem below_gb {B R : Nat} {w w1 w2 : World} (h : Below B w w1) (hB : B ≤ w.heap.size) (hg : w1.grownBy w2 (some R)) (hR : B ≤ R) : Below B w w2 :=
  h.grown hg (Nat.le_trans hB h.size) (fun k e => by injection e with e; omega)

/-- two drawn lists, apart -/
def TwoL (w : World) (v u : Value) (w' : World) : Prop := ∃ L M : List Int, L.length ≤ 1048576 ∧ M.length ≤ 1048576 ∧ w'.ownsRow w.heap.size 3 1 v L.length (ivs L) ∧ w'.ownsRow w.heap.size 3 1 u M.length (ivs M) ∧
  (∀ g, v.ownBlock = some g → u.ownBlock = some g → False) ∧ Below w.heap.size w w'

theorem pow_wrap : ∀ v0 : Nat, v0 < 6 → wrap64 ((2 : Int) ^ (1 + v0)) = ((2 ^ (1 + v0) : Nat) : Int) ∧ 1 ≤ 2 ^ (1 + v0) ∧ 2 ^ (1 + v0) ≤ 64
  | 0, _ => by decide +kernel
  | 1, _ => by decide +kernel
  | 2, _ => by decide +kernel
  | 3, _ => by decide +kernel
  | 4, _ => by decide +kernel
  | 5, _ => by decide +kernel
  | n + 6, h => absurd h (by omega)

end Go.Proofs.Ytoomeimloaloaaa
