/-
  What the laws of chapter 1 draw.
-/
import Derived.Test.YtoomeimloaloaaaTwo
namespace Go.Proofs.Ytoomeimloaloaaa
set_option maxRecDepth 100000
open Go.RowKit

theorem bitv20 : ∀ (m : Fin 64) (z : Fin 20), bits BinOp.and IntKind.i64 ((m.val : Int) / 2 ^ z.val) 1 = ((m.val.testBit z.val).toNat : Int) := by decide +kernel
theorem pop20 : ∀ m : Fin 64, popK m.val 20 = popK m.val 6 := by decide +kernel

/-- a drawn list -/
def OneL (w : World) (v : Value) (w' : World) : Prop := ∃ L : List Int, L.length ≤ 1048576 ∧ w'.ownsRow w.heap.size 3 1 v L.length (ivs L) ∧ Below w.heap.size w w'















end Go.Proofs.Ytoomeimloaloaaa
