/-
  ChartJoin of both.
-/
import Derived.Test.YtoomeimloaloaaaCompB
import Derived.Deep.AppendLies
namespace Go.Proofs.Ytoomeimloaloaaa
set_option maxRecDepth 100000
open Go.RowKit


theorem app_cell {w wr w1 X : World} {o : Obj} {v u : Value} {n k : Nat} {xs : List Value} {ad : Addr} (hg : X.grownBy w1 v.ownBlock) (hown : wr.ownsRow w.heap.size 3 1 v n xs) (hc : wr.cell? (ad.add k) = some u) (hab : ad.block < w.heap.size) (hX : X.heap = (wr.alloc o).heap := by rfl) : w1.cell? (ad.add k) = some u := by
  have hX' : X.cell? (ad.add k) = some u := by
    have hlt : (ad.add k).block < wr.heap.size := block_lt_of_cell hc
    rw [← hc, ← World.cell?_alloc_lt wr o (ad.add k) hlt]
    exact World.cell?_of_block (by rw [hX])
  refine hg.cell hX' (fun e => ?_)
  have := (hown.lt _ e.symm).1
  rw [block_of_add] at this
  omega

end Go.Proofs.Ytoomeimloaloaaa
