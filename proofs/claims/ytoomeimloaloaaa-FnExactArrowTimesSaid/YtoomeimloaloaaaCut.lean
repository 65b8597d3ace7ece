/-
  (impl.chart).cut.
-/
import Derived.Test.YtoomeimloaloaaaTurned
namespace Go.Proofs.Ytoomeimloaloaaa
set_option maxRecDepth 100000
open Go.RowKit Go.Shelf
attribute [local go_sem] Oper.semAt_some


/-- block b is one number's -/
def Ib (w : World) (b : Nat) (v : Int) : Prop := w.rowIs b 3 1 (fun _ => .int .i64 v)
theorem Ib.cell {w : World} {b : Nat} {v : Int} (h : Ib w b v) : w.cell? ⟨b, 0, none⟩ = some (.int .i64 v) := World.rowIs.cell h (i := 0) (by omega)
theorem Ib.frozen {w : World} {b : Nat} {v : Int} (h : Ib w b v) : w.frozen? ⟨b, 0, none⟩ = false := World.rowIs.frozen h 0
theorem Ib.alloc {w : World} {b : Nat} {v : Int} (h : Ib w b v) (o : Obj) : Ib (w.alloc o) b v := World.rowIs.alloc h o
theorem Ib.below {w w' : World} {b : Nat} {v : Int} {B : Nat} (h : Ib w b v) (hb : Below B w w') (hB : b < B) : Ib w' b v := World.rowIs.of_block h (hb.block b hB)
theorem Ib.other {w : World} {b : Nat} {v : Int} (h : Ib w b v) {a : Addr} (ha : b ≠ a.block) (u : Value) : Ib (w.setCell a u) b v := World.rowIs.setOther h ha u
theorem Ib.new (w : World) (v : Int) : Ib (w.alloc (.cells #[.int .i64 v] 3)) w.heap.size v :=
  World.rowIs_alloc w _ 3 (fun _ => .int .i64 v) (fun i hi => by
    match i, hi with
    | 0, _ => rfl)
theorem ib_own {β : Type} (b : Nat) (f : β → Int) : Own (fun s W => Ib W b (f s)) := fun s X Y row hs hg hrow =>
  World.rowIs.of_block hs (hg.block b (World.rowIs.lt hs) (fun e' => by
    obtain ⟨o, ho, hc⟩ := hrow b e'.symm
    obtain ⟨c, hb, _⟩ := hs
    rw [hb] at ho; cases ho; cases hc))

end Go.Proofs.Ytoomeimloaloaaa
