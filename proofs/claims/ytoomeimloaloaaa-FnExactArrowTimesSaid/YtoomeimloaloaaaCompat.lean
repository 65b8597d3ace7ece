/-
  (impl.chart).compatible.
-/
import Derived.Test.YtoomeimloaloaaaComp
import Derived.Test.YtoomeimloaloaaaJoin
import Derived.Deep.RegionHeld3
import Derived.Deep.RegionWith
namespace Go.Proofs.Ytoomeimloaloaaa
set_option maxRecDepth 100000
open Go.RowKit

theorem s14 {W : World} {b b' : Nat} {n m : Int} {T G : Nat → Int} (h : Cb W b n T) (h' : Cb W b' m G) :
    W.cell? ⟨b, 0, none⟩ = some (.int .i64 n) ∧ W.cell? ⟨b, 1, none⟩ = some (.int .i64 (T 0)) ∧ W.cell? ⟨b, 2, none⟩ = some (.int .i64 (T 1)) ∧ W.cell? ⟨b, 3, none⟩ = some (.int .i64 (T 2)) ∧ W.cell? ⟨b, 4, none⟩ = some (.int .i64 (T 3)) ∧ W.cell? ⟨b, 5, none⟩ = some (.int .i64 (T 4)) ∧ W.cell? ⟨b, 6, none⟩ = some (.int .i64 (T 5)) ∧
    W.cell? ⟨b', 0, none⟩ = some (.int .i64 m) ∧ W.cell? ⟨b', 1, none⟩ = some (.int .i64 (G 0)) ∧ W.cell? ⟨b', 2, none⟩ = some (.int .i64 (G 1)) ∧ W.cell? ⟨b', 3, none⟩ = some (.int .i64 (G 2)) ∧ W.cell? ⟨b', 4, none⟩ = some (.int .i64 (G 3)) ∧ W.cell? ⟨b', 5, none⟩ = some (.int .i64 (G 4)) ∧ W.cell? ⟨b', 6, none⟩ = some (.int .i64 (G 5)) := by
  obtain ⟨a0, a1, a2, a3, a4, a5, a6⟩ := h.all
  obtain ⟨c0, c1, c2, c3, c4, c5, c6⟩ := h'.all
  exact ⟨a0, a1, a2, a3, a4, a5, a6, c0, c1, c2, c3, c4, c5, c6⟩

theorem cb_keep {W W0 W1 : World} {b : Nat} {n : Int} {T : Nat → Int} (hb : Below W0.heap.size W0 W1) (h : Cb W b n T) (e : W0.heap = W.heap) : Cb W1 b n T := by
  have h0 : Cb W0 b n T := World.rowIs.of_block h (by rw [e])
  exact h0.below hb h0.lt
theorem bel_keep {B : Nat} {a W W0 W1 : World} (hb : Below W0.heap.size W0 W1) (h : Below B a W) (eh : W0.heap = W.heap) (eo : W0.os = W.os) (et : W0.tape = W.tape) (eu : W0.output = W.output) (hs : B ≤ W.heap.size) : Below B a W1 := by
  have h0 : Below B a W0 := ⟨eo.trans h.os, et.trans h.tape, eu.trans h.output, by rw [eh]; exact h.size, fun k hk => by rw [eh]; exact h.block k hk⟩
  exact h0.trans (hb.mono (by rw [eh]; exact hs))

end Go.Proofs.Ytoomeimloaloaaa
