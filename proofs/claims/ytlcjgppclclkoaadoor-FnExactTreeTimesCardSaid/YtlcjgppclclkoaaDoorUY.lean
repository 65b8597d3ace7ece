/-
  Tt.
-/
import Derived.Test.YtlcjgppclclkoaaDoorTV
import Derived.Test.YtlcjgppclclkoaaDoorUO
namespace Go.Proofs.YtlcjgppclclkoaaDoor
set_option maxRecDepth 100000
set_option linter.unusedVariables false
set_option linter.unusedSimpArgs false
set_option linter.unusedSectionVars false

/-! What a drawn region leaves that makes two trees' copies, calls with them, and stores what is answered in a box made at any time. -/
section
open Go.RowKit Go.Lib Go.Sort

theorem bel_step {v W q : World} {B : Nat} (h : Below B v W) (hb : Below W.heap.size W q) (hB : B ≤ v.heap.size) : Below B v q := h.trans (hb.mono (Nat.le_trans hB h.size))
theorem got_row {v W q : World} {size n : Nat} {e : TypeId} {x : Value} {xs : List Value} (h : Below v.heap.size v W) (ho : q.ownsRow W.heap.size e size x n xs) : q.ownsRow v.heap.size e size x n xs := own_down0 ho h.size
def ZBox (v q : World) (g : Nat) : Prop := Blk q g 29 #[.slice none 0 0, .string ⟨#[]⟩] ∧ v.heap.size ≤ g
theorem new_box {v X q : World} (h : Below v.heap.size v X) (hb : Below (X.alloc (.cells #[.slice none 0 0, .string ⟨#[]⟩] 29)).heap.size (X.alloc (.cells #[.slice none 0 0, .string ⟨#[]⟩] 29)) q) : ZBox v q X.heap.size :=
  ⟨(Blk.new X 29 #[.slice none 0 0, .string ⟨#[]⟩]).below hb (by simp), h.size⟩
theorem ZBox.below {v q q' : World} {g : Nat} (h : ZBox v q g) (hb : Below q.heap.size q q') : ZBox v q' g := ⟨h.1.below hb h.1.lt, h.2⟩
theorem ZBox.cells {v q : World} {g : Nat} (h : ZBox v q g) : q.cell? ⟨g, 0, none⟩ = some (.slice none 0 0) ∧ q.cell? ⟨g, 1, none⟩ = some (.string ⟨#[]⟩) ∧ q.frozen? ⟨g, 0, none⟩ = false ∧ q.frozen? ⟨g, 1, none⟩ = false ∧ g < q.heap.size := ⟨h.1.cell 0, h.1.cell 1, h.1.frozen 0, h.1.frozen 1, h.1.lt⟩
theorem ZBox.ex {v q : World} {g : Nat} (_ : ZBox v q g) : ∃ x, x = g := ⟨_, rfl⟩
def Got (v V : World) (g : Nat) (A : Option Addr) (n c : Nat) (R : Option (List (List (Fin 4)) × List (Fin 4))) : Prop :=
  Below v.heap.size v V ∧ Blk V g 29 #[.slice A n c, .string (resE R)] ∧ V.ownsRow v.heap.size 9 1 (.slice A n c) n (svL (resL R))
theorem blk_set {V : World} {g : Nat} {t : TypeId} {a b x y : Value} (h : Blk V g t #[a, b]) : Blk ((V.setCell ⟨g, 0, none⟩ x).setCell ⟨g, 1, none⟩ y) g t #[x, y] := by
  have h1 := heap_setCell_same V g 0 _ t x h
  have h2 := heap_setCell_same (V.setCell ⟨g, 0, none⟩ x) g 1 _ t y h1
  simp at h2
  exact h2
theorem got_set {v q : World} {g n c : Nat} {A : Option Addr} {R : Option (List (List (Fin 4)) × List (Fin 4))} (hB : Below v.heap.size v q) (hz : ZBox v q g) (ho : q.ownsRow v.heap.size 9 1 (.slice A n c) n (svL (resL R))) :
    Got v ((q.setCell ⟨g, 0, none⟩ (.slice A n c)).setCell ⟨g, 1, none⟩ (.string (resE R))) g A n c R :=
  ⟨(hB.setCell (p := ⟨g, 0, none⟩) hz.2 _).setCell (p := ⟨g, 1, none⟩) hz.2 _, blk_set hz.1, by
    have n1 := own_blk_ne ho hz.1 (by decide)
    exact ownsRow_setCell_other (ownsRow_setCell_other ho n1 _) n1 _⟩
theorem got_new {v q : World} {n c : Nat} {A : Option Addr} {R : Option (List (List (Fin 4)) × List (Fin 4))} (hB : Below v.heap.size v q) (ho : q.ownsRow v.heap.size 9 1 (.slice A n c) n (svL (resL R))) :
    Got v (q.alloc (.cells #[.slice A n c, .string (resE R)] 29)) q.heap.size A n c R :=
  ⟨hB.alloc hB.size _, Blk.new q _ _, ho.alloc _⟩
end

end Go.Proofs.YtlcjgppclclkoaaDoor
