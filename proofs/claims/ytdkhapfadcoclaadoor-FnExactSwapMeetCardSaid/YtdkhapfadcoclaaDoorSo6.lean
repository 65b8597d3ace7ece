/-
  What the laws of chapter 6 use: swaps that came in, copies, sizes, equality; boxes of any type; a box made within a drawn region.
-/
import Derived.Test.YtdkhapfadcoclaaDoorSn6
import Derived.Lib.SmallJoins
import Derived.ChangeShapes
import Derived.ChangeSlices
import Derived.Deep.RegionHeld3
namespace Go.Proofs.YtdkhapfadcoclaaDoor
set_option maxRecDepth 100000
set_option linter.unusedVariables false
open Go.RowKit

theorem kcut0 {α : Type} {Q : Prop} (P : α → Prop) {F : α} (h1 : P F → Q) (h2 : P F) : Q := h1 h2
section
variable {H : Type} {enc : TypeId × Value → H} {P : Program} {w : World} {base : Nat} {spare : Nat → Bool} {held : Bool}
theorem open_str0 {t : TypeId} {fuel : Nat} {v : Value} {x : DataW H × List MemPlace} (ht : P.underlying t = some .string) (h : DataW.trod enc P w base spare held fuel t [v] = some x) : ∃ s : ByteArray, v = .string s ∧ s.size ≤ maxLen := by
  obtain ⟨s, e, _, hw⟩ := DataW.trod_string ht h
  exact ⟨s, List.singleton_inj.1 e, hw⟩
theorem open_bool0 {t : TypeId} {fuel : Nat} {v : Value} {x : DataW H × List MemPlace} (ht : P.underlying t = some .bool) (h : DataW.trod enc P w base spare held fuel t [v] = some x) : ∃ b : Bool, v = .bool b := by
  obtain ⟨s, e, _⟩ := DataW.trod_bool ht h
  exact ⟨s, List.singleton_inj.1 e⟩
end
/-- what is still to be said in a copy of the world -/
theorem bel_step {v W q : World} {B : Nat} (h : Below B v W) (hb : Below W.heap.size W q) (hB : B ≤ v.heap.size) : Below B v q := h.trans (hb.mono (Nat.le_trans hB h.size))
def ZBox (v q : World) (g : Nat) : Prop := Blk q g 31 #[.string ⟨#[]⟩, .string ⟨#[]⟩, .bool false] ∧ v.heap.size ≤ g
theorem new_box {v X q : World} (h : Below v.heap.size v X) (hb : Below (X.alloc (.cells #[.string ⟨#[]⟩, .string ⟨#[]⟩, .bool false] 31)).heap.size (X.alloc (.cells #[.string ⟨#[]⟩, .string ⟨#[]⟩, .bool false] 31)) q) : ZBox v q X.heap.size :=
  ⟨(Blk.new X 31 #[.string ⟨#[]⟩, .string ⟨#[]⟩, .bool false]).below hb (by simp), h.size⟩
theorem ZBox.below {v q q' : World} {g : Nat} (h : ZBox v q g) (hb : Below q.heap.size q q') : ZBox v q' g := ⟨h.1.below hb h.1.lt, h.2⟩
theorem ZBox.cells {v q : World} {g : Nat} (h : ZBox v q g) : q.cell? ⟨g, 0, none⟩ = some (.string ⟨#[]⟩) ∧ q.cell? ⟨g, 1, none⟩ = some (.string ⟨#[]⟩) ∧ q.cell? ⟨g, 2, none⟩ = some (.bool false) ∧ q.frozen? ⟨g, 0, none⟩ = false ∧ q.frozen? ⟨g, 1, none⟩ = false ∧ q.frozen? ⟨g, 2, none⟩ = false ∧ g < q.heap.size := ⟨h.1.cell 0, h.1.cell 1, h.1.cell 2, h.1.frozen 0, h.1.frozen 1, h.1.frozen 2, h.1.lt⟩
theorem ZBox.ex {v q : World} {g : Nat} (_ : ZBox v q g) : ∃ x, x = g := ⟨_, rfl⟩
def Got (v V : World) (g : Nat) (x y : ByteArray) (z : Bool) : Prop := Below v.heap.size v V ∧ Blk V g 31 #[.string x, .string y, .bool z]
theorem blk_set3 {V : World} {g : Nat} {t : TypeId} {a b c x y z : Value} (h : Blk V g t #[a, b, c]) : Blk (((V.setCell ⟨g, 0, none⟩ x).setCell ⟨g, 1, none⟩ y).setCell ⟨g, 2, none⟩ z) g t #[x, y, z] := by
  have h1 := h.set_ 0 x
  have h2 := h1.set_ 1 y
  exact h2.set_ 2 z
theorem got_set {v q : World} {g : Nat} {x y : ByteArray} {z : Bool} (hB : Below v.heap.size v q) (hz : ZBox v q g) :
    Got v (((q.setCell ⟨g, 0, none⟩ (.string x)).setCell ⟨g, 1, none⟩ (.string y)).setCell ⟨g, 2, none⟩ (.bool z)) g x y z :=
  ⟨((hB.setCell (p := ⟨g, 0, none⟩) hz.2 _).setCell (p := ⟨g, 1, none⟩) hz.2 _).setCell (p := ⟨g, 2, none⟩) hz.2 _, blk_set3 hz.1⟩
theorem got_new {v q : World} {x y : ByteArray} {z : Bool} (hB : Below v.heap.size v q) : Got v (q.alloc (.cells #[.string x, .string y, .bool z] 31)) q.heap.size x y z :=
  ⟨hB.alloc hB.size _, Blk.new q _ _⟩
theorem blk_snd (w : World) (T U : TypeId) (a b : Array Value) : Blk ((w.alloc (.cells a T)).alloc (.cells b U)) (w.heap.size + 1) U b := by
  have h := Blk.new (w.alloc (.cells a T)) U b
  rwa [show (w.alloc (.cells a T)).heap.size = w.heap.size + 1 by simp] at h
theorem neq_self (x : ByteArray) : (x.toList == x.toList) = true := by simp
set_option maxHeartbeats 1000000 in
theorem toSwap_any (x y : ByteArray) (z : Bool) (w : World) : Calls Tryd.prog 21 #[.agg #[.string x, .string y, .bool z]] w fun e w' => e = .returned (.agg #[.string x, .string y, .bool z]) ∧ Below w.heap.size w w' := by
  go_enter Tryd.func21, Tryd.ntmps21
  go_wp2
  exact bodyPost_ret (v := .agg #[.string x, .string y, .bool z]) (by simp [results, Tryd.results21, go_sem]) rfl ⟨rfl, by
    have h1 : Below w.heap.size w (w.alloc (.cells #[.string x, .string y, .bool z] 28)) := (Below.refl _ _).alloc (Nat.le_refl _) _
    exact bel_al (bel_al h1 _) _⟩
set_option maxHeartbeats 1000000 in
theorem eqSwap_same (x y : ByteArray) (z : Bool) (w : World) : Calls Tryd.prog 25 #[.agg #[.string x, .string y, .bool z], .agg #[.string x, .string y, .bool z]] w fun e w' => e = .returned (.bool true) ∧ Below w.heap.size w w' := by
  have e1 : (x.toList != x.toList) = false := by simp
  have e2 : (y.toList != y.toList) = false := by simp
  have e3 : (z != z) = false := by simp
  go_enter Tryd.func25, Tryd.ntmps25
  go_wp2
  go_ret
  exact ⟨by try rfl, bel2 w _ _⟩
set_option maxHeartbeats 1000000 in
theorem szSwap_any (x y : ByteArray) (z : Bool) (r : Int) (h0 : 0 ≤ r) (h1 : r ≤ 1048576) (hx : x.size ≤ maxLen) (hy : y.size ≤ maxLen) (w : World) : Calls Tryd.prog 19 #[.agg #[.string x, .string y, .bool z], .int .i64 r] w fun e w' =>
    ∃ q : Int, e = .returned (.int .i64 q) ∧ -1 ≤ q ∧ q ≤ r ∧ (0 ≤ q → x.size ≤ 1048576 ∧ y.size ≤ 1048576) ∧ Below w.heap.size w w' := by
  have hm : maxLen = 9223372036854775807 := by decide
  rw [hm] at hx hy
  have hx' : (x.size : Int) ≤ 9223372036854775807 := by omega
  have hy' : (y.size : Int) ≤ 9223372036854775807 := by omega
  clear hm
  by_cases hc : r - (x.size : Int) < 0
  · go_enter Tryd.func19, Tryd.ntmps19
    go_wp2
    go_ret
    exact ⟨_, rfl, by omega, by omega, fun h => absurd h (by omega), (Below.refl _ _).alloc (Nat.le_refl _) _⟩
  · by_cases hd : r - (x.size : Int) - (y.size : Int) < 0
    · go_enter Tryd.func19, Tryd.ntmps19
      go_wp2
      go_ret
      exact ⟨_, rfl, by omega, by omega, fun h => absurd h (by omega), (Below.refl _ _).alloc (Nat.le_refl _) _⟩
    · go_enter Tryd.func19, Tryd.ntmps19
      go_wp2
      go_ret
      exact ⟨_, rfl, by omega, by omega, fun h => ⟨by omega, by omega⟩, (Below.refl _ _).alloc (Nat.le_refl _) _⟩
end Go.Proofs.YtdkhapfadcoclaaDoor
