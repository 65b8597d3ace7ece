/-
  LawD WSt.
-/
import Derived.Test.YtonoepggcgjfhaaMF
import Derived.Test.YtonoepggcgjfhaaMS
namespace Go.Proofs.Ytonoepggcgjfhaa
set_option maxRecDepth 100000
set_option linter.unusedVariables false
set_option linter.unusedSimpArgs false
set_option linter.unusedSectionVars false

/-! The ways of a chart, told apart by their last points: chains and cycles; no program. -/
section
theorem ways_split {f : List Int} (h : isC f = true) : (∀ L ∈ chainsL f, L ≠ [] ∧ 0 ≤ lastI L ∧ lastI L < f.length ∧ ofL f (lastI L).toNat ≠ headI L) ∧ (∀ L ∈ cyclesL f, L ≠ [] ∧ 0 ≤ lastI L ∧ lastI L < f.length ∧ ofL f (lastI L).toNat = headI L) := by
  have hF := isC_CH h
  have hm := raN_range h
  have hC := chL_end hF hm f.length (Nat.le_refl _)
  have hY := cyL_end hF (chL_mask hF hm) f.length (Nat.le_refl _)
  have eC : chainsL f = chL (ofL f) f.length (raN f) f.length := by unfold chainsL; rw [if_pos h]
  have eY : cyclesL f = cyL (ofL f) f.length (orSS 0 (chL (ofL f) f.length (raN f) f.length)) f.length := by unfold cyclesL; rw [if_pos h]
  rw [eC, eY]
  refine ⟨fun L hL => ?_, fun L hL => ?_⟩
  · have a := hC L hL
    have b := chL_ent hF f.length (Nat.le_refl _) L hL
    have hl := b _ (lastI_mem a.1)
    refine ⟨a.1, a.2.2.1, hl.2, ?_⟩
    rw [a.2.2.2]
    have hh : headI L ∈ L := by
      cases L with
      | nil => exact absurd rfl a.1
      | cons y L => exact List.mem_cons_self
    have := (b _ hh).1
    omega
  · have a := hY L hL
    have b := cyL_ent hF f.length (Nat.le_refl _) L hL
    have hl := b _ (lastI_mem a.1)
    exact ⟨a.1, a.2.2.1, hl.2, a.2.2.2⟩
theorem lastI_get {L : List Int} (h : L ≠ []) : L[L.length - 1]?.getD 0 = lastI L := by
  unfold lastI
  rw [List.getLast?_eq_getElem?]
theorem headI_get (L : List Int) : L[0]?.getD 0 = headI L := by cases L <;> rfl
end

/-! Two lists of lists that take the ways of a chart one after another: the first of them in one, the others in the other. -/
section
open Go.RowKit

/-- after t of the ways (their values: vs): the first c of them in v1, the others in v2; u: the world ahead -/
structure WS (u W : World) (vs : List Value) (c t : Nat) (v1 v2 : Value) : Prop where
  r1 : W.ownsRow u.heap.size 24 1 v1 (min t c) (vs.take (min t c))
  r2 : W.ownsRow u.heap.size 24 1 v2 (t - c) ((vs.drop c).take (t - c))
  ap : ∀ g, v1.ownBlock = some g → v2.ownBlock = some g → False
  bel : Below u.heap.size u W
  n1 : v1 ≠ .slice none 0 0
  n2 : v2 ≠ .slice none 0 0
section
variable {u W w1 : World} {vs : List Value} {c t : Nat} {v1 v2 v' x : Value}
theorem WS.start (u : World) (vs : List Value) (c : Nat) : WS u ((u.alloc (.cells #[] 24)).alloc (.cells #[] 24)) vs c 0 (.slice (some ⟨u.heap.size, 0, none⟩) 0 0) (.slice (some ⟨u.heap.size + 1, 0, none⟩) 0 0) := by
  obtain ⟨a, b, h1, h2, h3, h4, h5⟩ := Sep.start u u.heap.size
  obtain rfl : a = [] := List.eq_nil_of_length_eq_zero (by simpa using h4.len)
  obtain rfl : b = [] := List.eq_nil_of_length_eq_zero (by simpa using h5.len)
  exact ⟨by simpa using h1, by simpa using h2, h3, ((Below.refl _ u).alloc (Nat.le_refl _) _).alloc (by simp) _, by simp, by simp⟩
theorem WS.grow (h : WS u W vs c t v1 v2) {v : Value} {n : Nat} {xs : List Value} (hr : W.ownsRow u.heap.size 24 1 v n xs) (hgrow : (W.alloc (.cells #[x] 24)).grownBy w1 v.ownBlock) : Below u.heap.size u w1 :=
  (h.bel.alloc h.bel.size _).grown hgrow (by have := h.bel.size; simp; omega) (fun g e => (hr.lt g e).1)
theorem own_other_ {lo n : Nat} {v w : Value} {xs : List Value} {o : Obj} (hr : W.ownsRow lo 24 1 v n xs) (ha : ∀ g, w.ownBlock = some g → v.ownBlock = some g → False) (hgrow : (W.alloc o).grownBy w1 w.ownBlock) : w1.ownsRow lo 24 1 v n xs :=
  own_same hr fun g hg => (hgrow.block g (by have := (hr.lt g hg).2; simp; omega) (fun e => ha g e.symm hg)).trans (Below.heap_alloc W _ g (hr.lt g hg).2)
theorem ap_new {lo n : Nat} {v w : Value} {xs : List Value} {o : Obj} (hr : W.ownsRow lo 24 1 v n xs) (ha : ∀ g, w.ownBlock = some g → v.ownBlock = some g → False) (hat : v'.ownBlock = w.ownBlock ∨ v'.ownBlock = some (W.alloc o).heap.size) : ∀ g, v'.ownBlock = some g → v.ownBlock = some g → False := fun g e1 e2 => by
  rcases hat with e | e
  · exact ha g (by rw [← e]; exact e1) e2
  · rw [e] at e1; injection e1 with e1; have := (hr.lt g e2).2; simp at e1; omega
theorem WS.put1 (h : WS u W vs c t v1 v2) (ht : t < c) (hx : vs[t]? = some x) (hown' : w1.ownsRow u.heap.size 24 1 v' (min t c + 1) (vs.take (min t c) ++ [x])) (hgrow : (W.alloc (.cells #[x] 24)).grownBy w1 v1.ownBlock) (hat : v'.ownBlock = v1.ownBlock ∨ v'.ownBlock = some (W.alloc (.cells #[x] 24)).heap.size) : WS u w1 vs c (t + 1) v' v2 := by
  have e1 : min t c = t := by omega
  have e2 : min (t + 1) c = t + 1 := by omega
  have e3 : t + 1 - c = t - c := by omega
  rw [e1] at hown'
  refine ⟨by rw [e2, List.take_add_one, hx]; exact hown', by rw [e3]; exact own_other_ h.r2 h.ap hgrow, ap_new h.r2 h.ap hat, h.grow h.r1 hgrow, own_ne hown', h.n2⟩
theorem WS.put2 (h : WS u W vs c t v1 v2) (ht : c ≤ t) (hx : vs[t]? = some x) (hown' : w1.ownsRow u.heap.size 24 1 v' (t - c + 1) ((vs.drop c).take (t - c) ++ [x])) (hgrow : (W.alloc (.cells #[x] 24)).grownBy w1 v2.ownBlock) (hat : v'.ownBlock = v2.ownBlock ∨ v'.ownBlock = some (W.alloc (.cells #[x] 24)).heap.size) : WS u w1 vs c (t + 1) v1 v' := by
  have e1 : min (t + 1) c = min t c := by omega
  have e3 : t + 1 - c = t - c + 1 := by omega
  have hd : (vs.drop c)[t - c]? = some x := by rw [List.getElem?_drop, show c + (t - c) = t by omega]; exact hx
  have hap : ∀ g, v2.ownBlock = some g → v1.ownBlock = some g → False := fun g a b => h.ap g b a
  refine ⟨by rw [e1]; exact own_other_ h.r1 hap hgrow, by rw [e3, List.take_add_one, hd]; exact hown', fun g a b => ap_new h.r1 hap hat g b a, h.grow h.r2 hgrow, h.n1, own_ne hown'⟩
theorem WS.oss {B hi : Nat} {Cs Ys : List (List Int)} (h : WS u W vs Cs.length (Cs ++ Ys).length v1 v2) (hI : Inn u B hi vs (Cs ++ Ys)) (hB : B ≤ u.heap.size) (hh : hi ≤ u.heap.size) : OSS W B W.heap.size v1 Cs ∧ OSS W B W.heap.size v2 Ys := by
  have hl := hI.len
  rw [List.length_append] at hl
  have hs := h.bel.size
  have hI' : Inn W B W.heap.size (vs.take Cs.length ++ vs.drop Cs.length) (Cs ++ Ys) := by rw [List.take_append_drop]; exact (hI.below h.bel).more (Nat.le_refl _) (by omega)
  have hlt : (vs.take Cs.length).length = Cs.length := by simp; omega
  have r1 := h.r1
  have r2 := h.r2
  rw [List.length_append, show min (Cs.length + Ys.length) Cs.length = Cs.length by omega] at r1
  rw [List.length_append, show Cs.length + Ys.length - Cs.length = Ys.length by omega, List.take_of_length_le (by simp; omega)] at r2
  exact ⟨⟨_, own_base r1 hB, fun g e => (r1.lt g e).2, inn_left hlt hI'⟩, ⟨_, own_base r2 hB, fun g e => (r2.lt g e).2, inn_right hlt hI'⟩⟩
end
end

end Go.Proofs.Ytonoepggcgjfhaa
