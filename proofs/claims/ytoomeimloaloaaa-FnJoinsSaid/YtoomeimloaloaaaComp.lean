/-
  Being below, being compatible, joins: spec's.
-/
import Derived.Test.YtoomeimloaloaaaExpB
namespace Go.Proofs.Ytoomeimloaloaaa
set_option maxRecDepth 100000
open Go.RowKit

/-- the first n places are moved nowhere, or to one of n points -/
def En (n : Nat) (F : Nat → Int) : Prop := ∀ j, j < n → F j = -1 ∨ (0 ≤ F j ∧ F j < n)
theorem en_ok {n : Nat} {F : Nat → Int} (hn : n ≤ 6) (h : En n F) : Ok n F := fun j hj => (h j hj).imp id fun x => ⟨x.1, by have := x.2; omega⟩
theorem en_LT {n : Nat} {F : Nat → Int} (h : En n F) : Ent n (LT n F) := fun j hj => by rw [LT_get _ _ _ hj]; exact h j hj
theorem en_of {n : Nat} {zs : List Int} (h : Ent n zs) : En n (ofL zs) := h
theorem en_congr {n : Nat} {F G : Nat → Int} (h : En n G) (e : ∀ j, j < n → F j = G j) : En n F := fun j hj => by rw [e j hj]; exact h j hj
theorem en_turn {n : Nat} (T : Nat → Int) : ∀ k, k ≤ n → En n (turnL n (mv T k))
  | 0, _ => fun j hj => by left; simp [mv, turnL, stillF, hj]
  | k + 1, hk => fun j hj => by
    have ih := en_turn (n := n) T k (by omega) j hj
    by_cases hc : k < 6 ∧ 0 ≤ T k ∧ T k < 6
    · rw [mv_step hc, turnL_snoc]
      unfold turnS
      by_cases e : j = (T k).toNat
      · rw [if_pos e]; right; simp; omega
      · rw [if_neg e]; exact ih
    · have e0 : mv T (k + 1) = mv T k := by simp [mv, hc]
      rw [e0]; exact ih
theorem en_times {n : Nat} {T G : Nat → Int} (hn : n ≤ 6) (h : En n T) (hG : En n G) : En n (timesL n G (mv T n)) := fun j hj => by
  rw [times_closed n _ _ j n hn]
  split
  · rename_i hc
    rcases h j hj with h1 | h1
    · omega
    · exact hG _ (by omega)
  · left; simp [stillF, hj]
theorem times_congr' {n : Nat} {T T' G G' : Nat → Int} (hn : n ≤ 6) (hE : En n T) (h : ∀ j, j < n → T j = T' j) (h' : ∀ j, j < n → G j = G' j) : ∀ j, j < n → timesL n G (mv T n) j = timesL n G' (mv T' n) j := fun j hj => by
  rw [times_closed n _ _ j n hn, times_closed n _ _ j n hn, ← h j hj]
  split
  · rename_i hc
    rcases hE j hj with h1 | h1
    · omega
    · exact h' _ (by omega)
  · rfl

/-- two charts of n points are compatible -/
def coF (n : Nat) (T G : Nat → Int) : Bool := idemL (mv (timesL n G (mv (turnL n (mv T n)) n)) n) && idemL (mv (timesL n (turnL n (mv G n)) (mv T n)) n)
def coB (f g : List Int) : Bool := isP f g && coF (pk f g) (pF f g) (pG f g)
/-- .. as spec reckons it -/
def coZ (n : Nat) (zs ys : List Int) : Bool :=
  idemL (mv (ofL (LT n (timesL n (ofL ys) (mv (ofL (LT n (turnL n (mv (ofL zs) n)))) n)))) n) && idemL (mv (ofL (LT n (timesL n (ofL (LT n (turnL n (mv (ofL ys) n)))) (mv (ofL zs) n)))) n)
theorem coZ_is {n : Nat} {zs ys : List Int} (hn : n ≤ 6) (h : Ent n zs) : coZ n zs ys = coF n (ofL zs) (ofL ys) := by
  unfold coZ coF
  have e1 : mv (ofL (LT n (timesL n (ofL ys) (mv (ofL (LT n (turnL n (mv (ofL zs) n)))) n)))) n = mv (timesL n (ofL ys) (mv (turnL n (mv (ofL zs) n)) n)) n := mv_congr (fun j hj => by
    show ofL (LT n _) j = _
    rw [show ofL (LT n (timesL n (ofL ys) (mv (ofL (LT n (turnL n (mv (ofL zs) n)))) n))) j = _ from LT_get _ _ _ hj]
    exact times_congr' hn (en_congr (en_turn _ n (Nat.le_refl _)) (fun j hj => LT_get _ _ _ hj)) (fun j hj => LT_get _ _ _ hj) (fun j hj => rfl) j hj)
  have e2 : mv (ofL (LT n (timesL n (ofL (LT n (turnL n (mv (ofL ys) n)))) (mv (ofL zs) n)))) n = mv (timesL n (turnL n (mv (ofL ys) n)) (mv (ofL zs) n)) n := mv_congr (fun j hj => by
    rw [show ofL (LT n (timesL n (ofL (LT n (turnL n (mv (ofL ys) n)))) (mv (ofL zs) n))) j = _ from LT_get _ _ _ hj]
    exact times_congr' hn h (fun j hj => rfl) (fun j hj => LT_get _ _ _ hj) j hj)
  rw [e1, e2]


theorem coB_no {f g : List Int} (h : isP f g = false) : coB f g = false := by simp [coB, h]
theorem coB_yes {f g : List Int} (h : isP f g = true) : coB f g = coF f.length (ofL f) (ofL g) := by simp [coB, h, pk_yes h, pF_yes h, pG_yes h]

end Go.Proofs.Ytoomeimloaloaaa
