/-
  spec's exported functions of one chart.
-/
import Derived.Test.YtoomeimloaloaaaExpA
namespace Go.Proofs.Ytoomeimloaloaaa
set_option maxRecDepth 100000
open Go.RowKit

theorem tuL_yes {zs : List Int} (h : isC zs = true) : LT zs.length (turnL zs.length (mv (ofL zs) zs.length)) = tuL zs := by
  unfold tuL; rw [fk_yes h]
  have := (isC_len h).2
  rw [turnL_congr this (fun j _ => fT_yes h j)]
theorem tuL_no {zs : List Int} (h : isC zs = false) : tuL zs = [] := by unfold tuL; rw [fk_no h]; rfl
theorem mvT_yes {zs : List Int} (h : isC zs = true) : mv (fT zs) (fk zs) = mv (ofL zs) zs.length := by rw [fk_yes h]; exact mv_congr (fun j _ => fT_yes h j)
theorem mvT_no {zs : List Int} (h : isC zs = false) : mv (fT zs) (fk zs) = [] := by rw [fk_no h]; rfl

theorem tuL_le (zs : List Int) : (tuL zs).length ≤ 6 := by unfold tuL; rw [LT_length]; exact fk_le zs




theorem turn_ent {n : Nat} (T : Nat → Int) : ∀ k, k ≤ n → ∀ j, turnL n (mv T k) j = -1 ∨ (0 ≤ turnL n (mv T k) j ∧ turnL n (mv T k) j < n) ∨ (turnL n (mv T k) j = 0 ∧ n ≤ j)
  | 0, _, j => by
    by_cases hj : j < n
    · left; simp [mv, turnL, stillF, hj]
    · right; right; exact ⟨by simp [mv, turnL, stillF, hj], by omega⟩
  | k + 1, hk, j => by
    have ih := turn_ent (n := n) T k (by omega) j
    by_cases hc : k < 6 ∧ 0 ≤ T k ∧ T k < 6
    · rw [mv_step hc, turnL_snoc]
      unfold turnS
      by_cases e : j = (T k).toNat
      · rw [if_pos e]; right; left; simp; omega
      · rw [if_neg e]; exact ih
    · have e0 : mv T (k + 1) = mv T k := by simp [mv, hc]
      rw [e0]; exact ih
theorem tu_ent {n : Nat} (T : Nat → Int) : Ent n (LT n (turnL n (mv T n))) := fun j hj => by
  rw [LT_get _ _ _ hj]
  rcases turn_ent (n := n) T n (Nat.le_refl _) j with h | h | h
  · exact .inl h
  · exact .inr h
  · omega
theorem ofL_LT {n : Nat} (F : Nat → Int) (j : Nat) (hj : j < n) : ofL (LT n F) j = F j := LT_get _ _ _ hj


end Go.Proofs.Ytoomeimloaloaaa
