/-
  SumL.
-/
import Derived.Test.YtckppfgooflooabMF
import Derived.Test.YtckppfgooflooabMK
namespace Go.Proofs.Ytckppfgooflooab
set_option maxRecDepth 100000
set_option linter.unusedVariables false
set_option linter.unusedSimpArgs false
set_option linter.unusedSectionVars false

/-! SumL -/
section
open Go.RowKit
def smI : List Int → Int
  | [] => 0
  | x :: L => x + smI L
theorem smI_append (L M : List Int) : smI (L ++ M) = smI L + smI M := by
  induction L with
  | nil => simp [smI]
  | cons x L ih => simp only [List.cons_append, smI, ih]; omega
theorem smI_sub : ∀ {L : List Int}, (∀ x ∈ L, 1 ≤ x ∧ x ≤ 6) → smI L = (sumI (sub_ 0) L : Nat)
  | [], _ => rfl
  | x :: L, h => by
    have hx := h x List.mem_cons_self
    have ih := smI_sub (fun y hy => h y (List.mem_cons_of_mem _ hy))
    have e : ((sub_ 0 x : Nat) : Int) = x := by unfold sub_; omega
    simp only [smI, sumI, ih]
    omega
/-- a sorted list of lengths -/
structure Lsh (L : List Int) : Prop where
  six : ∀ x ∈ L, 1 ≤ x ∧ x ≤ 6
  up : L.Pairwise (· ≤ ·)
  le : L.length ≤ 12
theorem smI_take {L : List Int} (h : Lsh L) : ∀ k, k ≤ L.length → 0 ≤ smI (L.take k) ∧ smI (L.take k) ≤ 6 * k
  | 0, _ => by simp [smI]
  | k + 1, hk => by
    have ih := smI_take h k (by omega)
    have hx := h.six L[k] (List.getElem_mem _)
    rw [List.take_add_one, smI_append, List.getElem?_eq_getElem (by omega)]
    simp only [Option.toList, smI]
    omega
theorem Lsh.step {L : List Int} (h : Lsh L) {k : Nat} (hk : k < L.length) : 1 ≤ L[k]?.getD 0 ∧ L[k]?.getD 0 ≤ 6 ∧ 0 ≤ smI (L.take k) ∧ smI (L.take k) ≤ 72 ∧ smI (L.take (k + 1)) = smI (L.take k) + L[k]?.getD 0 := by
  have ih := smI_take h k (by omega)
  have hx := h.six L[k] (List.getElem_mem _)
  have hl := h.le
  rw [List.take_add_one, smI_append, List.getElem?_eq_getElem (by omega)]
  simp only [Option.toList, smI, Option.getD_some]
  omega
theorem Lsh.order {L : List Int} (h : Lsh L) {k : Nat} (hk : k + 1 < L.length) : L[k]?.getD 0 ≤ L[k + 1]?.getD 0 := by
  rw [List.getElem?_eq_getElem (by omega), List.getElem?_eq_getElem hk]
  exact List.pairwise_iff_getElem.1 h.up k (k + 1) (by omega) hk (by omega)
theorem Lsh.all {L : List Int} (h : Lsh L) : 0 ≤ smI L ∧ smI L ≤ 72 := by
  have := smI_take h L.length (Nat.le_refl _)
  have hl := h.le
  rw [List.take_length] at this
  omega
theorem shape_lsh {f : List Int} (h : isC f = true) : Lsh (shCL f) ∧ Lsh (shYL f) ∧ smI (shCL f) + smI (shYL f) = f.length := by
  have hF := isC_CH h
  have a : Lsh (shCL f) := ⟨fun x hx => by
    have h1 : x ∈ lens (chL (ofL f) f.length (raN f) f.length) := by
      rw [(shL h).1] at hx
      exact List.count_pos_iff.1 (by have := List.count_pos_iff.2 hx; unfold shC at this; rwa [srt_count] at this)
    exact chL_lens hF f.length (Nat.le_refl _) x h1, srt_sorted _, shCL_le f⟩
  have b : Lsh (shYL f) := ⟨fun x hx => by
    have h1 : x ∈ lens (cyL (ofL f) f.length (orSS 0 (chL (ofL f) f.length (raN f) f.length)) f.length) := by
      rw [(shL h).2] at hx
      exact List.count_pos_iff.1 (by have := List.count_pos_iff.2 hx; unfold shY at this; rwa [srt_count] at this)
    exact cyL_lens hF f.length (Nat.le_refl _) x h1, srt_sorted _, shYL_le f⟩
  refine ⟨a, b, ?_⟩
  rw [smI_sub a.six, smI_sub b.six]
  have := sum_shape h
  omega
end

end Go.Proofs.Ytckppfgooflooab
