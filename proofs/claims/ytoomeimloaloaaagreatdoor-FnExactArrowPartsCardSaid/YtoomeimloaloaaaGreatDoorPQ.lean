/-
  Am.
-/
import Derived.Test.YtoomeimloaloaaaGreatDoorMC
import Derived.Test.YtoomeimloaloaaaGreatDoorPB
namespace Go.Proofs.YtoomeimloaloaaaGreatDoor
set_option maxRecDepth 100000
set_option linter.unusedVariables false
set_option linter.unusedSimpArgs false
set_option linter.unusedSectionVars false

/-! Charts that join: what their product has; no program. -/
section
theorem joB_iff {f g : List Int} : joB f g = true ↔ isP f g = true ∧ raN f = doN g := by unfold joB; rw [Bool.and_eq_true, decide_eq_true_eq]
theorem atL_yes {f g : List Int} (h : joB f g = true) : atL f g = tiL f g := if_pos h
theorem joB_dom {f g : List Int} (h : joB f g = true) : doN (tiL f g) = doN f := by
  obtain ⟨hP, hr⟩ := joB_iff.1 h
  obtain ⟨hf, hg, hl⟩ := isP_yes hP
  refine Nat.eq_of_testBit_eq (fun j => ?_)
  rw [doN_bit (tiL_isC hP), doN_bit hf, tiL_len hP]
  by_cases hj : j < f.length
  · rw [tiL_get hP hj]
    congr 1
    apply decide_eq_decide.2
    unfold cmp
    rcases en_ofL hf j hj with hn | ⟨h0, h1⟩
    · rw [hn]; simp
    · rw [if_pos ⟨h0, h1⟩]
      constructor
      · intro _ e; omega
      · intro _ e
        have hm : (ofL f j).toNat < f.length := by omega
        have hb : (doN g).testBit (ofL f j).toNat = true := by
          rw [← hr, raN_tu hf, doN_bit (tuL_isC hf), tuL_len hf, tuL_get hf hm, decide_eq_true hm, Bool.true_and, decide_eq_true_eq]
          intro e2
          have := (trn_none (isC_CH hf) hm).1 e2 j hj
          omega
        rw [doN_bit hg, Bool.and_eq_true, decide_eq_true_eq, decide_eq_true_eq] at hb
        exact hb.2 e
  · rw [decide_eq_false hj]; rfl
theorem joB_turn {f g : List Int} (h : joB f g = true) : joB (tuL g) (tuL f) = true := by
  obtain ⟨hP, hr⟩ := joB_iff.1 h
  obtain ⟨hf, hg, hl⟩ := isP_yes hP
  refine joB_iff.2 ⟨(tuL_tiL hP).1, ?_⟩
  rw [raN_tu (tuL_isC hg), tuL_tuL hg, ← hr, raN_tu hf]
theorem joB_ran {f g : List Int} (h : joB f g = true) : raN (tiL f g) = raN g := by
  obtain ⟨hP, hr⟩ := joB_iff.1 h
  obtain ⟨hf, hg, hl⟩ := isP_yes hP
  rw [raN_tu (tiL_isC hP), (tuL_tiL hP).2, joB_dom (joB_turn h), raN_tu hg]
theorem joins_law {f g : List Int} (h : joB f g = true) : isC g = true ∧ isC f = true ∧ isP f g = true ∧ isC (tiL f g) = true ∧ popK (doN g) 6 = popK (doN f) 6 ∧ popK (doN (tiL f g)) 6 = popK (doN f) 6 ∧ joB (tuL g) (tuL f) = true := by
  obtain ⟨hP, hr⟩ := joB_iff.1 h
  obtain ⟨hf, hg, hl⟩ := isP_yes hP
  exact ⟨hg, hf, hP, tiL_isC hP, by rw [← hr, range_law hf], by rw [joB_dom h], joB_turn h⟩
theorem arrow_law {f g : List Int} (h : joB f g = true) : isC (atL f g) = true ∧ isC f = true ∧ isC g = true ∧ isP f g = true ∧ doN (atL f g) = doN f ∧ raN (atL f g) = raN g ∧ tiL f g = atL f g := by
  obtain ⟨hP, hr⟩ := joB_iff.1 h
  obtain ⟨hf, hg, hl⟩ := isP_yes hP
  rw [atL_yes h]
  exact ⟨tiL_isC hP, hf, hg, hP, joB_dom h, joB_ran h, rfl⟩
end

end Go.Proofs.YtoomeimloaloaaaGreatDoor
