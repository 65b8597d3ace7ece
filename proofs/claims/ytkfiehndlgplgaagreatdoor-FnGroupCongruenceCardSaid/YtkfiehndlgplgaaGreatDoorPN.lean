/-
  As7.
-/
import Derived.Test.YtkfiehndlgplgaaGreatDoorPM
namespace Go.Proofs.YtkfiehndlgplgaaGreatDoor
set_option maxRecDepth 100000
set_option linter.unusedVariables false
set_option linter.unusedSimpArgs false
set_option linter.unusedSectionVars false

/-! (impl.arrows).places, GermPlaces of the program and of the spec. -/
section
open Go.RowKit Go.Maps

def plB (zs : List (List Int)) (p q : Nat) : Bool := zs.any (fun L => decide (ofL L p = (q : Int)))
theorem plc_ent {L : List Int} (h : isC L = true) {p : Nat} (hp : p < L.length) : ofL L p = -1 ∨ ∃ q : Nat, q < L.length ∧ ofL L p = (q : Int) := by
  have := isC_ent h p hp
  unfold ofL
  rcases Decidable.em (L[p]?.getD 0 = -1) with e | e
  · exact Or.inl e
  · exact Or.inr ⟨(L[p]?.getD 0).toNat, by omega, by omega⟩
theorem plcI_is {zs : List (List Int)} {p : Nat} (h : atOK zs (p : Int) = true) : upB (plB zs p) (m0 zs) = plcI zs (p : Int) := by
  obtain ⟨hS, _, hp⟩ := atOK_iff.1 h
  have S := sgS_iff.1 hS
  have hp' : p < m0 zs := by omega
  have hL0 : ∀ L ∈ zs, isC L = true ∧ L.length = m0 zs := S.ch
  unfold plcI
  refine (nums_is (upB_asc _ _) (fun x => ?_)).symm
  rw [upB_mem, List.mem_map]
  constructor
  · rintro ⟨v, _, hv, rfl⟩
    obtain ⟨L, hL, e⟩ := List.any_eq_true.1 hv
    have e := of_decide_eq_true e
    have hl := hL0 L hL
    refine ⟨L, ?_, e⟩
    unfold atLs
    rw [h, if_pos rfl]
    refine List.mem_filter.2 ⟨hL, ?_⟩
    unfold mvB
    rw [doN_bit hl.1, Bool.and_eq_true, decide_eq_true_eq, decide_eq_true_eq]
    refine ⟨by rw [hl.2]; exact hp', ?_⟩
    show ofL L p ≠ -1
    rw [e]; omega
  · rintro ⟨L, hL, rfl⟩
    obtain ⟨_, _, _, hLz, hm⟩ := atLs_mem hL
    have hl := hL0 L hLz
    unfold mvB at hm
    rw [doN_bit hl.1, Bool.and_eq_true, decide_eq_true_eq, decide_eq_true_eq] at hm
    rcases plc_ent hl.1 (show p < L.length by rw [hl.2]; exact hp') with e | ⟨q, hq, e⟩
    · exact absurd e hm.2
    · exact ⟨q, by rw [← hl.2]; exact hq, List.any_eq_true.2 ⟨L, hLz, decide_eq_true e⟩, e⟩
theorem plcI_none {zs : List (List Int)} {p : Int} (h : atOK zs p = false) : plcI zs p = [] := by unfold plcI; rw [atLs_no h]; exact nums_nil
theorem any_step {zs : List (List Int)} {p : List Int → Bool} {k : Nat} (hk : k < zs.length) : (zs.take (k + 1)).any p = ((zs.take k).any p || p (ent zs k)) := by
  have e : ent zs k = zs[k] := by unfold ent; rw [List.getElem?_eq_getElem hk]; rfl
  rw [List.take_succ_eq_append_getElem hk, List.any_append, e]; simp
end

end Go.Proofs.YtkfiehndlgplgaaGreatDoor
