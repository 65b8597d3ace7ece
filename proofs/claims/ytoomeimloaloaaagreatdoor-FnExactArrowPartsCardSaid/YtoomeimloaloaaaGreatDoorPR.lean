/-
  Ap7.
-/
import Derived.Test.YtoomeimloaloaaaGreatDoorPL
import Derived.Test.YtoomeimloaloaaaGreatDoorPQ
namespace Go.Proofs.YtoomeimloaloaaaGreatDoor
set_option maxRecDepth 100000
set_option linter.unusedVariables false
set_option linter.unusedSimpArgs false
set_option linter.unusedSectionVars false

/-! the parts of a semigroup's objects: mathematics. -/
section
open Go.RowKit Go.Maps

def rlB (zs : List (List Int)) (a b : Int) : Bool := zs.any (btB a b)
/-- the objects that are linked with an object: the ends of the arrows from it -/
def lkd (zs : List (List Int)) (a : Int) : List Int := nums ((zs.filter (isO a)).map raI)
def hdB (zs : List (List Int)) (a : Int) : Bool := decide ((lkd zs a)[0]?.getD 0 = a)
def parI (zs : List (List Int)) : List (List Int) := ((objI zs).filter (hdB (sgl zs))).map (lkd (sgl zs))
theorem btB_iff {a b : Int} {L : List Int} : btB a b L = true ↔ doI L = a ∧ raI L = b := by unfold btB; rw [Bool.and_eq_true, decide_eq_true_eq, decide_eq_true_eq]
theorem isO_iff {a : Int} {L : List Int} : isO a L = true ↔ doI L = a := by unfold isO; rw [decide_eq_true_eq]
theorem rlB_iff {zs : List (List Int)} {a b : Int} : rlB zs a b = true ↔ ∃ L ∈ zs, doI L = a ∧ raI L = b := by
  unfold rlB; rw [List.any_eq_true]
  constructor
  · rintro ⟨L, h, e⟩; exact ⟨L, h, btB_iff.1 e⟩
  · rintro ⟨L, h, e⟩; exact ⟨L, h, btB_iff.2 e⟩
theorem rlB_symm {zs : List (List Int)} (S : Sg zs) {a b : Int} (h : rlB zs a b = true) : rlB zs b a = true := by
  obtain ⟨L, hL, rfl, rfl⟩ := rlB_iff.1 h
  have c := (S.ch L hL).1
  refine rlB_iff.2 ⟨tuL L, S.tu L hL, ?_, ?_⟩
  · unfold doI raI; rw [← raN_tu c]
  · unfold doI raI; rw [raN_tu (tuL_isC c), tuL_tuL c]
theorem rlB_trans {zs : List (List Int)} (S : Sg zs) {a b c : Int} (h : rlB zs a b = true) (h2 : rlB zs b c = true) : rlB zs a c = true := by
  obtain ⟨L, hL, rfl, rfl⟩ := rlB_iff.1 h
  obtain ⟨M, hM, e, rfl⟩ := rlB_iff.1 h2
  have cL := S.ch L hL
  have cM := S.ch M hM
  have hj : joB L M = true := joB_iff.2 ⟨isP_of cL.1 cM.1 (cL.2.trans cM.2.symm), by unfold doI raI at e; omega⟩
  obtain ⟨_, _, _, _, h5, h6, h7⟩ := arrow_law hj
  refine rlB_iff.2 ⟨tiL L M, S.ti L hL M hM, ?_, ?_⟩
  · unfold doI; rw [h7, h5]
  · unfold raI; rw [h7, h6]
theorem rlB_refl {zs : List (List Int)} (S : Sg zs) {a : Int} (h : a ∈ nums (zs.map doI)) : rlB zs a a = true := by
  rw [nums_mem, List.mem_map] at h
  obtain ⟨L, hL, rfl⟩ := h
  have h1 : rlB zs (doI L) (raI L) = true := rlB_iff.2 ⟨L, hL, rfl, rfl⟩
  exact rlB_trans S h1 (rlB_symm S h1)
theorem lkd_is {zs : List (List Int)} (S : Sg zs) (a : Int) : lkd zs a = (nums (zs.map doI)).filter (rlB zs a) := by
  unfold lkd
  refine nums_is ((nums_asc _).filter _) (fun x => ?_)
  rw [List.mem_filter, nums_mem, List.mem_map, List.mem_map, rlB_iff]
  constructor
  · rintro ⟨_, L, hL, e1, e2⟩
    exact ⟨L, List.mem_filter.2 ⟨hL, isO_iff.2 e1⟩, e2⟩
  · rintro ⟨L, hL, rfl⟩
    obtain ⟨h1, h2⟩ := List.mem_filter.1 hL
    have c := (S.ch L h1).1
    exact ⟨⟨tuL L, S.tu L h1, by unfold doI raI; rw [← raN_tu c]⟩, L, h1, isO_iff.1 h2, rfl⟩
theorem lkd_len {zs : List (List Int)} (h : zs.length ≤ 400) (a : Int) : (lkd zs a).length ≤ 400 := Nat.le_trans (nums_len _) (by rw [List.length_map]; exact Nat.le_trans (List.length_filter_le _ _) h)
/-- ahead of the i-th object none is linked with it: it is the first of its part -/
theorem hdB_iff {zs : List (List Int)} (S : Sg zs) {os : List Int} (ho : os = nums (zs.map doI)) {i : Nat} (hi : i < os.length) :
    hdB zs (os[i]?.getD 0) = true ↔ ∀ j, j < i → rlB zs (os[j]?.getD 0) (os[i]?.getD 0) = false := by
  have ha : Asc os := by rw [ho]; exact nums_asc _
  have hgi : os[i]?.getD 0 = os[i] := by rw [List.getElem?_eq_getElem hi]; rfl
  have hm : os[i] ∈ nums (zs.map doI) := by rw [← ho]; exact List.getElem_mem hi
  have hr := rlB_refl S hm
  unfold hdB
  rw [hgi, decide_eq_true_eq, lkd_is S, ← ho]
  have hsplit : os = os.take i ++ os[i] :: os.drop (i + 1) := by rw [← List.drop_eq_getElem_cons hi, List.take_append_drop]
  have hf : os.filter (rlB zs os[i]) = (os.take i).filter (rlB zs os[i]) ++ os[i] :: (os.drop (i + 1)).filter (rlB zs os[i]) := by
    have h1 := congrArg (List.filter (rlB zs os[i])) hsplit
    rw [List.filter_append, List.filter_cons, if_pos hr] at h1
    exact h1
  rw [hf]
  constructor
  · intro h j hj
    cases hc : rlB zs (os[j]?.getD 0) os[i]
    · rfl
    · exfalso
      have hjl : j < os.length := by omega
      have hgj : os[j]?.getD 0 = os[j] := by rw [List.getElem?_eq_getElem hjl]; rfl
      rw [hgj] at hc
      have hmj : os[j] ∈ (os.take i).filter (rlB zs os[i]) := List.mem_filter.2 ⟨List.mem_take_iff_getElem.2 ⟨j, by omega, rfl⟩, rlB_symm S hc⟩
      cases hT : (os.take i).filter (rlB zs os[i]) with
      | nil => rw [hT] at hmj; cases hmj
      | cons t ts =>
        rw [hT] at h
        have h : t = os[i] := h
        have htm : t ∈ (os.take i).filter (rlB zs os[i]) := by rw [hT]; exact List.mem_cons_self ..
        obtain ⟨q, hq, e⟩ := List.mem_take_iff_getElem.1 (List.mem_filter.1 htm).1
        have hlt := List.pairwise_iff_getElem.1 ha q i (by omega) hi (by omega)
        rw [e, h] at hlt
        omega
  · intro h
    have hT : (os.take i).filter (rlB zs os[i]) = [] := by
      rw [List.filter_eq_nil_iff]
      intro b hb hc
      obtain ⟨q, hq, rfl⟩ := List.mem_take_iff_getElem.1 hb
      have := h q (by omega)
      rw [show os[q]?.getD 0 = os[q] by rw [List.getElem?_eq_getElem (by omega)]; rfl, rlB_symm S hc] at this
      cases this
    rw [hT]; rfl
end

end Go.Proofs.YtoomeimloaloaaaGreatDoor
