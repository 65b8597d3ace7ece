/-
  Ai.
-/
import Derived.Deep.AppendLies
import Derived.Test.YtkfiehndlgplgaaGreatDoorPH
namespace Go.Proofs.YtkfiehndlgplgaaGreatDoor
set_option maxRecDepth 100000
set_option linter.unusedVariables false
set_option linter.unusedSimpArgs false
set_option linter.unusedSectionVars false

/-! spec.l7Objects, ArrowObjects, l7Object. -/
section
open Go.RowKit Go.Maps

/-- which sets are domains of the first k charts -/
def hasB (zs : List (List Int)) (k v : Nat) : Bool := (zs.take k).any (fun L => decide (doN L = v))
def hasT (zs : List (List Int)) (k N : Nat) : List Bool := (List.range N).map (hasB zs k)
theorem hasT_len (zs : List (List Int)) (k N : Nat) : (hasT zs k N).length = N := by simp [hasT]
theorem hasT_get {zs : List (List Int)} {k N v : Nat} (hv : v < N) : (hasT zs k N)[v]? = some (hasB zs k v) := by
  unfold hasT; rw [List.getElem?_map, List.getElem?_eq_getElem (by simpa using hv), Option.map_some, List.getElem_range]
theorem hasT_zero (zs : List (List Int)) (N : Nat) : hasT zs 0 N = List.replicate N false := by
  apply List.ext_getElem?
  intro v
  rcases Nat.lt_or_ge v N with h | h
  · rw [hasT_get h, List.getElem?_replicate, if_pos h]; rfl
  · rw [List.getElem?_eq_none (by rw [hasT_len]; exact h), List.getElem?_eq_none (by simpa using h)]
theorem hasB_succ {zs : List (List Int)} {k v : Nat} {L : List Int} (hL : zs[k]? = some L) : hasB zs (k + 1) v = (hasB zs k v || decide (doN L = v)) := by
  unfold hasB; rw [List.take_add_one, hL, List.any_append]; simp
theorem hasT_set {zs : List (List Int)} {k N : Nat} {L : List Int} (hL : zs[k]? = some L) (hN : doN L < N) : (hasT zs k N).set (doN L) true = hasT zs (k + 1) N := by
  apply List.ext_getElem?
  intro v
  rcases Nat.lt_or_ge v N with h | h
  · rw [hasT_get h, hasB_succ hL]
    by_cases e : doN L = v
    · subst e; rw [List.getElem?_set_self (by rw [hasT_len]; exact h), decide_eq_true rfl, Bool.or_true]
    · rw [List.getElem?_set_ne e, hasT_get h, decide_eq_false e, Bool.or_false]
  · rw [List.getElem?_eq_none (by rw [List.length_set, hasT_len]; exact h), List.getElem?_eq_none (by rw [hasT_len]; exact h)]
def upB (p : Nat → Bool) (s : Nat) : List Int := ((List.range s).filter p).map (fun (v : Nat) => (v : Int))
theorem upB_no {p : Nat → Bool} {s : Nat} (h : p s = false) : upB p (s + 1) = upB p s := by unfold upB; rw [List.range_succ, List.filter_append]; simp [h]
theorem upB_yes {p : Nat → Bool} {s : Nat} (h : p s = true) : upB p s ++ [(s : Int)] = upB p (s + 1) := by unfold upB; rw [List.range_succ, List.filter_append]; simp [h]
theorem upB_len (p : Nat → Bool) (s : Nat) : (upB p s).length ≤ s := by unfold upB; rw [List.length_map]; exact Nat.le_trans (List.length_filter_le _ _) (by simp)
theorem upB_asc (p : Nat → Bool) (s : Nat) : Asc (upB p s) := by
  unfold upB Asc
  rw [List.pairwise_map]
  exact (List.Pairwise.filter p List.pairwise_lt_range).imp (fun h => by omega)
theorem upB_mem {p : Nat → Bool} {s : Nat} {x : Int} : x ∈ upB p s ↔ ∃ v : Nat, v < s ∧ p v = true ∧ x = (v : Int) := by
  unfold upB
  rw [List.mem_map]
  constructor
  · rintro ⟨v, hv, rfl⟩; rw [List.mem_filter, List.mem_range] at hv; exact ⟨v, hv.1, hv.2, rfl⟩
  · rintro ⟨v, h1, h2, rfl⟩; exact ⟨v, by rw [List.mem_filter, List.mem_range]; exact ⟨h1, h2⟩, rfl⟩
theorem upB_obj {zs : List (List Int)} {N : Nat} (hN : ∀ L ∈ zs, doN L < N) : upB (hasB zs zs.length) N = nums (zs.map doI) := by
  refine (nums_is (upB_asc _ _) (fun x => ?_)).symm
  rw [upB_mem, List.mem_map]
  constructor
  · rintro ⟨v, _, h, rfl⟩
    unfold hasB at h
    rw [List.take_length, List.any_eq_true] at h
    obtain ⟨L, hL, e⟩ := h
    exact ⟨L, hL, by rw [← of_decide_eq_true e]; rfl⟩
  · rintro ⟨L, hL, rfl⟩
    exact ⟨doN L, hN L hL, by unfold hasB; rw [List.take_length, List.any_eq_true]; exact ⟨L, hL, decide_eq_true rfl⟩, rfl⟩
theorem sgl_yes {zs : List (List Int)} (h : sgS zs = true) : sgl zs = zs := if_pos h
theorem sgl_no {zs : List (List Int)} (h : sgS zs = false) : sgl zs = [] := by unfold sgl; rw [h]; rfl
theorem objI_yes {zs : List (List Int)} (h : sgS zs = true) : objI zs = nums (zs.map doI) := by unfold objI; rw [sgl_yes h]
theorem objI_no {zs : List (List Int)} (h : sgS zs = false) : objI zs = [] := by unfold objI; rw [sgl_no h]; exact nums_nil
theorem objI_len (zs : List (List Int)) : (objI zs).length ≤ 400 := Nat.le_trans (nums_len _) (by rw [List.length_map]; exact sgl_len zs)
theorem obB_mem {zs : List (List Int)} {a : Int} : obB zs a = true ↔ a ∈ objI zs := by
  unfold obB objI
  rw [nums_mem, List.any_eq_true, List.mem_map]
  constructor
  · rintro ⟨L, hL, h⟩; exact ⟨L, hL, of_decide_eq_true h⟩
  · rintro ⟨L, hL, h⟩; exact ⟨L, hL, decide_eq_true h⟩
end

end Go.Proofs.YtkfiehndlgplgaaGreatDoor
