/-
  Ar7.
-/
import Derived.Deep.RegionHeld3
import Derived.Test.YtkfiehndlgplgaaGreatDoorPI
namespace Go.Proofs.YtkfiehndlgplgaaGreatDoor
set_option maxRecDepth 100000
set_option linter.unusedVariables false
set_option linter.unusedSimpArgs false
set_option linter.unusedSectionVars false

/-! impl.arrowsAt, (impl.arrows).places, GermPlaces of the program. -/
section
open Go.RowKit Go.Maps

def atOK (zs : List (List Int)) (p : Int) : Bool := sgS zs && (decide (0 ≤ p) && decide (p < (m0 zs : Int)))
def mvB (p : Int) (L : List Int) : Bool := (doN L).testBit p.toNat
def atLs (zs : List (List Int)) (p : Int) : List (List Int) := if atOK zs p = true then zs.filter (mvB p) else []
def plcI (zs : List (List Int)) (p : Int) : List Int := nums ((atLs zs p).map (fun L => ofL L p.toNat))
theorem atOK_iff {zs : List (List Int)} {p : Int} : atOK zs p = true ↔ sgS zs = true ∧ 0 ≤ p ∧ p < (m0 zs : Int) := by unfold atOK; rw [Bool.and_eq_true, Bool.and_eq_true, decide_eq_true_eq, decide_eq_true_eq]
theorem atLs_mem {zs : List (List Int)} {p : Int} {L : List Int} (h : L ∈ atLs zs p) : sgS zs = true ∧ 0 ≤ p ∧ p < (m0 zs : Int) ∧ L ∈ zs ∧ mvB p L = true := by
  unfold atLs at h
  split at h
  · rename_i h1
    obtain ⟨a, b, c⟩ := atOK_iff.1 h1
    obtain ⟨d, e⟩ := List.mem_filter.1 h
    exact ⟨a, b, c, d, e⟩
  · cases h
theorem atLs_len (zs : List (List Int)) (p : Int) : (atLs zs p).length ≤ 400 := by
  unfold atLs
  split
  · rename_i h; exact Nat.le_trans (List.length_filter_le _ _) (sgS_iff.1 (atOK_iff.1 h).1).most
  · simp
theorem plcI_len (zs : List (List Int)) (p : Int) : (plcI zs p).length ≤ 400 := Nat.le_trans (nums_len _) (by rw [List.length_map]; exact atLs_len zs p)
theorem atOK_no1 {zs : List (List Int)} {p : Int} (h : sgS zs = false) : atOK zs p = false := by unfold atOK; rw [h]; rfl
theorem atLs_no {zs : List (List Int)} {p : Int} (h : atOK zs p = false) : atLs zs p = [] := by unfold atLs; rw [h]; rfl
end

end Go.Proofs.YtkfiehndlgplgaaGreatDoor
