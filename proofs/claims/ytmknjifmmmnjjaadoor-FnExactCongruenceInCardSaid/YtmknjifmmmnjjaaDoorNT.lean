/-
  Uni.
-/
import Derived.Test.YtmknjifmmmnjjaaDoorMC
import Derived.Test.YtmknjifmmmnjjaaDoorNS
namespace Go.Proofs.YtmknjifmmmnjjaaDoor
set_option maxRecDepth 100000
set_option linter.unusedVariables false
set_option linter.unusedSimpArgs false
set_option linter.unusedSectionVars false

/-! SemigroupUnitary, both sides. -/
section
open Go.RowKit Go.Maps

/-- what is above e is such, too -/
def unE (zs : List (List Int)) (e : List Int) : Bool := (zs.filter (beB e)).all idB
def unB (zs : List (List Int)) : Bool := (zs.filter idB).all (unE zs)
theorem unB_no {zs : List (List Int)} {i k : Nat} (hi : i < zs.length) (hk : k < zs.length) (h1 : idB (ent zs i) = true) (h2 : beB (ent zs i) (ent zs k) = true) (h3 : idB (ent zs k) = false) : unB zs = false := by
  cases hc : unB zs
  · rfl
  · have a := List.all_eq_true.1 hc (ent zs i) (List.mem_filter.2 ⟨ent_mem hi, h1⟩)
    have b := List.all_eq_true.1 a (ent zs k) (List.mem_filter.2 ⟨ent_mem hk, h2⟩)
    rw [h3] at b; cases b
def unP (zs : List (List Int)) (i k : Nat) : Prop := idB (ent zs i) = true → beB (ent zs i) (ent zs k) = true → idB (ent zs k) = true
theorem unB_yes {zs : List (List Int)} (h : ∀ i, i < zs.length → ∀ k, k < zs.length → unP zs i k) : unB zs = true := by
  refine List.all_eq_true.2 fun e he => List.all_eq_true.2 fun f hf => ?_
  obtain ⟨h1, h2⟩ := List.mem_filter.1 he
  obtain ⟨h3, h4⟩ := List.mem_filter.1 hf
  obtain ⟨i, hi, rfl⟩ := mem_ent h1
  obtain ⟨k, hk, rfl⟩ := mem_ent h3
  exact h i hi k hk h2 h4
def sgU (zs : List (List Int)) : Bool := sgS zs && unB zs

end

end Go.Proofs.YtmknjifmmmnjjaaDoor
