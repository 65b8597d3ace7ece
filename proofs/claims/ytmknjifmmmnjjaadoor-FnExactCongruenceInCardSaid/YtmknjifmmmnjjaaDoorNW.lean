/-
  Abv.
-/
import Derived.Test.YtmknjifmmmnjjaaDoorNU
import Derived.Test.YtmknjifmmmnjjaaDoorNV
namespace Go.Proofs.YtmknjifmmmnjjaaDoor
set_option maxRecDepth 100000
set_option linter.unusedVariables false
set_option linter.unusedSimpArgs false
set_option linter.unusedSectionVars false

/-! SemigroupAbove, both sides; impl.toldWith. -/
section
open Go.RowKit Go.Maps

/-- a semigroup with this chart -/
def swhB (zs : List (List Int)) (f : List Int) : Bool := sgS zs && decide (f ∈ zs)
def abL (zs : List (List Int)) (f : List Int) : List (List Int) := if swhB zs f = true then zs.filter (beB f) else []
theorem swh_iff {zs : List (List Int)} {f : List Int} : swhB zs f = true ↔ sgS zs = true ∧ f ∈ zs := by unfold swhB; rw [Bool.and_eq_true, decide_eq_true_eq]
theorem abL_le (zs : List (List Int)) (f : List Int) : (abL zs f).length ≤ 400 ∧ totL (abL zs f) ≤ 2400 ∧ ∀ L ∈ abL zs f, L.length ≤ 1048576 := by
  unfold abL
  split
  · rename_i h; exact sub_le (swh_iff.1 h).1 (List.length_filter_le _ _) (fun L hL => (List.mem_filter.1 hL).1)
  · exact nil_le

theorem mapP_iff {H : Type} {zs : List (List Int)} (x : Lit) : Maps.has (mapP (H := H) klL zs zs.length) x = true ↔ ∃ L, L ∈ zs ∧ klL L = x := by
  rw [mapP_has klL_key zs.length (Nat.le_refl _)]
  constructor
  · rintro ⟨i, hi, e⟩; exact ⟨_, ent_mem hi, e⟩
  · rintro ⟨L, hL, e⟩
    obtain ⟨i, hi, e2⟩ := mem_ent hL
    exact ⟨i, hi, by rw [e2]; exact e⟩
end

end Go.Proofs.YtmknjifmmmnjjaaDoor
