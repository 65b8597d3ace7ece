/-
  Ke.
-/
import Derived.Test.YtmknjifmmmnjjaaDoorNT
import Derived.Test.YtmknjifmmmnjjaaDoorKE
namespace Go.Proofs.YtmknjifmmmnjjaaDoor
set_option maxRecDepth 100000
set_option linter.unusedVariables false
set_option linter.unusedSimpArgs false
set_option linter.unusedSectionVars false

/-! spec.CongruenceSize, CongruenceFiner, CongruenceSplits. -/
section
open Go.RowKit

/-- what holds of each two -/
def dbB (n : Nat) (P : Nat → Nat → Bool) : Bool := (List.range n).all (fun i => (List.range i).all (P i))
theorem dbB_iff {n : Nat} {P : Nat → Nat → Bool} : dbB n P = true ↔ ∀ i, i < n → ∀ k, k < i → P i k = true := by
  unfold dbB
  simp only [List.all_eq_true, List.mem_range]
theorem dbB_no {n : Nat} {P : Nat → Nat → Bool} {i k : Nat} (hi : i < n) (hk : k < i) (h : P i k = false) : dbB n P = false := by
  cases e : dbB n P
  · rfl
  · rw [dbB_iff.1 e i hi k hk] at h; cases h
def szN (zs : List (List Int)) (cs : List Int) : Nat := if cgB zs cs = true then frC (ofL cs) zs.length else 0
theorem szN_le (zs : List (List Int)) (cs : List Int) : szN zs cs ≤ zs.length := by
  unfold szN; split
  · exact frC_le _ _
  · exact Nat.zero_le _
theorem cg_val {zs : List (List Int)} {cs : List Int} (h : cgB zs cs = true) {i : Nat} (hi : i < zs.length) : ofL cs i = (nuE (ofL cs) i : Int) := by
  have h1 := nuL_of (ofL cs) hi
  rw [(cgB_iff.1 h).nu] at h1
  exact h1
theorem fr_max (c : Nat → Int) (i : Nat) : frC c (i + 1) = max (frC c i) (nuE c i + 1) := by
  by_cases h : fsE c i = i
  · rw [frC_next h, nu_new h]; omega
  · rw [frC_same h]
    have := nu_lt c (show fsE c i < i by have := fsE_le c i; omega)
    rw [nu_of (fsE_at c i)] at this
    omega
def fiP (cs ds : List Int) (i k : Nat) : Bool := !decide (ofL cs i = ofL cs k) || decide (ofL ds i = ofL ds k)
def fiB (zs : List (List Int)) (cs ds : List Int) : Bool := cgB zs cs && cgB zs ds && dbB zs.length (fiP cs ds)
def spP (zs : List (List Int)) (cs : List Int) (i k : Nat) : Bool := !(decide (ofL cs i = ofL cs k) && idB (ent zs i) && idB (ent zs k))
def spB (zs : List (List Int)) (cs : List Int) : Bool := cgB zs cs && dbB zs.length (spP zs cs)

end

end Go.Proofs.YtmknjifmmmnjjaaDoor
