/-
  The plain mathematics of charts: no program.
-/
namespace Go.Proofs.Ytoomeimloaloaaa
set_option maxRecDepth 100000

def inB (n lo hi : Int) : Bool := decide (lo ≤ n ∧ n ≤ hi)

/-- from here on the list goes on being a chart of n points, the points of the mask m being met already -/
def okFrom (n : Nat) : Nat → List Int → Bool
  | _, [] => true
  | m, z :: zs => if z = -1 then okFrom n m zs else if 0 ≤ z ∧ z < n ∧ m.testBit z.toNat = false then okFrom n (m ||| 1 <<< z.toNat) zs else false

/-- the list is a chart -/
def isC (zs : List Int) : Bool := decide (1 ≤ zs.length ∧ zs.length ≤ 6) && okFrom zs.length 0 zs

theorem okFrom_drop (n m : Nat) (zs : List Int) {k : Nat} (hk : k < zs.length) : okFrom n m (zs.drop k) =
    if zs[k]?.getD 0 = -1 then okFrom n m (zs.drop (k + 1)) else if 0 ≤ zs[k]?.getD 0 ∧ zs[k]?.getD 0 < n ∧ m.testBit (zs[k]?.getD 0).toNat = false then okFrom n (m ||| 1 <<< (zs[k]?.getD 0).toNat) (zs.drop (k + 1)) else false := by
  rw [List.drop_eq_getElem_cons hk, List.getElem?_eq_getElem hk]
  rfl

theorem isC_long {zs : List Int} (h : 6 < zs.length) : isC zs = false := by simp [isC]; omega
theorem isC_short {zs : List Int} (h : zs.length = 0) : isC zs = false := by simp [isC]; omega
theorem isC_mid {zs : List Int} (h1 : 1 ≤ zs.length) (h2 : zs.length ≤ 6) : isC zs = okFrom zs.length 0 zs := by simp [isC, h1, h2]

theorem mask_lt : ∀ (m : Fin 64) (z : Fin 6), (m.val ||| 1 <<< z.val) < 64 := by decide +kernel
theorem mask_lt' {m z : Nat} (hm : m < 64) (hz : z < 6) : (m ||| 1 <<< z) < 64 := mask_lt ⟨m, hm⟩ ⟨z, hz⟩

/-- what is known of a list that is a chart -/
theorem okFrom_mem {n : Nat} : ∀ {zs : List Int} {m : Nat}, okFrom n m zs = true → ∀ z ∈ zs, -1 ≤ z ∧ z < n ∨ z = -1
  | [], _, _, z, hz => by cases hz
  | y :: zs, m, h, z, hz => by
    unfold okFrom at h
    by_cases hy : y = -1
    · rw [if_pos hy] at h
      rcases List.mem_cons.1 hz with rfl | hz
      · exact .inr hy
      · exact okFrom_mem h z hz
    · rw [if_neg hy] at h
      by_cases hc : 0 ≤ y ∧ y < n ∧ m.testBit y.toNat = false
      · rw [if_pos hc] at h
        rcases List.mem_cons.1 hz with rfl | hz
        · exact .inl ⟨by omega, hc.2.1⟩
        · exact okFrom_mem h z hz
      · rw [if_neg hc] at h; cases h
end Go.Proofs.Ytoomeimloaloaaa
