/-
  How long the lists of chapter 2 are.
-/
import Derived.Test.YtckppfgooflooaaL2I
import Derived.Test.YtckppfgooflooaaObj
namespace Go.Proofs.Ytckppfgooflooaa
set_option maxRecDepth 100000

theorem of_lens {Ls : List (List Int)} (h : ∀ x ∈ lens Ls, 1 ≤ x ∧ x ≤ 6) : ∀ L ∈ Ls, L.length ≤ 6 := fun L hL => by
  have := h (L.length : Int) (List.mem_map.2 ⟨L, hL, rfl⟩)
  omega
theorem waysL_le (zs : List Int) : (waysL zs).length ≤ 12 ∧ totL (waysL zs) ≤ 72 ∧ ∀ L ∈ waysL zs, L.length ≤ 1048576 := by
  have key : (waysL zs).length ≤ 12 ∧ ∀ L ∈ waysL zs, L.length ≤ 6 := by
    unfold waysL chainsL cyclesL
    cases hC : isC zs
    · simp
    · have hF := isC_CH hC
      have h6 := hF.six
      simp only [if_true]
      have h1 := chL_le (ofL zs) zs.length (raN zs) zs.length
      have h2 := cyL_le (ofL zs) zs.length (orSS 0 (chL (ofL zs) zs.length (raN zs) zs.length)) zs.length
      refine ⟨by rw [List.length_append]; omega, fun L hL => ?_⟩
      rcases List.mem_append.1 hL with h | h
      · exact of_lens (chL_lens hF _ (Nat.le_refl _)) L h
      · exact of_lens (cyL_lens hF _ (Nat.le_refl _)) L h
  exact ⟨key.1, totL_bound key.1 key.2, fun L hL => by have := key.2 L hL; omega⟩
theorem wcL_le (n : Int) (Cs Ys : List (List Int)) : (wcL n Cs Ys).length ≤ 6 := by
  unfold wcL
  split
  · rename_i h
    rw [LT_length]
    unfold wcB inB at h
    simp at h; omega
  · simp
theorem allL_mem (n : Nat) : ∀ (d : Nat) (b : List Int), ∀ L ∈ allL n d b, L.length ≤ 6
  | 0, b, L, hL => by
    unfold allL at hL
    split at hL
    · rename_i h; rw [List.mem_singleton.1 hL]; exact (isC_len h).2
    · cases hL
  | d + 1, b, L, hL => by
    unfold allL at hL
    rw [List.mem_flatMap] at hL
    obtain ⟨i, _, h⟩ := hL
    exact allL_mem n d _ L h
theorem allCL_le (n : Int) : (allCL n).length ≤ 64 ∧ totL (allCL n) ≤ 384 ∧ ∀ L ∈ allCL n, L.length ≤ 1048576 := by
  have key : (allCL n).length ≤ 64 ∧ ∀ L ∈ allCL n, L.length ≤ 6 := by
    unfold allCL
    split
    · rename_i h
      unfold inB at h
      have h := of_decide_eq_true h
      obtain ⟨N, rfl⟩ := Int.eq_ofNat_of_zero_le (show 0 ≤ n by omega)
      rw [Int.toNat_natCast]
      refine ⟨Nat.le_trans (allL_le N N []) ?_, fun L hL => allL_mem N N [] L hL⟩
      have : N = 1 ∨ N = 2 ∨ N = 3 := by omega
      rcases this with rfl | rfl | rfl <;> decide
    · simp
  exact ⟨key.1, totL_bound key.1 key.2, fun L hL => by have := key.2 L hL; omega⟩
end Go.Proofs.Ytckppfgooflooaa
