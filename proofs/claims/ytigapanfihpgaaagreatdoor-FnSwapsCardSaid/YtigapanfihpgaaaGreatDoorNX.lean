/-
  Ord.
-/
import Derived.Test.YtigapanfihpgaaaGreatDoorMC
import Derived.Test.YtigapanfihpgaaaGreatDoorNV
namespace Go.Proofs.YtigapanfihpgaaaGreatDoor
set_option maxRecDepth 100000
set_option linter.unusedVariables false
set_option linter.unusedSimpArgs false
set_option linter.unusedSectionVars false

/-! Tops and bottoms of a list of charts; no program. -/
section
theorem beB_refl {L : List Int} (h : isC L = true) : beB L L = true := (beB_iff (isP_of h h rfl)).2 fun j hj => .inr rfl
theorem beB_anti {L M : List Int} (h1 : beB L M = true) (h2 : beB M L = true) : L = M := by
  have p := beB_isP h1
  have q := beB_isP h2
  have a := (beB_iff p).1 h1
  have b := (beB_iff q).1 h2
  have hl := (isP_yes p).2.2
  apply List.ext_getElem hl
  intro i i1 i2
  have a' := a i i1
  have b' := b i i2
  unfold ofL at a' b'
  rw [List.getElem?_eq_getElem i1, List.getElem?_eq_getElem i2] at a' b'
  simp only [Option.getD_some] at a' b'
  omega
theorem filter_one {zs : List (List Int)} {p : List Int → Bool} {i : Nat} (hi : i < zs.length) (hp : p (ent zs i) = true) : (zs.filter p).length = 1 ↔ ∀ k, k < zs.length → k ≠ i → p (ent zs k) = false := by
  have e0 : ent zs i = zs[i] := by unfold ent; rw [List.getElem?_eq_getElem hi]; rfl
  have e : zs = zs.take i ++ ent zs i :: zs.drop (i + 1) := by
    rw [e0, ← List.drop_eq_getElem_cons hi, List.take_append_drop]
  have hl : (zs.filter p).length = ((zs.take i).filter p).length + (((zs.drop (i + 1)).filter p).length + 1) := by
    conv => lhs; rw [e]
    rw [List.filter_append, List.filter_cons, if_pos hp, List.length_append, List.length_cons]
  rw [hl]
  constructor
  · intro h k hk hne
    have h1 : (zs.take i).filter p = [] := List.eq_nil_of_length_eq_zero (by omega)
    have h2 : (zs.drop (i + 1)).filter p = [] := List.eq_nil_of_length_eq_zero (by omega)
    rw [List.filter_eq_nil_iff] at h1 h2
    have ek : ent zs k = zs[k] := by unfold ent; rw [List.getElem?_eq_getElem hk]; rfl
    rcases Nat.lt_or_gt_of_ne hne with h' | h'
    · have hm : ent zs k ∈ zs.take i := List.mem_of_getElem? (i := k) (by rw [List.getElem?_take, if_pos h', List.getElem?_eq_getElem hk, ek])
      have := h1 _ hm; simpa using this
    · have hm : ent zs k ∈ zs.drop (i + 1) := List.mem_of_getElem? (i := k - (i + 1)) (by rw [List.getElem?_drop, show i + 1 + (k - (i + 1)) = k by omega, List.getElem?_eq_getElem hk, ek])
      have := h2 _ hm; simpa using this
  · intro h
    have h1 : (zs.take i).filter p = [] := List.filter_eq_nil_iff.2 fun x hx => by
      obtain ⟨k, hk, rfl⟩ := List.getElem_of_mem hx
      have hk' : k < i := by simp at hk; omega
      have := h k (by omega) (by omega)
      unfold ent at this
      rw [List.getElem?_eq_getElem (show k < zs.length by omega)] at this
      rw [List.getElem_take]; simpa using this
    have h2 : (zs.drop (i + 1)).filter p = [] := List.filter_eq_nil_iff.2 fun x hx => by
      obtain ⟨k, hk, rfl⟩ := List.getElem_of_mem hx
      have hk' : i + 1 + k < zs.length := by simp at hk; omega
      have := h (i + 1 + k) hk' (by omega)
      unfold ent at this
      rw [List.getElem?_eq_getElem hk'] at this
      rw [List.getElem_drop]; simpa using this
    rw [h1, h2]; rfl

/-! ### tops -/
def topB (zs : List (List Int)) (L : List Int) : Bool := decide ((zs.filter (beB L)).length = 1)
def tpL (zs : List (List Int)) : List (List Int) := if sgS zs = true then zs.filter (topB zs) else []
theorem tpL_le (zs : List (List Int)) : (tpL zs).length ≤ 400 ∧ totL (tpL zs) ≤ 2400 ∧ ∀ L ∈ tpL zs, L.length ≤ 1048576 := by
  unfold tpL
  split
  · rename_i h; exact sub_le h (List.length_filter_le _ _) (fun L hL => (List.mem_filter.1 hL).1)
  · exact nil_le
/-- nothing among the first k lies above the chart i but it -/
def tpK (zs : List (List Int)) (i : Nat) : Nat → Bool
  | 0 => true
  | k + 1 => tpK zs i k && !(decide (k ≠ i) && beB (ent zs i) (ent zs k))
theorem tpK_iff {zs : List (List Int)} {i : Nat} : ∀ n, tpK zs i n = true ↔ ∀ k, k < n → k ≠ i → beB (ent zs i) (ent zs k) = false
  | 0 => by simp [tpK]
  | n + 1 => by
    unfold tpK
    rw [Bool.and_eq_true, tpK_iff n]
    constructor
    · rintro ⟨h1, h2⟩ k hk hne
      rcases Nat.lt_or_eq_of_le (Nat.le_of_lt_succ hk) with h | rfl
      · exact h1 k h hne
      · simpa [hne] using h2
    · intro h
      refine ⟨fun k hk hne => h k (by omega) hne, ?_⟩
      by_cases e : n = i
      · simp [e]
      · simp [h n (by omega) e]
theorem topB_is {zs : List (List Int)} (hz : ∀ L ∈ zs, isC L = true) {i : Nat} (hi : i < zs.length) : tpK zs i zs.length = topB zs (ent zs i) := by
  have h := filter_one (p := beB (ent zs i)) hi (beB_refl (hz _ (ent_mem hi)))
  rw [Bool.eq_iff_iff, tpK_iff]
  unfold topB
  rw [decide_eq_true_eq, h]

/-! ### bottoms -/
def botB (zs : List (List Int)) (L : List Int) : Bool := zs.all (beB L)
def boL (zs : List (List Int)) : List Int := if sgS zs = true then (zs.find? (botB zs)).getD [] else []
def boB (zs : List (List Int)) : Bool := sgS zs && zs.any (botB zs)
theorem bot_uniq {zs : List (List Int)} {L M : List Int} (hL : L ∈ zs) (hM : M ∈ zs) (h1 : botB zs L = true) (h2 : botB zs M = true) : L = M :=
  beB_anti (List.all_eq_true.1 h1 M hM) (List.all_eq_true.1 h2 L hL)
theorem boL_yes {zs : List (List Int)} (hS : sgS zs = true) {L : List Int} (hL : L ∈ zs) (h : botB zs L = true) : boL zs = L ∧ boB zs = true := by
  have ha : zs.any (botB zs) = true := List.any_eq_true.2 ⟨L, hL, h⟩
  refine ⟨?_, by unfold boB; rw [hS, ha]; rfl⟩
  unfold boL
  rw [if_pos hS]
  cases hf : zs.find? (botB zs) with
  | none => rw [List.find?_eq_none] at hf; exact absurd h (by have := hf L hL; simpa using this)
  | some M => exact bot_uniq (List.mem_of_find?_eq_some hf) hL (List.find?_some hf) h
theorem boL_no {zs : List (List Int)} (h : ∀ L ∈ zs, botB zs L = false) : boL zs = [] ∧ boB zs = false := by
  constructor
  · unfold boL
    split
    · rw [List.find?_eq_none.2 (fun L hL => by rw [h L hL]; simp)]; rfl
    · rfl
  · unfold boB
    have : zs.any (botB zs) = false := List.any_eq_false.2 fun L hL => by rw [h L hL]; simp
    rw [this, Bool.and_false]
theorem boL_none {zs : List (List Int)} (h : sgS zs = false) : boL zs = [] ∧ boB zs = false := by
  constructor
  · unfold boL; rw [h]; rfl
  · unfold boB; rw [h]; rfl
theorem bot_len {zs : List (List Int)} {L : List Int} : (zs.filter (beB L)).length = zs.length ↔ botB zs L = true := by
  unfold botB
  rw [List.all_eq_true, List.length_filter_eq_length_iff]
theorem boL_le (zs : List (List Int)) : (boL zs).length ≤ 6 := by
  unfold boL
  split
  · rename_i h
    cases hf : zs.find? (botB zs) with
    | none => simp
    | some M => exact (isC_len (sg_isC h M (List.mem_of_find?_eq_some hf))).2
  · simp
end

end Go.Proofs.YtigapanfihpgaaaGreatDoor
