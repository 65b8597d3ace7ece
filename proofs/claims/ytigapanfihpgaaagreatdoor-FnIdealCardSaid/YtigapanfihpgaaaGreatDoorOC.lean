/-
  ClM.
-/
import Derived.Maps.OwnSet
import Derived.Test.YtigapanfihpgaaaGreatDoorNX
namespace Go.Proofs.YtigapanfihpgaaaGreatDoor
set_option maxRecDepth 100000
set_option linter.unusedVariables false
set_option linter.unusedSimpArgs false
set_option linter.unusedSectionVars false

/-! Classes of the charts of a list by their marks, counted; no program. -/
section
open Go.RowKit Go.Maps

section
variable {sm : List Int → List Int → Bool} {zs : List (List Int)}
/-- none of the first k charts has the mark of the chart i -/
def frB (sm : List Int → List Int → Bool) (zs : List (List Int)) (i : Nat) : Nat → Bool
  | 0 => true
  | k + 1 => frB sm zs i k && !sm (ent zs i) (ent zs k)
theorem frB_iff {i : Nat} : ∀ k, frB sm zs i k = true ↔ ∀ j, j < k → sm (ent zs i) (ent zs j) = false
  | 0 => by simp [frB]
  | k + 1 => by
    unfold frB
    rw [Bool.and_eq_true, frB_iff k, Bool.not_eq_true']
    constructor
    · rintro ⟨h1, h2⟩ j hj
      rcases Nat.lt_or_eq_of_le (Nat.le_of_lt_succ hj) with h | rfl
      · exact h1 j h
      · exact h2
    · intro h; exact ⟨fun j hj => h j (by omega), h k (by omega)⟩
/-- how many marks the first k charts have -/
def clN (sm : List Int → List Int → Bool) (zs : List (List Int)) : Nat → Nat
  | 0 => 0
  | k + 1 => if frB sm zs k k = true then clN sm zs k + 1 else clN sm zs k
theorem clN_is : ∀ k, clN sm zs k = ((List.range k).filter (fun i => frB sm zs i i)).length
  | 0 => rfl
  | k + 1 => by
    unfold clN
    rw [List.range_succ, List.filter_append, List.length_append, clN_is k, List.filter_cons]
    by_cases h : frB sm zs k k = true
    · rw [if_pos h, if_pos h]; rfl
    · rw [if_neg h, if_neg h]; rfl
theorem clN_le : ∀ k, clN sm zs k ≤ k
  | 0 => Nat.le_refl _
  | k + 1 => by
    unfold clN
    have := clN_le k
    split <;> omega
end

theorem any_key {acc : List Lit} {x : Lit} (hx : WideAt.IsKeyLit x) : acc.any (fun y => y.sameKey x) = true ↔ x ∈ acc := by
  rw [List.any_eq_true]
  constructor
  · rintro ⟨y, hy, h⟩
    by_cases e : y = x
    · rw [← e]; exact hy
    · rw [sameKey_ne e] at h; cases h
  · intro h; exact ⟨x, h, WideAt.sameKey_self hx⟩
theorem addKey_fold : ∀ (acc R : List Lit), (∀ x ∈ acc, WideAt.IsKeyLit x) → R.Nodup → (acc.foldl addKey R).Nodup ∧ ∀ x, x ∈ acc.foldl addKey R ↔ x ∈ R ∨ x ∈ acc
  | [], R, _, hR => ⟨hR, fun x => by simp⟩
  | a :: acc, R, h, hR => by
    rw [List.foldl_cons]
    have ha := h a (by simp)
    have hn : (addKey R a).Nodup ∧ ∀ x, x ∈ addKey R a ↔ x ∈ R ∨ x = a := by
      unfold addKey
      by_cases hm : a ∈ R
      · rw [if_pos ((any_key ha).2 hm)]
        exact ⟨hR, fun x => ⟨.inl, fun h => h.elim id (fun e => by rw [e]; exact hm)⟩⟩
      · rw [if_neg (fun h => hm ((any_key ha).1 h))]
        refine ⟨?_, fun x => by simp⟩
        rw [List.nodup_append]
        exact ⟨hR, by simp, fun x hx y hy e => hm (by simp at hy; rw [← hy, ← e]; exact hx)⟩
    have := addKey_fold acc (addKey R a) (fun x hx => h x (by simp [hx])) hn.1
    refine ⟨this.1, fun x => ?_⟩
    rw [this.2 x, hn.2 x, List.mem_cons, or_assoc]

theorem least_fresh {sm : List Int → List Int → Bool} {zs : List (List Int)} {kf : List Int → Lit} (hsm : ∀ L ∈ zs, ∀ M ∈ zs, sm L M = true → kf L = kf M) : ∀ i, i < zs.length → ∃ j, j < zs.length ∧ frB sm zs j j = true ∧ kf (ent zs j) = kf (ent zs i) := by
  intro i
  induction i using Nat.strongRecOn with
  | ind i ih =>
    intro hi
    by_cases hf : frB sm zs i i = true
    · exact ⟨i, hi, hf, rfl⟩
    · have : ∃ k, k < i ∧ sm (ent zs i) (ent zs k) = true := by
        refine Classical.byContradiction fun hc => hf ((frB_iff i).2 fun j hj => ?_)
        cases hh : sm (ent zs i) (ent zs j)
        · rfl
        · exact absurd ⟨j, hj, hh⟩ hc
      obtain ⟨k, hk, hs⟩ := this
      obtain ⟨j, hj, h1, h2⟩ := ih k hk (by omega)
      exact ⟨j, hj, h1, h2.trans (hsm _ (ent_mem hi) _ (ent_mem (by omega)) hs).symm⟩
/-- as many keys as marks -/
theorem keys_count {sm : List Int → List Int → Bool} {zs : List (List Int)} {kf : List Int → Lit} {acc : List Lit} (hsm : ∀ L ∈ zs, ∀ M ∈ zs, (sm L M = true ↔ kf L = kf M)) (hk : ∀ L, WideAt.IsKeyLit (kf L)) (h1 : ∀ x ∈ acc, ∃ L, L ∈ zs ∧ kf L = x) (h2 : ∀ L ∈ zs, kf L ∈ acc) :
    (acc.foldl addKey []).length = clN sm zs zs.length := by
  have hR := addKey_fold acc [] (fun x hx => by obtain ⟨L, _, rfl⟩ := h1 x hx; exact hk L) List.nodup_nil
  rw [clN_is]
  have hF : (((List.range zs.length).filter (fun i => frB sm zs i i)).map (fun i => kf (ent zs i))).Nodup := by
    unfold List.Nodup
    rw [List.pairwise_map]
    refine List.Pairwise.imp_of_mem ?_ ((List.pairwise_lt_range (n := zs.length)).filter _)
    intro a b ha hb hlt e
    rw [List.mem_filter, List.mem_range] at ha hb
    have := (frB_iff b).1 hb.2 a hlt
    have h := (hsm _ (ent_mem hb.1) _ (ent_mem ha.1)).2 e.symm
    rw [this] at h; cases h
  have hp := (List.perm_ext_iff_of_nodup hR.1 hF).2 (fun x => by
    rw [hR.2 x]
    constructor
    · rintro (h | h)
      · cases h
      · obtain ⟨L, hL, rfl⟩ := h1 x h
        obtain ⟨i, hi, rfl⟩ := mem_ent hL
        obtain ⟨j, hj, hf, e⟩ := least_fresh (fun L hL M hM h => (hsm L hL M hM).1 h) i hi
        exact List.mem_map.2 ⟨j, List.mem_filter.2 ⟨List.mem_range.2 hj, hf⟩, e⟩
    · intro h
      obtain ⟨j, hj, rfl⟩ := List.mem_map.1 h
      exact .inr (h2 _ (ent_mem (List.mem_range.1 (List.mem_filter.1 hj).1))))
  rw [hp.length_eq, List.length_map]

/-! ### domains and ranges -/
def dmN (L : List Int) : Nat := domL (mv (ofL L) L.length)
def smD (L M : List Int) : Bool := decide (dmN L = dmN M)
def smR (L M : List Int) : Bool := decide (dmN (tuL L) = dmN (tuL M))
def smE (L M : List Int) : Bool := smD L M && smR L M
def clsL (zs : List (List Int)) : List Int := if sgS zs = true then [(clN smD zs zs.length : Int), (clN smR zs zs.length : Int), (clN smE zs zs.length : Int)] else []
theorem clsL_le (zs : List (List Int)) : (clsL zs).length ≤ 3 := by unfold clsL; split <;> simp
end

end Go.Proofs.YtigapanfihpgaaaGreatDoor
