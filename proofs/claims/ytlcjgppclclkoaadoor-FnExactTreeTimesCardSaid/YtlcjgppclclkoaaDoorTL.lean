/-
  Lo.
-/
import Derived.Sort.OwnSorted
import Derived.Shelf.SlSortCmp.Insertion
import Derived.Test.YtlcjgppclclkoaaDoorTK
namespace Go.Proofs.YtlcjgppclclkoaaDoor
set_option maxRecDepth 100000
set_option linter.unusedVariables false
set_option linter.unusedSimpArgs false
set_option linter.unusedSectionVars false

/-! The order of words: by length, then by text; no program. -/
section
open Go.RowKit Go.Lib Go.Sort

theorem cb_self : ∀ a : List UInt8, compareBytes a a = 0
  | [] => rfl
  | x :: a => by
    unfold compareBytes
    rw [if_neg (UInt8.lt_irrefl x), if_neg (UInt8.lt_irrefl x)]
    exact cb_self a
theorem u8_tri (x y : UInt8) : x < y ∨ x = y ∨ y < x := by
  rcases Nat.lt_trichotomy x.toNat y.toNat with h | h | h
  · exact .inl (UInt8.lt_iff_toNat_lt.2 h)
  · exact .inr (.inl (UInt8.toNat_inj.1 h))
  · exact .inr (.inr (UInt8.lt_iff_toNat_lt.2 h))
theorem cb_cons (x y : UInt8) (a b : List UInt8) : compareBytes (x :: a) (y :: b) = if x < y then -1 else if y < x then 1 else compareBytes a b := by
  rw [compareBytes]
/-- less, in plain words -/
def lxB : List UInt8 → List UInt8 → Prop
  | [], [] => False
  | [], _ :: _ => True
  | _ :: _, [] => False
  | x :: a, y :: b => x < y ∨ (x = y ∧ lxB a b)
theorem cb_lx : ∀ a b : List UInt8, compareBytes a b < 0 ↔ lxB a b
  | [], [] => by simp [compareBytes, lxB]
  | [], _ :: _ => by simp [compareBytes, lxB]
  | _ :: _, [] => by simp [compareBytes, lxB]
  | x :: a, y :: b => by
    rw [cb_cons]
    unfold lxB
    rcases u8_tri x y with h | h | h
    · simp [h]
    · subst h
      have := UInt8.lt_irrefl x
      simp [this, cb_lx a b]
    · have h1 : ¬ x < y := UInt8.lt_asymm h
      have h2 : x ≠ y := fun e => by subst e; exact UInt8.lt_irrefl x h
      simp [h, h1, h2]
theorem lx_irrefl : ∀ a : List UInt8, ¬ lxB a a
  | [] => fun h => h
  | x :: a => fun h => by
    rcases h with h | h
    · exact UInt8.lt_irrefl x h
    · exact lx_irrefl a h.2
theorem lx_trans : ∀ a b c : List UInt8, lxB a b → lxB b c → lxB a c
  | [], [], _, h, _ => h.elim
  | [], _ :: _, [], _, h => h.elim
  | [], _ :: _, _ :: _, _, _ => trivial
  | _ :: _, [], _, h, _ => h.elim
  | _ :: _, _ :: _, [], _, h => h.elim
  | x :: a, y :: b, z :: c, h, k => by
    rcases h with h | ⟨rfl, h⟩ <;> rcases k with k | ⟨rfl, k⟩
    · exact .inl (UInt8.lt_trans h k)
    · exact .inl h
    · exact .inl k
    · exact .inr ⟨rfl, lx_trans a b c h k⟩
theorem lx_tri : ∀ a b : List UInt8, lxB a b ∨ a = b ∨ lxB b a
  | [], [] => .inr (.inl rfl)
  | [], _ :: _ => .inl trivial
  | _ :: _, [] => .inr (.inr trivial)
  | x :: a, y :: b => by
    rcases u8_tri x y with h | h | h
    · exact .inl (.inl h)
    · subst h
      rcases lx_tri a b with k | k | k
      · exact .inl (.inr ⟨rfl, k⟩)
      · exact .inr (.inl (by rw [k]))
      · exact .inr (.inr (.inr ⟨rfl, k⟩))
    · exact .inr (.inr (.inl h))
/-- less -/
def ltW (u v : List (Fin 4)) : Prop := u.length < v.length ∨ (u.length = v.length ∧ lxB (strOf u).data.toList (strOf v).data.toList)
theorem leL_ltW (u v : List (Fin 4)) : leL u v < 0 ↔ ltW u v := by
  unfold leL ltW ciL
  by_cases h : u.length = v.length
  · rw [if_pos h, cb_lx]; simp [h]
  · rw [if_neg h]
    by_cases h1 : u.length < v.length
    · simp [h1]
    · have h2 : v.length < u.length := by omega
      simp [h, h1, h2]
theorem ltW_irrefl (u : List (Fin 4)) : ¬ ltW u u := fun h => by
  rcases h with h | h
  · omega
  · exact lx_irrefl _ h.2
theorem ltW_trans {u v x : List (Fin 4)} (h : ltW u v) (k : ltW v x) : ltW u x := by
  rcases h with h | ⟨e, h⟩ <;> rcases k with k | ⟨e', k⟩
  · exact .inl (by omega)
  · exact .inl (by omega)
  · exact .inl (by omega)
  · exact .inr ⟨by omega, lx_trans _ _ _ h k⟩
theorem ltW_tri (u v : List (Fin 4)) : ltW u v ∨ u = v ∨ ltW v u := by
  rcases Nat.lt_trichotomy u.length v.length with h | h | h
  · exact .inl (.inl h)
  · rcases lx_tri (strOf u).data.toList (strOf v).data.toList with k | k | k
    · exact .inl (.inr ⟨h, k⟩)
    · refine .inr (.inl (strOf_inj ?_))
      exact ByteArray.ext (Array.ext' k)
    · exact .inr (.inr (.inr ⟨h.symm, k⟩))
  · exact .inr (.inr (.inl h))
theorem ltOf_leL (u v : List (Fin 4)) : ltOf leL u v = true ↔ ltW u v := by
  unfold ltOf
  rw [decide_eq_true_eq, leL_ltW]
theorem swoL : SWO (ltOf leL) where
  irrefl u := by
    cases h : ltOf leL u u with
    | false => rfl
    | true => exact absurd ((ltOf_leL u u).1 h) (ltW_irrefl u)
  trans u v x h k := (ltOf_leL u x).2 (ltW_trans ((ltOf_leL u v).1 h) ((ltOf_leL v x).1 k))
  ntrans u v x h k := by
    cases hx : ltOf leL u x with
    | false => rfl
    | true =>
      exfalso
      have h1 : ¬ ltW u v := fun e => by rw [(ltOf_leL u v).2 e] at h; cases h
      have h2 : ¬ ltW v x := fun e => by rw [(ltOf_leL v x).2 e] at k; cases k
      have h3 := (ltOf_leL u x).1 hx
      rcases ltW_tri u v with e | e | e
      · exact h1 e
      · subst e; exact h2 h3
      · exact h2 (ltW_trans e h3)
/-- in order, each once -/
def Ord (L : List (List (Fin 4))) : Prop := L.Pairwise ltW
theorem ord_eq : ∀ {L M : List (List (Fin 4))}, Ord L → Ord M → (∀ x, x ∈ L ↔ x ∈ M) → L = M := by
  intro L
  induction L with
  | nil =>
    intro M _ _ h
    cases M with
    | nil => rfl
    | cons y M => exact absurd ((h y).2 List.mem_cons_self) (by simp)
  | cons x L ih =>
    intro M hL hM h
    cases M with
    | nil => exact absurd ((h x).1 List.mem_cons_self) (by simp)
    | cons y M =>
      have h1 := List.pairwise_cons.1 hL
      have h2 := List.pairwise_cons.1 hM
      have hxy : x = y := by
        rcases List.mem_cons.1 ((h x).1 List.mem_cons_self) with e | e
        · exact e
        · rcases List.mem_cons.1 ((h y).2 List.mem_cons_self) with e' | e'
          · exact e'.symm
          · exact absurd (ltW_trans (h1.1 y e') (h2.1 x e)) (ltW_irrefl x)
      subst hxy
      rw [ih h1.2 h2.2 (fun z => ?_)]
      constructor
      · intro hz
        rcases List.mem_cons.1 ((h z).1 (List.mem_cons_of_mem _ hz)) with e | e
        · subst e; exact absurd (h1.1 z hz) (ltW_irrefl z)
        · exact e
      · intro hz
        rcases List.mem_cons.1 ((h z).2 (List.mem_cons_of_mem _ hz)) with e | e
        · subst e; exact absurd (h2.1 z hz) (ltW_irrefl z)
        · exact e
end

end Go.Proofs.YtlcjgppclclkoaaDoor
