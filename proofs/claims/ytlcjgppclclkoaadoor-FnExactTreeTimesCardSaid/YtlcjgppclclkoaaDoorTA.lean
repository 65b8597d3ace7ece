/-
  Tw.
-/
import Derived.Test.YtlcjgppclclkoaaDoorM0
namespace Go.Proofs.YtlcjgppclclkoaaDoor
set_option maxRecDepth 100000
set_option linter.unusedVariables false
set_option linter.unusedSimpArgs false
set_option linter.unusedSectionVars false

/-! Words of four letters, last letter first, reduced by a stack; trees of words; no program. -/
section
def ivL (c : Fin 4) : Fin 4 := c + 2
theorem ivL_ivL : ∀ c : Fin 4, ivL (ivL c) = c := by decide
theorem ivL_ne : ∀ c : Fin 4, ivL c ≠ c := by decide
theorem ivL_inj {c d : Fin 4} (h : ivL c = ivL d) : c = d := by rw [← ivL_ivL c, h, ivL_ivL]
theorem ivL_val : ∀ c : Fin 4, (ivL c).val = (c.val + 2) % 4 := by decide
/-- reduced -/
def Rdc : List (Fin 4) → Prop
  | [] => True
  | c :: u => (∀ d ∈ u.head?, c ≠ ivL d) ∧ Rdc u
/-- one letter more, reduced -/
def stp : List (Fin 4) → Fin 4 → List (Fin 4)
  | [], c => [c]
  | d :: u, c => if c = ivL d then u else c :: d :: u
theorem stp_cons (d : Fin 4) (u : List (Fin 4)) (c : Fin 4) : stp (d :: u) c = if c = ivL d then u else c :: d :: u := rfl
theorem Rdc.tail {c : Fin 4} {u : List (Fin 4)} (h : Rdc (c :: u)) : Rdc u := h.2
theorem stp_rdc {u : List (Fin 4)} {c : Fin 4} (h : Rdc u) : Rdc (stp u c) := by
  cases u with
  | nil => exact ⟨fun d hd => (by cases hd), trivial⟩
  | cons d u =>
    rw [stp_cons]
    by_cases e : c = ivL d
    · rw [if_pos e]; exact h.2
    · rw [if_neg e]
      exact ⟨fun x hx => by simp at hx; subst hx; exact e, h⟩
theorem stp_back {u : List (Fin 4)} {c : Fin 4} (h : Rdc u) : stp (stp u c) (ivL c) = u := by
  cases u with
  | nil => simp [stp]
  | cons d u =>
    by_cases e : c = ivL d
    · have : stp (d :: u) c = u := by rw [stp_cons, if_pos e]
      rw [this, e, ivL_ivL]
      cases u with
      | nil => rfl
      | cons x u =>
        have := h.1 x (by simp)
        rw [stp_cons, if_neg this]
    · have : stp (d :: u) c = c :: d :: u := by rw [stp_cons, if_neg e]
      rw [this]
      show (if ivL c = ivL c then d :: u else _) = d :: u
      rw [if_pos rfl]
/-- a letter more makes it longer by itself, or leads back to a beginning -/
theorem stp_cases {u : List (Fin 4)} {c : Fin 4} : stp u c = c :: u ∨ ∃ d v, u = d :: v ∧ c = ivL d ∧ stp u c = v := by
  cases u with
  | nil => exact .inl rfl
  | cons d v =>
    by_cases e : c = ivL d
    · exact .inr ⟨d, v, rfl, e, by rw [stp_cons, if_pos e]⟩
    · exact .inl (by rw [stp_cons, if_neg e])
theorem stp_new {c : Fin 4} {u : List (Fin 4)} (h : Rdc (c :: u)) {d : Fin 4} (hd : d ≠ ivL c) : stp (c :: u) d = d :: c :: u := by rw [stp_cons, if_neg hd]
/-- a word, from a node on -/
def goW (u : List (Fin 4)) (w : List (Fin 4)) : List (Fin 4) := w.foldl stp u
theorem goW_rdc {w : List (Fin 4)} : ∀ {u : List (Fin 4)}, Rdc u → Rdc (goW u w) := by
  induction w with
  | nil => exact fun h => h
  | cons c w ih => exact fun h => ih (stp_rdc h)

/-- a tree of words: its nodes -/
structure Tre (N : List (List (Fin 4))) : Prop where
  nd : N.Nodup
  nil : [] ∈ N
  rd : ∀ u ∈ N, Rdc u
  cl : ∀ c u, c :: u ∈ N → u ∈ N
theorem tre_one : Tre [[]] := ⟨by simp, by simp, fun u hu => by rw [List.mem_singleton.1 hu]; trivial, fun c u h => by simp at h⟩
/-- a step that leads out of the tree is a letter more -/
theorem Tre.out {N : List (List (Fin 4))} (T : Tre N) {u : List (Fin 4)} {c : Fin 4} (hu : u ∈ N) (h : stp u c ∉ N) : stp u c = c :: u := by
  rcases stp_cases (u := u) (c := c) with e | ⟨d, v, rfl, _, e⟩
  · exact e
  · rw [e] at h; exact absurd (T.cl d v hu) h
theorem Tre.add {N : List (List (Fin 4))} (T : Tre N) {u : List (Fin 4)} {c : Fin 4} (hu : u ∈ N) (h : stp u c ∉ N) : Tre (N ++ [stp u c]) := by
  have e := T.out hu h
  refine ⟨?_, by simp [T.nil], fun v hv => ?_, fun d v hv => ?_⟩
  · rw [List.nodup_append]
    exact ⟨T.nd, by simp, fun a ha b hb e' => h (by rw [List.mem_singleton.1 hb] at e'; rw [← e']; exact ha)⟩
  · rcases List.mem_append.1 hv with h' | h'
    · exact T.rd v h'
    · rw [List.mem_singleton.1 h']; exact stp_rdc (T.rd u hu)
  · rcases List.mem_append.1 hv with h' | h'
    · exact List.mem_append_left _ (T.cl d v h')
    · have h2 := List.mem_singleton.1 h'
      rw [e] at h2
      injection h2 with _ h3
      rw [h3]; exact List.mem_append_left _ hu
/-- the new node: its one neighbour -/
theorem Tre.new_nb {N : List (List (Fin 4))} (T : Tre N) {u : List (Fin 4)} {c : Fin 4} (hu : u ∈ N) (h : stp u c ∉ N) (d : Fin 4) : stp (stp u c) d ∈ N ++ [stp u c] ↔ d = ivL c := by
  have e := T.out hu h
  constructor
  · intro hm
    refine Classical.byContradiction fun hd => ?_
    have hr : Rdc (c :: u) := by rw [← e]; exact stp_rdc (T.rd u hu)
    rw [e, stp_new hr hd] at hm
    rcases List.mem_append.1 hm with h' | h'
    · have := T.cl _ _ h'; rw [← e] at this; exact h this
    · have := List.mem_singleton.1 h'
      have := congrArg List.length this
      simp at this
  · rintro rfl
    rw [stp_back (T.rd u hu)]
    exact List.mem_append_left _ hu
/-- an old node: its neighbours, but the one at hand, are as they were -/
theorem Tre.old_nb {N : List (List (Fin 4))} (T : Tre N) {u x : List (Fin 4)} {c d : Fin 4} (hu : u ∈ N) (hx : x ∈ N) (h : stp u c ∉ N) (hne : ¬ (x = u ∧ d = c)) : stp x d ∈ N ++ [stp u c] ↔ stp x d ∈ N := by
  refine ⟨fun hm => ?_, fun hm => List.mem_append_left _ hm⟩
  rcases List.mem_append.1 hm with h' | h'
  · exact h'
  · exfalso
    have e := List.mem_singleton.1 h'
    have e2 := T.out hu h
    have hxo : stp x d ∉ N := by rw [e]; exact h
    have e3 := T.out hx hxo
    rw [e3, e2] at e
    injection e with e4 e5
    exact hne ⟨e5, e4⟩
end

end Go.Proofs.YtlcjgppclclkoaaDoor
