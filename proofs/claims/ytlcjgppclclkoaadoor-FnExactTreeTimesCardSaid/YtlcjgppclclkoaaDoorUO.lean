/-
  Ap.
-/
import Derived.Test.YtlcjgppclclkoaaDoorTV
import Derived.Test.YtlcjgppclclkoaaDoorUC
import Derived.Test.YtlcjgppclclkoaaDoorUI
namespace Go.Proofs.YtlcjgppclclkoaaDoor
set_option maxRecDepth 100000
set_option linter.unusedVariables false
set_option linter.unusedSimpArgs false
set_option linter.unusedSectionVars false

/-! Rows that lie apart; the sizes of trees that are answered. -/
section
open Go.RowKit Go.Lib Go.Sort

/-- another row, all of whose blocks lie elsewhere, stays -/
theorem own_apart4 {w w' : World} {base base' size size' n n' : Nat} {e e' : TypeId} {v v' : Value} {xs xs' : List Value} (h : w.ownsRow base e size v n xs) (h' : w.ownsRow base' e' size' v' n' xs') (hg : w.grownBy w' v'.ownBlock)
    (hne : ∀ g, v.ownBlock = some g → v'.ownBlock = some g → False) : w'.ownsRow base e size v n xs :=
  h.kept hg (by
    cases hv : v.ownBlock with
    | none => exact .inl rfl
    | some g => exact .inr (fun e => hne g hv e.symm))
/-- two rows, the one made before the other -/
theorem apart_of4 {w w0 : World} {base base' size size' n n' : Nat} {e e' : TypeId} {v v' : Value} {xs xs' : List Value} (h : w0.ownsRow base e size v n xs) (hle : w0.heap.size ≤ base') (h' : w.ownsRow base' e' size' v' n' xs') :
    ∀ g, v.ownBlock = some g → v'.ownBlock = some g → False := fun g h1 h2 => by
  have a := (h.lt g h1).2
  have b := (h'.lt g h2).1
  omega
theorem OfOk.len {s : ByteArray} {R : Option (List (List (Fin 4)) × List (Fin 4))} (h : OfOk s R) : (resL R).length ≤ 60 := by
  rcases h with ⟨_, rfl⟩ | ⟨ws, S, e0, hw, ho, hX, rfl⟩
  · simp [resL]
  · obtain ⟨ws', e, hl⟩ := word_txt hw
    have hT := tre_of ho hX
    have hws : ws.length ≤ 24 := by
      have := txt_inj (e0.symm.trans e)
      rw [this]; exact hl
    have := (sml_mem (sml_word hT.nd hws hX)).1
    simpa [resL] using this
theorem len_if {L : List (List (Fin 4))} {u : List (Fin 4)} : (resL (if smlB L = true then some (L, u) else none)).length ≤ 60 := by
  by_cases h : smlB L = true
  · rw [if_pos h]; simpa [resL] using (sml_mem h).1
  · rw [if_neg h]; simp [resL]
theorem TurnOk.len {zs : List ByteArray} {s : ByteArray} {R : Option (List (List (Fin 4)) × List (Fin 4))} (h : TurnOk zs s R) : (resL R).length ≤ 60 := by
  rcases h with ⟨_, rfl⟩ | ⟨S, u, L, _, _, _, rfl⟩
  · simp [resL]
  · exact len_if
theorem TimesOk.len {zs ys : List ByteArray} {s t : ByteArray} {R : Option (List (List (Fin 4)) × List (Fin 4))} (h : TimesOk zs ys s t R) : (resL R).length ≤ 60 := by
  rcases h with ⟨_, rfl⟩ | ⟨S, u, S', u', L, _, _, _, _, rfl⟩
  · simp [resL]
  · exact len_if
theorem own_len {w : World} {base n : Nat} {v : Value} {ss : List ByteArray} (h : w.ownsRow base 9 1 v n (svL ss)) : ss.length = n := by have := h.1; simpa [svL] using this
theorem eqTree_same (A B : Option Addr) (n m c d : Nat) (zs : List ByteArray) (s : ByteArray) (w : World) (h : RS w A n zs) (h' : RS w B m zs) (hn : n ≤ 1048576) :
    Calls Tryd.prog 18 #[.agg #[.slice A n c, .string s], .agg #[.slice B m d, .string s]] w fun e w' => e = .returned (.bool true) ∧ RowKit.Below w.heap.size w w' := by
  have := eqTree_any A B n m c d zs zs s s w h h' hn
  rwa [decide_eq_true rfl, decide_eq_true rfl] at this
end

end Go.Proofs.YtlcjgppclclkoaaDoor
