/-
  Ts.
-/
import Derived.Test.YtlcjgppclclkoaaDoorTA
namespace Go.Proofs.YtlcjgppclclkoaaDoor
set_option maxRecDepth 100000
set_option linter.unusedVariables false
set_option linter.unusedSimpArgs false
set_option linter.unusedSectionVars false

/-! Words as texts; no program. -/
section
def ltB (c : Fin 4) : UInt8 := match c with
  | 0 => 65
  | 1 => 66
  | 2 => 97
  | 3 => 98
theorem ltB_inj : ∀ c d : Fin 4, ltB c = ltB d → c = d := by decide
def isL (b : UInt8) : Bool := b == 65 || b == 66 || b == 97 || b == 98
theorem isL_lt : ∀ c : Fin 4, isL (ltB c) = true := by decide
theorem isL_of {b : UInt8} (h : isL b = true) : ∃ c, ltB c = b := by
  unfold isL at h
  simp only [Bool.or_eq_true, beq_iff_eq] at h
  rcases h with ((h | h) | h) | h
  · exact ⟨0, h.symm⟩
  · exact ⟨1, h.symm⟩
  · exact ⟨2, h.symm⟩
  · exact ⟨3, h.symm⟩
/-- the text of a node -/
def strOf (u : List (Fin 4)) : ByteArray := ⟨(u.reverse.map ltB).toArray⟩
theorem strOf_size (u : List (Fin 4)) : (strOf u).size = u.length := by unfold strOf; simp [ByteArray.size]
theorem strOf_list (u : List (Fin 4)) : (strOf u).data.toList = u.reverse.map ltB := by unfold strOf; simp
theorem map_inj {ws vs : List (Fin 4)} (h : ws.map ltB = vs.map ltB) : ws = vs := (List.map_inj_right (fun a b e => ltB_inj a b e)).1 h
theorem strOf_inj {u v : List (Fin 4)} (h : strOf u = strOf v) : u = v := by
  have := congrArg (fun s : ByteArray => s.data.toList) h
  simp only [strOf_list] at this
  exact List.reverse_inj.1 (map_inj this)
def wordB (s : ByteArray) : Bool := s.data.toList.all isL && decide (s.size ≤ 24)
theorem word_of {l : List UInt8} (h : l.all isL = true) : ∃ ws : List (Fin 4), l = ws.map ltB := by
  induction l with
  | nil => exact ⟨[], rfl⟩
  | cons b l ih =>
    rw [List.all_cons, Bool.and_eq_true] at h
    obtain ⟨ws, e⟩ := ih h.2
    obtain ⟨c, ec⟩ := isL_of h.1
    exact ⟨c :: ws, by rw [e, ← ec]; rfl⟩
/-- the bytes of a text, as cells -/
def bvL (ws : List (Fin 4)) : List Value := ws.map (fun c => Value.int .u8 ((ltB c).toNat : Int))
/-- the inverse of a byte, as the specification reckons it -/
theorem oth_ltB : ∀ c : Fin 4, (if 97 ≤ (ltB c).toNat then (ltB c).toNat - 32 else (ltB c).toNat + 32) = (ltB (ivL c)).toNat := by decide
/-- reduced -/
def redS (ws : List (Fin 4)) : List (Fin 4) := goW [] ws
theorem goW_snoc (u : List (Fin 4)) (ws : List (Fin 4)) (c : Fin 4) : goW u (ws ++ [c]) = stp (goW u ws) c := by unfold goW; rw [List.foldl_append]; rfl
theorem goW_len (u : List (Fin 4)) : ∀ ws : List (Fin 4), (goW u ws).length ≤ u.length + ws.length := by
  intro ws
  induction ws generalizing u with
  | nil => simp [goW]
  | cons c ws ih =>
    have h1 := ih (stp u c)
    have h2 : (stp u c).length ≤ u.length + 1 := by
      rcases stp_cases (u := u) (c := c) with e | ⟨d, v, e1, _, e2⟩
      · rw [e]; simp
      · rw [e2, e1]; simp; omega
    show (goW (stp u c) ws).length ≤ _
    simp; omega
end

end Go.Proofs.YtlcjgppclclkoaaDoor
