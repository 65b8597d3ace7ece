/-
  Ta.
-/
import Derived.SliceStrings
import Derived.Lib.SmallJoins
import Derived.Test.YtlcjgppclclkoaaDoorTT
namespace Go.Proofs.YtlcjgppclclkoaaDoor
set_option maxRecDepth 100000
set_option linter.unusedVariables false
set_option linter.unusedSimpArgs false
set_option linter.unusedSectionVars false

/-! Trees that came in, as the guide's opening tells them. -/
section
open Go.RowKit

/-- what a walk is told of a tree that came in -/
def IsTree (w : World) (a : Option Addr) (len : Nat) (ss : List ByteArray) (e : ByteArray) : Prop := RS w a len ss ∧ len ≤ maxLen ∧ (∀ s ∈ ss, s.size ≤ maxLen) ∧ e.size ≤ maxLen
section
variable {H : Type} {enc : TypeId × Value → H} {P : Program} {w : World} {base : Nat} {spare : Nat → Bool} {held : Bool}
theorem open_str0 {t : TypeId} {fuel : Nat} {v : Value} {x : DataW H × List MemPlace} (ht : P.underlying t = some .string) (h : DataW.trod enc P w base spare held fuel t [v] = some x) : ∃ s : ByteArray, v = .string s ∧ s.size ≤ maxLen := by
  obtain ⟨s, e, _, hw⟩ := DataW.trod_string ht h
  exact ⟨s, List.singleton_inj.1 e, hw⟩
theorem open_strs0 {t e : TypeId} {fuel : Nat} {v : Value} {x : DataW H × List MemPlace} (ht : P.underlying t = some (.slice e)) (he : P.underlying e = some .string) (hc : P.cellsOf e = 1) (h : DataW.trod enc P w base spare held fuel t [v] = some x) :
    ∃ (a : Option Addr) (len cap : Nat) (ss : List ByteArray), v = .slice a len cap ∧ RS w a len ss ∧ len ≤ maxLen ∧ ∀ s ∈ ss, s.size ≤ maxLen := by
  rcases Go.ChangeShapes.open_strings ht he hc h with ⟨hcs, _⟩ | ⟨a, len, cap, ss, hcs, _, hl, hm, hz, _, hcell, hsz⟩
  · exact ⟨none, 0, 0, [], List.singleton_inj.1 hcs, RS.none_, Nat.zero_le _, fun _ h => by cases h⟩
  · have hlen : len ≤ ss.length := by rw [hz]; split <;> omega
    refine ⟨some a, len, cap, ss.take len, List.singleton_inj.1 hcs, ⟨by simp; omega, by simp [svL]; omega, fun hn => ⟨a, rfl, ?_, fun j u hu => ?_⟩⟩, by omega, fun s hs => hsz s (List.mem_of_mem_take hs)⟩
    · have := block_lt_of_cell (hcell 0 (by omega)); rwa [block_of_add] at this
    · rw [svL_get] at hu
      obtain ⟨s, hs, rfl⟩ := Option.map_eq_some_iff.1 hu
      have hj : j < len := by
        have := (List.getElem?_eq_some_iff.1 hs).1
        simp at this; omega
      rw [List.getElem?_take_of_lt hj] at hs
      rw [hcell j (by omega), List.getD_eq_getElem?_getD, hs]; rfl
end
end

end Go.Proofs.YtlcjgppclclkoaaDoor
