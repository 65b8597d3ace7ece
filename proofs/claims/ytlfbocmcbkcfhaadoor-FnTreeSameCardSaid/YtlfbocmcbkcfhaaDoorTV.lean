/-
  Sm.
-/
import Derived.Lib.ConvBytes
import Derived.Laws.IdiomStrings
import Derived.Deep.RegionLaw
import Derived.Deep.RegionHeld3
import Derived.Test.YtlfbocmcbkcfhaaDoorTU
namespace Go.Proofs.YtlfbocmcbkcfhaaDoor
set_option maxRecDepth 100000
set_option linter.unusedVariables false
set_option linter.unusedSimpArgs false
set_option linter.unusedSectionVars false

/-! The laws' marks in slices of strings: laid, asked. -/
section
open Go.RowKit

theorem kcut0 {α : Type} {Q : Prop} (P : α → Prop) {F : α} (h1 : P F → Q) (h2 : P F) : Q := h1 h2
theorem own_below0 {w w' : World} {base size n : Nat} {e : TypeId} {v : Value} {xs : List Value} (h : w.ownsRow base e size v n xs) (hb : Below w.heap.size w w') : w'.ownsRow base e size v n xs :=
  h.kept (row := none) ⟨hb.os, hb.tape, hb.output, hb.size, fun k hk _ => hb.block k hk⟩ (by cases v.ownBlock <;> simp)
/-- the digits of a number, ahead of a text -/
def mtD : Nat → Nat → ByteArray → ByteArray
  | 0, _, out => out
  | f + 1, k, out => if k = 0 then out else mtD f (k / 10) (⟨#[UInt8.ofNat (48 + k % 10)]⟩ ++ out)
theorem mtD_fuel : ∀ (f f' k : Nat) (out : ByteArray), k ≤ f → k ≤ f' → mtD f k out = mtD f' k out
  | 0, 0, _, _, _, _ => rfl
  | 0, f' + 1, k, out, h, _ => by
    obtain rfl : k = 0 := by omega
    simp [mtD]
  | f + 1, 0, k, out, _, h => by
    obtain rfl : k = 0 := by omega
    simp [mtD]
  | f + 1, f' + 1, k, out, h, h' => by
    unfold mtD
    by_cases hk : k = 0
    · rw [if_pos hk, if_pos hk]
    · rw [if_neg hk, if_neg hk]
      exact mtD_fuel f f' _ _ (by omega) (by omega)
theorem mtD_step {k : Nat} (hk : 0 < k) (out : ByteArray) : mtD (k / 10) (k / 10) (⟨#[UInt8.ofNat (48 + k % 10)]⟩ ++ out) = mtD k k out := by
  obtain ⟨j, rfl⟩ : ∃ j, k = j + 1 := ⟨k - 1, by omega⟩
  conv => rhs; unfold mtD
  rw [if_neg (by omega)]
  exact mtD_fuel _ _ _ _ (Nat.le_refl _) (by omega)
/-- a mark's text -/
def mtB (k : Nat) : ByteArray := ⟨#[109]⟩ ++ mtD k k ⟨#[]⟩


/-- the marks k, k + 1, .. -/
def mkS (k n : Nat) : List ByteArray := (List.range n).map (fun j => mtB (k + j))
theorem mkS_length (k n : Nat) : (mkS k n).length = n := by simp [mkS]
theorem mkS_get {k n j : Nat} (h : j < n) : (mkS k n)[j]? = some (mtB (k + j)) := by simp [mkS, List.getElem?_range h]
theorem mkS_step (ss : List ByteArray) {k n t : Nat} (ht : t < n) (hn : ss.length = n) : (svL ((mkS k n).take t ++ ss.drop t)).set t (.string (mtB (k + t))) = svL ((mkS k n).take (t + 1) ++ ss.drop (t + 1)) := by
  unfold svL
  rw [← List.map_set]
  congr 1
  have hl : ((mkS k n).take t).length = t := by simp [mkS_length]; omega
  rw [List.set_append_right _ _ (by omega), hl, Nat.sub_self, List.drop_eq_getElem_cons (by omega : t < ss.length), List.set_cons_zero, List.take_add_one, mkS_get ht]
  simp
end

end Go.Proofs.YtlfbocmcbkcfhaaDoor
