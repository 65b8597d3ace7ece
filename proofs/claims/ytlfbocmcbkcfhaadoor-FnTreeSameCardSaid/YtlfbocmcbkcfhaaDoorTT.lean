/-
  Sv.
-/
import Derived.WalkKit
import Derived.Deep.QuietTactic
import Derived.BigQuiet
import Derived.Outline
import Derived.Sort.Walk0
import Derived.Test.YtlfbocmcbkcfhaaDoorM0
namespace Go.Proofs.YtlfbocmcbkcfhaaDoor
set_option maxRecDepth 100000
set_option linter.unusedVariables false
set_option linter.unusedSimpArgs false
set_option linter.unusedSectionVars false

/-! Slices of strings in memory; the laws' own small functions on them and on trees: copies, sizes, equality. -/
section
open Go.RowKit

theorem beq_str (s t : ByteArray) : (s.toList == t.toList) = decide (s = t) := by
  rw [ByteArray.toList_eq, ByteArray.toList_eq]
  by_cases h : s = t
  · subst h; simp
  · rw [decide_eq_false h]
    rw [beq_eq_false_iff_ne]
    exact fun e => h (ByteArray.ext (Array.ext' e))
def svL (ss : List ByteArray) : List Value := ss.map Value.string
theorem svL_length (ss : List ByteArray) : (svL ss).length = ss.length := by simp [svL]
theorem svL_get (ss : List ByteArray) (k : Nat) : (svL ss)[k]? = (ss[k]?).map Value.string := by simp [svL]
/-- a slice value that reads as a list of strings -/
def RS (w : World) (A : Option Addr) (n : Nat) (ss : List ByteArray) : Prop := ss.length = n ∧ Reads w w.heap.size 1 A n (svL ss)
section
variable {w w' : World} {A : Option Addr} {n : Nat} {ss : List ByteArray}
theorem RS.len (h : RS w A n ss) : ss.length = n := h.1
theorem RS.below (h : RS w A n ss) (hb : Below w.heap.size w w') : RS w' A n ss := ⟨h.1, (h.2.below hb).more hb.size⟩
theorem RS.at_ (h : RS w A n ss) {k : Nat} (hk : k < n) : ∃ (ad : Addr) (s : ByteArray), A = some ad ∧ ad.block < w.heap.size ∧ ss[k]? = some s ∧ w.cell? (ad.add k) = some (.string s) := by
  obtain ⟨ad, u, e, hb, hu, hc⟩ := h.2.at_ hk
  have hl := h.1
  rw [svL_get, List.getElem?_eq_getElem (by omega)] at hu
  simp at hu
  exact ⟨ad, ss[k], e, hb, List.getElem?_eq_getElem _, by rw [hc, ← hu]⟩
theorem RS.of_own {base : Nat} {e : TypeId} {c : Nat} (h : w.ownsRow base e 1 (.slice A n c) n (svL ss)) : RS w A n ss := ⟨by have := h.1; simpa [svL] using this, Reads.of_own h⟩
theorem RS.none_ : RS w none 0 [] := ⟨rfl, Reads.none_⟩
end
theorem fill_str (ss : List ByteArray) {n k : Nat} {s : ByteArray} (hk : k < n) (hn : ss.length = n) (hs : ss[k]? = some s) : (svL (ss.take k ++ List.replicate (n - k) ⟨#[]⟩)).set k (.string s) = svL (ss.take (k + 1) ++ List.replicate (n - (k + 1)) ⟨#[]⟩) := by
  unfold svL
  rw [← List.map_set]
  congr 1
  obtain ⟨d, hd⟩ : ∃ d, n - k = d + 1 := ⟨n - k - 1, by omega⟩
  have hl : (ss.take k).length = k := by simp; omega
  rw [hd, List.replicate_succ, List.set_append_right _ _ (by omega), hl, Nat.sub_self, List.set_cons_zero, List.take_add_one, hs, show n - (k + 1) = d from by omega]
  simp
theorem take_str (ss : List ByteArray) {k : Nat} {s : ByteArray} (hs : ss[k]? = some s) : ss.take (k + 1) = ss.take k ++ [s] := by rw [List.take_add_one, hs]; rfl
theorem info_strv : (Tryd.prog.info? 9).map (fun i => (i.zero, i.size, i.bytes)) = some (some (.string ⟨#[]⟩), 1, 16) := by kernel_rfl


end

end Go.Proofs.YtlfbocmcbkcfhaaDoor
