/-
  Graphs that came in, as the guide's opening tells them: a number and two lists.
-/
import Derived.Test.YthliifgjolgmgaaDoorBase
import Derived.Lib.SmallJoins
import Derived.ChangeShapes
import Derived.ChangeSlices
namespace Go.Proofs.YthliifgjolgmgaaDoor
set_option maxRecDepth 100000
open Go.RowKit

/-- what a walk is told of a graph that came in -/
structure IsGraph (w : World) (k : Int) (a : Option Addr) (n : Nat) (zs : List Int) (b : Option Addr) (m : Nat) (ys : List Int) : Prop where
  num : (Lit.int .i64 k).wf = true
  rA : RI w a n zs
  rB : RI w b m ys
  lA : n ≤ maxLen
  lB : m ≤ maxLen
  wA : ∀ z ∈ zs, (Lit.int .i64 z).wf = true
  wB : ∀ z ∈ ys, (Lit.int .i64 z).wf = true
section
variable {H : Type} {enc : TypeId × Value → H} {P : Program} {w : World} {base : Nat} {spare : Nat → Bool} {held : Bool}
theorem open_int0 {t : TypeId} {fuel : Nat} {v : Value} {x : DataW H × List MemPlace} (ht : P.underlying t = some (.int .i64)) (h : DataW.trod enc P w base spare held fuel t [v] = some x) : ∃ k : Int, v = .int .i64 k ∧ (Lit.int .i64 k).wf = true := by
  obtain ⟨k, e, _, hw⟩ := DataW.trod_int ht h
  exact ⟨k, List.singleton_inj.1 e, hw⟩
theorem ri_none {w : World} : RI w none 0 [] := ⟨rfl, Reads.none_⟩
theorem open_ints0 {t e : TypeId} {fuel : Nat} {v : Value} {x : DataW H × List MemPlace} (ht : P.underlying t = some (.slice e)) (he : P.underlying e = some (.int .i64)) (hc : P.cellsOf e = 1) (h : DataW.trod enc P w base spare held fuel t [v] = some x) :
    ∃ (a : Option Addr) (len cap : Nat) (zs : List Int), v = .slice a len cap ∧ RI w a len zs ∧ len ≤ maxLen ∧ ∀ z ∈ zs, (Lit.int .i64 z).wf = true := by
  rcases Go.ChangeShapes.open_ints ht he hc h with ⟨hcs, _⟩ | ⟨a, len, cap, zs, hcs, _, hl, hm, hz, _, hcell, hw⟩
  · exact ⟨none, 0, 0, [], List.singleton_inj.1 hcs, ri_none, Nat.zero_le _, fun _ h => by cases h⟩
  · have hlen : len ≤ zs.length := by rw [hz]; split <;> omega
    refine ⟨some a, len, cap, zs.take len, List.singleton_inj.1 hcs, ⟨by simp; omega, by simp [ivs]; omega, fun hn => ⟨a, rfl, ?_, fun j u hu => ?_⟩⟩, by omega, fun z hz' => hw z (List.mem_of_mem_take hz')⟩
    · have := block_lt_of_cell (hcell 0 (by omega)); rwa [block_of_add] at this
    · rw [ivs_get] at hu
      obtain ⟨s, hs, rfl⟩ := Option.map_eq_some_iff.1 hu
      have hj : j < len := by
        have := (List.getElem?_eq_some_iff.1 hs).1
        simp at this; omega
      rw [List.getElem?_take_of_lt hj] at hs
      rw [hcell j (by omega), List.getD_eq_getElem?_getD, hs]; rfl
end
end Go.Proofs.YthliifgjolgmgaaDoor
