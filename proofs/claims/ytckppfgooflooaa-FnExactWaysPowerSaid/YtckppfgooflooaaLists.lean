/-
  A slice of slices of ints that came in, as the guide's opening tells it: it reads as a list of lists.
-/
import Derived.Test.YtckppfgooflooaaSSW
import Derived.Deep.Matrix
namespace Go.Proofs.Ytckppfgooflooaa
set_option maxRecDepth 100000
open Go.RowKit

/-- what a walk is told of a slice of slices of ints that came in -/
def IsRows (w : World) (a : Option Addr) (len : Nat) (Ls : List (List Int)) : Prop := RSS w a len Ls ∧ len ≤ maxLen ∧ ∀ L ∈ Ls, L.length ≤ maxLen
theorem isRows_none (w : World) : IsRows w none 0 [] := ⟨RSS.none_, Nat.zero_le _, fun _ h => by cases h⟩
theorem ri_cells {w : World} {A : Option Addr} {l c : Nat} {zs : List Int} (hlc : l ≤ c) (hz : zs.length = c) (h0 : A = none → c = 0) (hc : ∀ a, A = some a → ∀ i, i < c → w.cell? (a.add i) = some (.int .i64 (zs.getD i 0))) : RI w A l (zs.take l) := by
  refine ⟨by simp; omega, by simp [ivs]; omega, fun hn => ?_⟩
  cases A with
  | none => have := h0 rfl; omega
  | some x =>
    refine ⟨x, rfl, ?_, fun j u hu => ?_⟩
    · have := block_lt_of_cell (hc x rfl 0 (by omega)); rwa [block_of_add] at this
    · have hj : j < (zs.take l).length := by
        rcases Nat.lt_or_ge j (zs.take l).length with h | h
        · exact h
        · rw [List.getElem?_eq_none (by simpa [ivs] using h)] at hu; cases hu
      have hjl : j < l := by simp at hj; omega
      rw [ivs_get, List.getElem?_take_of_lt hjl] at hu
      rw [hc x rfl j (by omega), ← hu, List.getD_eq_getElem?_getD, List.getElem?_eq_getElem (by omega)]
      rfl
theorem isRows_of {w : World} {a : Addr} {len cap : Nat} {A : Nat → Option Addr} {L C : Nat → Nat} {Z : Nat → List Int} (hl : len ≤ cap) (hm : cap ≤ maxLen)
    (hr : ∀ r, r < cap → w.cell? (a.add r) = some (.slice (A r) (L r) (C r)) ∧ L r ≤ C r ∧ C r ≤ maxLen ∧ (Z r).length = C r ∧ (∀ n ∈ Z r, (Lit.int .i64 n).wf = true) ∧ (A r = none → C r = 0) ∧
      ∀ a', A r = some a' → 0 ≤ a'.block ∧ ∀ c, c < C r → w.cell? (a'.add c) = some (.int .i64 ((Z r).getD c 0))) :
    IsRows w (some a) len ((List.range len).map fun r => (Z r).take (L r)) := by
  refine ⟨⟨by simp, (List.range len).map (fun r => .slice (A r) (L r) (C r)), ⟨by simp, fun hn => ⟨a, rfl, ?_, fun j u hu => ?_⟩⟩, fun i M hi => ?_⟩, by omega, fun M hM => ?_⟩
  · have := block_lt_of_cell (hr 0 (by omega)).1; rwa [block_of_add] at this
  · have hj : j < len := by
      rcases Nat.lt_or_ge j len with h | h
      · exact h
      · rw [List.getElem?_eq_none (by simpa using h)] at hu; cases hu
    rw [List.getElem?_map, List.getElem?_range hj] at hu
    rw [(hr j (by omega)).1]; exact hu
  · have hj : i < len := by
      rcases Nat.lt_or_ge i len with h | h
      · exact h
      · rw [List.getElem?_eq_none (by simpa using h)] at hi; cases hi
    rw [List.getElem?_map, List.getElem?_range hj] at hi
    simp only [Option.map_some, Option.some.injEq] at hi
    subst hi
    obtain ⟨_, h2, _, h4, _, h6, h7⟩ := hr i (by omega)
    have hl' : ((Z i).take (L i)).length = L i := by simp; omega
    rw [hl']
    exact ⟨A i, C i, by rw [List.getElem?_map, List.getElem?_range hj]; rfl, ri_cells h2 h4 h6 (fun a' e => (h7 a' e).2)⟩
  · simp only [List.mem_map, List.mem_range] at hM
    obtain ⟨r, hr', rfl⟩ := hM
    obtain ⟨_, h2, h3, h4, _⟩ := hr r (by omega)
    simp; omega
end Go.Proofs.Ytckppfgooflooaa
