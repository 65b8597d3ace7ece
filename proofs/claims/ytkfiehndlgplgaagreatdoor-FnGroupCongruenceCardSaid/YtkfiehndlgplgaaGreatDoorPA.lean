/-
  An Ao.
-/
import Derived.Lib.SlicesCompact
import Derived.Test.YtkfiehndlgplgaaGreatDoorShi
import Derived.Shelf.Sort.Plain
import Derived.Shelf.Slices.CompactI
import Derived.Shelf.Slices.In.SortNone
import Derived.Sort.OwnSorted
import Derived.Test.YtkfiehndlgplgaaGreatDoorM0
namespace Go.Proofs.YtkfiehndlgplgaaGreatDoor
set_option maxRecDepth 100000
set_option linter.unusedVariables false
set_option linter.unusedSimpArgs false
set_option linter.unusedSectionVars false

/-! Ascending lists, each number once: a list sorted and compacted is the one that has its numbers; no program. -/
section
open Go.Lib

def Asc (S : List Int) : Prop := S.Pairwise (· < ·)
theorem asc_ext : ∀ {S T : List Int}, Asc S → Asc T → (∀ x, x ∈ S ↔ x ∈ T) → S = T
  | [], [], _, _, _ => rfl
  | [], t :: T, _, _, h => by have := (h t).2 (List.mem_cons_self ..); cases this
  | s :: S, [], _, _, h => by have := (h s).1 (List.mem_cons_self ..); cases this
  | s :: S, t :: T, hS, hT, h => by
    have hs := List.pairwise_cons.1 hS
    have ht := List.pairwise_cons.1 hT
    have e : s = t := by
      rcases List.mem_cons.1 ((h s).1 (List.mem_cons_self ..)) with e | e
      · exact e
      · rcases List.mem_cons.1 ((h t).2 (List.mem_cons_self ..)) with e2 | e2
        · exact e2.symm
        · have := ht.1 s e; have := hs.1 t e2; omega
    subst e
    rw [asc_ext hs.2 ht.2 (fun x => ?_)]
    constructor
    · intro hx
      rcases List.mem_cons.1 ((h x).1 (List.mem_cons_of_mem _ hx)) with e | e
      · subst e; have := hs.1 x hx; omega
      · exact e
    · intro hx
      rcases List.mem_cons.1 ((h x).2 (List.mem_cons_of_mem _ hx)) with e | e
      · subst e; have := ht.1 x hx; omega
      · exact e
theorem Asc.filter {S : List Int} (h : Asc S) (p : Int → Bool) : Asc (S.filter p) := List.Pairwise.filter p h
theorem asc_up (n : Nat) : Asc ((List.range n).map (fun (i : Nat) => (i : Int))) := by
  unfold Asc
  rw [List.pairwise_map]
  exact List.pairwise_lt_range.imp (fun h => by omega)

/-- sorted, then each once -/
def nums (l : List Int) : List Int := compact (l.mergeSort (fun x y => decide (x ≤ y)))
theorem compactUp_asc {zs : List Int} (hs : zs.Pairwise (· ≤ ·)) : ∀ m, m ≤ zs.length → Asc (compactUpTo zs.toArray m) ∧ ∀ x, x ∈ compactUpTo zs.toArray m ↔ ∃ j, j < m ∧ zs[j]? = some x
  | 0, _ => ⟨by unfold compactUpTo Asc; simp, fun x => by unfold compactUpTo; simp⟩
  | m + 1, hm => by
    obtain ⟨h1, h2⟩ := compactUp_asc hs m (by omega)
    have hg : ∀ j (hj : j < zs.length), zs.toArray[j]! = zs[j] := fun j hj => by simp [hj]
    rw [compactUpTo_succ]
    cases hk : keeps zs.toArray m
    · rw [if_neg (by simp), List.append_nil]
      refine ⟨h1, fun x => ?_⟩
      rw [h2]
      have hk2 : m ≠ 0 ∧ zs.toArray[m]! = zs.toArray[m - 1]! := by
        unfold keeps at hk
        have := of_decide_eq_false hk
        exact ⟨fun e => this (.inl e), Decidable.byContradiction fun e => this (.inr e)⟩
      rw [hg m (by omega), hg (m - 1) (by omega)] at hk2
      constructor
      · rintro ⟨j, hj, e⟩; exact ⟨j, by omega, e⟩
      · rintro ⟨j, hj, e⟩
        by_cases ej : j = m
        · subst ej
          rw [List.getElem?_eq_getElem (by omega)] at e
          injection e with e
          exact ⟨j - 1, by omega, by rw [List.getElem?_eq_getElem (by omega), ← e, hk2.2]⟩
        · exact ⟨j, by omega, e⟩
    · rw [if_pos rfl]
      refine ⟨?_, fun x => ?_⟩
      · refine List.pairwise_append.2 ⟨h1, List.pairwise_singleton _ _, fun a ha b hb => ?_⟩
        rw [List.mem_singleton] at hb
        obtain ⟨j, hj, e⟩ := (h2 a).1 ha
        rw [List.getElem?_eq_getElem (by omega)] at e
        injection e with e
        unfold keeps at hk
        have hk2 := of_decide_eq_true hk
        have hne : zs.toArray[m]! ≠ zs.toArray[m - 1]! := by
          rcases hk2 with e | e
          · omega
          · exact e
        rw [hg m (by omega), hg (m - 1) (by omega)] at hne
        rw [hb, hg m (by omega), ← e]
        have l1 : zs[m - 1] ≤ zs[m] := List.pairwise_iff_getElem.1 hs (m - 1) m (by omega) (by omega) (by omega)
        have l2 : zs[j] ≤ zs[m - 1] := by
          by_cases ej : j = m - 1
          · subst ej; exact Int.le_refl _
          · exact List.pairwise_iff_getElem.1 hs j (m - 1) (by omega) (by omega) (by omega)
        omega
      · rw [List.mem_append, h2, List.mem_singleton, hg m (by omega)]
        constructor
        · rintro (⟨j, hj, e⟩ | e)
          · exact ⟨j, by omega, e⟩
          · exact ⟨m, by omega, by rw [List.getElem?_eq_getElem (by omega), e]⟩
        · rintro ⟨j, hj, e⟩
          by_cases ej : j = m
          · subst ej
            rw [List.getElem?_eq_getElem (by omega)] at e
            injection e with e
            exact .inr e.symm
          · exact .inl ⟨j, by omega, e⟩
theorem sort_le (l : List Int) : (l.mergeSort (fun x y => decide (x ≤ y))).Pairwise (· ≤ ·) :=
  (List.pairwise_mergeSort (le := fun (x y : Int) => decide (x ≤ y)) (fun a b c h1 h2 => by simp only [decide_eq_true_eq] at *; omega) (fun a b => by simp only [Bool.or_eq_true, decide_eq_true_eq]; omega) l).imp (fun h => of_decide_eq_true h)
theorem nums_asc (l : List Int) : Asc (nums l) := (compactUp_asc (sort_le l) _ (Nat.le_refl _)).1
theorem nums_mem (l : List Int) (x : Int) : x ∈ nums l ↔ x ∈ l := by
  refine ((compactUp_asc (sort_le l) _ (Nat.le_refl _)).2 x).trans ?_
  rw [← (List.mergeSort_perm l (fun x y => decide (x ≤ y))).mem_iff, List.mem_iff_getElem?]
  constructor
  · rintro ⟨j, _, e⟩; exact ⟨j, e⟩
  · rintro ⟨j, e⟩
    refine ⟨j, ?_, e⟩
    rcases Nat.lt_or_ge j (l.mergeSort (fun x y => decide (x ≤ y))).length with h | h
    · exact h
    · rw [List.getElem?_eq_none h] at e; cases e
theorem nums_len (l : List Int) : (nums l).length ≤ l.length := by
  unfold nums
  have h1 := (List.mergeSort_perm l (fun x y => decide (x ≤ y))).length_eq
  have h2 : (compact (l.mergeSort (fun x y => decide (x ≤ y)))).length ≤ (l.mergeSort (fun x y => decide (x ≤ y))).length := by
    unfold compact compactUpTo
    rw [List.length_map]
    exact Nat.le_trans (List.length_filter_le _ _) (by simp)
  omega
theorem nums_is {l S : List Int} (hS : Asc S) (h : ∀ x, x ∈ S ↔ x ∈ l) : nums l = S := asc_ext (nums_asc l) hS (fun x => by rw [nums_mem, h])
end

/-! slices.Sort and slices.Compact of a row of ints. -/
section
open Go.RowKit Go.Lib Go.Sort

theorem heap_putI {w : World} {g n : Nat} {cur : Array Value} {e : TypeId} {fr : Nat × Nat} (d : Array Int) (hb : w.heap[g]? = some (.cells cur e fr)) :
    (putRow (Value.int .i64) (Sort.ahead w n) g 0 d).heap[g]? = some (.cells (putCells (Value.int .i64) 0 d cur) e fr) := by
  simp [putRow, mapBlock, Sort.ahead, Array.getElem?_modify, hb, onCells]
theorem take_putI (cur : Array Value) (ts : List Int) (h : ts.length ≤ cur.size) : (putCells (Value.int .i64) 0 ts.toArray cur).toList.take ts.length = ivs ts := by
  apply List.ext_getElem?
  intro j
  by_cases hj : j < ts.length
  · rw [List.getElem?_take_of_lt hj, Array.getElem?_toList, ivs_get]
    simp [putCells, hj, show j < cur.size by omega]
  · rw [List.getElem?_take_eq_none (by omega), ivs_get, List.getElem?_eq_none (by omega)]; rfl
theorem size_putI (cur : Array Value) (d : Array Int) : (putCells (Value.int .i64) 0 d cur).size = cur.size := by simp [putCells]
theorem grownBy_putI {w : World} {g n : Nat} (d : Array Int) : w.grownBy (putRow (Value.int .i64) (Sort.ahead w n) g 0 d) (some g) := by
  refine ⟨rfl, rfl, rfl, by simp [putRow, mapBlock, Sort.ahead], fun k hk hne => ?_⟩
  have : g ≠ k := fun e => hne (by rw [e])
  simp [putRow, mapBlock, Sort.ahead, Array.getElem?_modify, this]
theorem grownBy_growI {w v : World} {g : Nat} (os : Array Obj) (h : w.grownBy v (some g)) : w.grownBy (Go.Sort.grow v os) (some g) := by
  refine ⟨h.os, h.tape, h.output, by have := h.size; simp; omega, fun k hk hne => ?_⟩
  rw [heap_grow_old _ _ (by have := h.size; omega)]
  exact h.block k hk hne
theorem holds_ownI {w : World} {lo n cp g : Nat} {zs : List Int} (h : w.ownsRow lo 3 1 (.slice (some ⟨g, 0, none⟩) n cp) n (ivs zs)) (hl : zs.length = n) : Holds (Value.int .i64) w g 0 zs.toArray := by
  intro j hj
  have hj' : j < zs.length := by simpa using hj
  refine ⟨?_, h.frozenAt (0 + j)⟩
  have := h.cellAt j (by omega)
  rw [ivs_get, List.getElem?_eq_getElem hj'] at this
  rw [Nat.zero_add, this]
  simp [hj']
theorem own_putI {w v : World} {lo n k cp g : Nat} {zs ts us : List Int} (h : w.ownsRow lo 3 1 (.slice (some ⟨g, 0, none⟩) n cp) n (ivs zs)) (hg : w.heap[g]?.isSome = true → ∀ cur e fr, w.heap[g]? = some (.cells cur e fr) → v.heap[g]? = some (.cells (putCells (Value.int .i64) 0 (ts ++ us).toArray cur) e fr)) (ht : (ts ++ us).length = n) (hk : ts.length = k) :
    v.ownsRow lo 3 1 (.slice (some ⟨g, 0, none⟩) k cp) k (ivs ts) := by
  refine ⟨by rw [ivs_length, hk]; omega, .inr ?_⟩
  rcases h.2 with ⟨hv, _⟩ | ⟨g', cap, cur, hv, hlo, hb, h1, h2, h3, h4⟩
  · cases hv
  · injection hv with hv1 hv2 hv3
    have hg' : g' = g := by injection hv1 with hv1; injection hv1 with hv1; exact hv1.symm
    subst hg'
    subst hv3
    have hkn : k ≤ n := by rw [← hk, ← ht, List.length_append]; omega
    refine ⟨g', cp, _, rfl, hlo, hg (by rw [hb]; rfl) _ _ _ hb, by omega, h2, by rw [size_putI]; exact h3, ?_⟩
    have hc : (ts ++ us).length ≤ cur.size := by rw [ht, h3]; omega
    have := take_putI cur (ts ++ us) hc
    have e2 : ((putCells (Value.int .i64) 0 (ts ++ us).toArray cur).toList.take (ts ++ us).length).take k = (ivs (ts ++ us)).take k := by rw [this]
    rw [List.take_take, Nat.min_eq_left (by rw [ht]; exact hkn)] at e2
    rw [Nat.mul_one, e2, ivs, List.map_append, List.take_left' (by simp [hk])]; rfl
end

end Go.Proofs.YtkfiehndlgplgaaGreatDoor
