/-
  Ss.
-/
import Derived.Test.YtlcjgppclclkoaaDoorShs
import Derived.Shelf.SlSortCmp.Whole1
import Derived.Test.YtlcjgppclclkoaaDoorTL
namespace Go.Proofs.YtlcjgppclclkoaaDoor
set_option maxRecDepth 100000
set_option linter.unusedVariables false
set_option linter.unusedSimpArgs false
set_option linter.unusedSectionVars false

/-! slices.SortFunc at strings, by byLength. -/
section
open Go.RowKit Go.Lib Go.Sort

def encW (u : List (Fin 4)) : Value := .string (strOf u)
theorem wvL_enc (vs : List (List (Fin 4))) : wvL vs = vs.map encW := rfl
theorem heap_srw {w : World} {g n : Nat} {os : Array Obj} {cur : Array Value} {e : TypeId} {fr : Nat × Nat} (d : Array (List (Fin 4))) (hb : w.heap[g]? = some (.cells cur e fr)) :
    (Go.Sort.grow (putRow encW (Sort.ahead w n) g 0 d) os).heap[g]? = some (.cells (putCells encW 0 d cur) e fr) := by
  have hg : g < w.heap.size := (Array.getElem?_eq_some_iff.1 hb).1
  rw [heap_grow_old _ _ (by simpa using hg)]
  simp [putRow, mapBlock, Sort.ahead, Array.getElem?_modify, hb, onCells]
theorem grownBy_srw {w : World} {g n : Nat} {os : Array Obj} (d : Array (List (Fin 4))) : w.grownBy (Go.Sort.grow (putRow encW (Sort.ahead w n) g 0 d) os) (some g) := by
  refine ⟨rfl, rfl, rfl, by simp, fun k hk hne => ?_⟩
  rw [heap_grow_old _ _ (by simpa using hk)]
  have : g ≠ k := fun e => hne (by rw [e])
  simp [putRow, mapBlock, Sort.ahead, Array.getElem?_modify, this]
theorem take_putw (cur : Array Value) (ts : List (List (Fin 4))) (h : ts.length ≤ cur.size) : (putCells encW 0 ts.toArray cur).toList.take ts.length = wvL ts := by
  rw [wvL_enc]
  apply List.ext_getElem?
  intro j
  by_cases hj : j < ts.length
  · rw [List.getElem?_take_of_lt hj, Array.getElem?_toList]
    simp [putCells, hj, show j < cur.size by omega]
  · rw [List.getElem?_take_eq_none (by omega), List.getElem?_eq_none (by simp; omega)]
theorem ownsRow_srw {w : World} {lo n cp k g : Nat} {os : Array Obj} {e : TypeId} {ls ts : List (List (Fin 4))} (h : w.ownsRow lo e 1 (.slice (some ⟨g, 0, none⟩) n cp) n (wvL ls)) (ht : ts.length = n) :
    (Go.Sort.grow (putRow encW (Sort.ahead w k) g 0 ts.toArray) os).ownsRow lo e 1 (.slice (some ⟨g, 0, none⟩) n cp) n (wvL ts) ∧ w.grownBy (Go.Sort.grow (putRow encW (Sort.ahead w k) g 0 ts.toArray) os) (some g) := by
  refine ⟨⟨by simp [wvL, ht], .inr ?_⟩, grownBy_srw _⟩
  rcases h.2 with ⟨hv, _⟩ | ⟨g', cap, cur, hv, hlo, hb, h1, h2, h3, h4⟩
  · cases hv
  · injection hv with hv1 hv2 hv3
    have hg : g' = g := by injection hv1 with hv1; injection hv1 with hv1; exact hv1.symm
    subst hg
    subst hv3
    refine ⟨g', cp, _, rfl, hlo, heap_srw _ hb, h1, h2, by simp [putCells, h3], ?_⟩
    rw [Nat.mul_one, ← ht]
    exact take_putw cur _ (by omega)
theorem holds_own1 {w : World} {lo n cp g : Nat} {e : TypeId} {ls : List (List (Fin 4))} (h : w.ownsRow lo e 1 (.slice (some ⟨g, 0, none⟩) n cp) n (wvL ls)) : Holds encW w g 0 ls.toArray := by
  intro j hj
  have hj' : j < ls.length := by simpa using hj
  have hadd : (⟨g, 0, none⟩ : Addr).add j = ⟨g, j, none⟩ := by unfold Addr.add; split <;> simp_all
  refine ⟨?_, ?_⟩
  · have := h.cells rfl j (encW ls[j]) (by rw [wvL_enc, List.getElem?_map, List.getElem?_eq_getElem hj']; rfl)
    rw [hadd] at this
    rw [Nat.zero_add, this, getElem!_pos _ j (by simpa using hj')]
    simp
  · rcases h.2 with ⟨hv, _⟩ | ⟨g', cap, cur, hv, _, hb, _⟩
    · cases hv
    · injection hv with hv1
      have hg : g' = g := by injection hv1 with hv1; injection hv1 with hv1; exact hv1.symm
      subst hg
      simp [World.frozen?, hb]
/-- what is sorted, and each word once, is in order -/
theorem ord_of {ls : List (List (Fin 4))} (hnd : ls.Nodup) {d' : Array (List (Fin 4))} (hp : PermIn 0 ls.toArray.size ls.toArray d') (hs : SortedIn (ltOf leL) 0 ls.toArray.size d') : d'.toList.Perm ls ∧ Ord d'.toList := by
  have hsz : d'.size = ls.length := by simpa using hp.1
  have hperm : d'.toList.Perm ls := by
    have h := hp.2.2
    have e1 : (d'.extract 0 ls.toArray.size).toList = d'.toList := by simp [← hsz]
    have e2 : (ls.toArray.extract 0 ls.toArray.size).toList = ls := by simp
    rwa [e1, e2] at h
  refine ⟨hperm, ?_⟩
  have hnd' : d'.toList.Nodup := hperm.nodup_iff.2 hnd
  unfold Ord
  rw [List.pairwise_iff_getElem]
  intro i j hi hj hij
  have hi' : i < d'.size := by simpa using hi
  have hj' : j < d'.size := by simpa using hj
  have h := hs i j (Nat.zero_le _) hij (by simpa using (by omega : j < ls.length))
  rw [getElem!_pos d' j hj', getElem!_pos d' i hi'] at h
  have h1 : ¬ ltW d'[j] d'[i] := fun e => by rw [(ltOf_leL _ _).2 e] at h; cases h
  rcases ltW_tri d'[i] d'[j] with e | e | e
  · simpa using e
  · exfalso
    have := (List.nodup_iff_pairwise_ne.1 hnd')
    rw [List.pairwise_iff_getElem] at this
    exact this i j hi hj hij (by simpa using e)
  · exact absurd e h1
theorem byLength_lays (blk off size : Nat) (w : World) : CmpLays1 Tryd.prog 73 #[] encW leL blk off size w := fun k os dk _ x y =>
  (byLength_any x y _).mono fun e w' ⟨he, o, hw⟩ => ⟨he, 0, #[o], by
    rw [hw, Go.Sort.alloc_eq_grow]; rfl⟩
set_option maxHeartbeats 1000000 in
theorem sortSt_any (g cp n : Nat) (ls : List (List (Fin 4))) (hnd : ls.Nodup) (hn : ls.length = n) (hn6 : n ≤ 1048576) (lo : Nat) (w : World) (h : w.ownsRow lo 9 1 (.slice (some ⟨g, 0, none⟩) n cp) n (wvL ls)) :
    Calls Tryd.prog 72 #[.slice (some ⟨g, 0, none⟩) n cp, .func (.func 73) #[] #[]] w fun e w' => e = .returned (.tuple #[]) ∧ ∃ S, S.Perm ls ∧ Ord S ∧ w'.ownsRow lo 9 1 (.slice (some ⟨g, 0, none⟩) n cp) n (wvL S) ∧ w.grownBy w' (some g) := by
  have eg : ∀ args w, (callFunc 73 args).run Tryd.prog w = .ok (.enter 73 args) w := enters_of Tryd.func73 (by kernel_rfl) rfl
  have hsz : ls.toArray.size = n := by simpa using hn
  have hcon := Any.slices_SortFunc Tryd.sortSt encW (fun _ => rfl) leL swoL 73 #[] g 0 cp ls.toArray w eg (byLength_lays g 0 _ w) (holds_own1 h) (h.lt g rfl).2 (by omega)
  rw [hsz] at hcon
  refine hcon.mono ?_
  rintro e w' ⟨rfl, d', k, os, hp, hs, rfl⟩
  have hpl := ord_of hnd (by rw [hsz]; exact hp) (by rw [hsz]; exact hs)
  have hS : d'.toList.length = n := hpl.1.length_eq.trans hn
  have hr := ownsRow_srw (k := k) (os := os) (ts := d'.toList) h hS
  exact ⟨rfl, _, hpl.1, hpl.2, by unfold sortWorld; simpa using hr.1, by unfold sortWorld; simpa using hr.2⟩
end

end Go.Proofs.YtlcjgppclclkoaaDoor
