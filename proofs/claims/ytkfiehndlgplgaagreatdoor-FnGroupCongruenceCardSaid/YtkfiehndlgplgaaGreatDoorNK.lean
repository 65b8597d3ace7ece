/-
  Srt.
-/
import Derived.Test.YtkfiehndlgplgaaGreatDoorShf
import Derived.Sort.OwnSorted
import Derived.Test.YtkfiehndlgplgaaGreatDoorNI
import Derived.Test.YtkfiehndlgplgaaGreatDoorNJ
namespace Go.Proofs.YtkfiehndlgplgaaGreatDoor
set_option maxRecDepth 100000
set_option linter.unusedVariables false
set_option linter.unusedSimpArgs false
set_option linter.unusedSectionVars false

/-! slices.SortFunc at charts, slices.SortedFunc of the values of a row of charts: the charts sorted by their lists, in a row of its own. -/
section
open Go.RowKit Go.Lib Go.Sort

theorem isAggCh : ∀ w, (isAgg 58).run Tryz.prog w = .ok true w := by intro w; kernel_rfl
theorem sizeCh : ∀ w, (Go.sizeOf 58).run Tryz.prog w = .ok 7 w := by intro w; kernel_rfl

theorem flat_eq (m : Nat) (ls : List (List Int)) : flatK (encL m) 7 ls.toArray = (cwc m ls).toArray := by
  apply Array.ext
  · simp [cwc_len]
  · intro t h1 h2
    have ht : t < ls.length * 7 := by simpa using h1
    have hq : t / 7 < ls.length := by omega
    have hL : ls[t / 7]? = some ls[t / 7] := List.getElem?_eq_getElem hq
    have e1 := cwc_get m ls (t / 7) _ hL (t % 7) (by omega)
    rw [show t / 7 * 7 + t % 7 = t by omega] at e1
    have e2 := get_flatK (encL m) 7 ls.toArray t (by simpa using ht)
    rw [getElem!_pos _ t h1] at e2
    rw [e2]
    have e3 : ls.toArray[t / 7]! = ls[t / 7] := by rw [getElem!_pos _ _ (by simpa using hq)]; simp
    rw [e3]
    have hlen : (encL m ls[t / 7]).length = 7 := rfl
    have e4 : (encL m ls[t / 7])[t % 7]! = (encL m ls[t / 7])[t % 7]'(by rw [hlen]; omega) := getElem!_pos _ _ _
    rw [e4]
    have e5 : (cwc m ls)[t]? = some ((encL m ls[t / 7])[t % 7]'(by rw [hlen]; omega)) := by rw [e1]; exact List.getElem?_eq_getElem (show t % 7 < (encL m ls[t / 7]).length by rw [hlen]; omega)
    rw [List.getElem?_eq_getElem (by rw [cwc_len]; exact ht)] at e5
    have := Option.some.inj e5
    simpa using this.symm

theorem heap_srt {w : World} {g n : Nat} {os : Array Obj} {cur : Array Value} {e : TypeId} {fr : Nat × Nat} (d : Array Value) (hb : w.heap[g]? = some (.cells cur e fr)) :
    (Go.Sort.grow (putRow id (Sort.ahead w n) g 0 d) os).heap[g]? = some (.cells (putCells id 0 d cur) e fr) := by
  have hg : g < w.heap.size := (Array.getElem?_eq_some_iff.1 hb).1
  rw [heap_grow_old _ _ (by simpa using hg)]
  simp [putRow, mapBlock, Sort.ahead, Array.getElem?_modify, hb, onCells]
theorem take_put (cur : Array Value) (ts : List Value) (h : ts.length ≤ cur.size) : (putCells id 0 ts.toArray cur).toList.take ts.length = ts := by
  apply List.ext_getElem?
  intro j
  by_cases hj : j < ts.length
  · rw [List.getElem?_take_of_lt hj, Array.getElem?_toList]
    simp [putCells, hj, show j < cur.size by omega]
  · rw [List.getElem?_take_eq_none (by omega), List.getElem?_eq_none (by omega)]
theorem grownBy_srt {w : World} {g n : Nat} {os : Array Obj} (d : Array Value) : w.grownBy (Go.Sort.grow (putRow id (Sort.ahead w n) g 0 d) os) (some g) := by
  refine ⟨rfl, rfl, rfl, by simp, fun k hk hne => ?_⟩
  rw [heap_grow_old _ _ (by simpa using hk)]
  have : g ≠ k := fun e => hne (by rw [e])
  simp [putRow, mapBlock, Sort.ahead, Array.getElem?_modify, this]
/-- behind the sort the same slice owns the sorted charts -/
theorem ownsRow_srt {w : World} {lo m n cp k : Nat} {os : Array Obj} {g : Nat} {ls ts : List (List Int)} (h : w.ownsRow lo 58 7 (.slice (some ⟨g, 0, none⟩) n cp) n (cwc m ls)) (hl : ls.length = n) (ht : ts.length = n) :
    (sortWorldK (encL m) 7 w g 0 k ts.toArray os).ownsRow lo 58 7 (.slice (some ⟨g, 0, none⟩) n cp) n (cwc m ts) ∧ w.grownBy (sortWorldK (encL m) 7 w g 0 k ts.toArray os) (some g) := by
  have e : sortWorldK (encL m) 7 w g 0 k ts.toArray os = Go.Sort.grow (putRow id (Sort.ahead w k) g 0 (cwc m ts).toArray) os := by
    unfold sortWorldK putRowK; rw [flat_eq]
  rw [e]
  refine ⟨⟨by rw [cwc_len, ht], .inr ?_⟩, grownBy_srt _⟩
  rcases h.2 with ⟨hv, _⟩ | ⟨g', cap, cur, hv, hlo, hb, h1, h2, h3, h4⟩
  · cases hv
  · injection hv with hv1 hv2 hv3
    have hg : g' = g := by injection hv1 with hv1; injection hv1 with hv1; exact hv1.symm
    subst hg
    subst hv3
    refine ⟨g', cp, _, rfl, hlo, heap_srt _ hb, h1, h2, by simp [putCells, h3], ?_⟩
    have hc : (cwc m ts).length = n * 7 := by rw [cwc_len, ht]
    rw [← hc]
    exact take_put cur _ (by rw [hc, h3]; exact Nat.mul_le_mul_right 7 h1)
theorem holds_of_own {w : World} {lo m n cp g : Nat} {ls : List (List Int)} (h : w.ownsRow lo 58 7 (.slice (some ⟨g, 0, none⟩) n cp) n (cwc m ls)) (hl : ls.length = n) : HoldsK (encL m) 7 w g 0 ls.toArray := by
  unfold HoldsK
  rw [flat_eq]
  intro j hj
  have hj' : j < (cwc m ls).length := by simpa using hj
  have hadd : (⟨g, 0, none⟩ : Addr).add j = ⟨g, j, none⟩ := by unfold Addr.add; split <;> simp_all
  refine ⟨?_, ?_⟩
  · have := h.cells rfl j _ (List.getElem?_eq_getElem hj')
    rw [hadd] at this
    rw [Nat.zero_add, this, getElem!_pos _ j (by simpa using hj')]
    simp
  · rcases h.2 with ⟨hv, _⟩ | ⟨g', cap, cur, hv, _, hb, _⟩
    · cases hv
    · injection hv with hv1
      have hg : g' = g := by injection hv1 with hv1; injection hv1 with hv1; exact hv1.symm
      subst hg
      simp [World.frozen?, hb]

theorem placed_of {ls : List (List Int)} {d' : Array (List Int)} (hp : PermIn 0 ls.toArray.size ls.toArray d') (hs : SortedIn (ltOf cf6) 0 ls.toArray.size d') : Placed ls d'.toList ∧ d'.toList.length = ls.length := by
  have hsz : d'.size = ls.length := by simpa using hp.1
  refine ⟨⟨?_, fun i j hij hj => ?_⟩, by simpa using hsz⟩
  · have h := hp.2.2
    have e1 : (d'.extract 0 ls.toArray.size).toList = d'.toList := by simp [← hsz]
    have e2 : (ls.toArray.extract 0 ls.toArray.size).toList = ls := by simp
    rwa [e1, e2] at h
  · have hj' : j < d'.size := by simpa using hj
    have h := hs i j (Nat.zero_le _) hij (by simpa using (by omega : j < ls.length))
    rw [lt6_of_cf, getElem!_pos d' j hj', getElem!_pos d' i (by omega)] at h
    have e1 : ∀ t (ht : t < d'.size), ent d'.toList t = d'[t] := fun t ht => by unfold ent; simp [ht]
    rw [e1 j hj', e1 i (by omega)]
    exact h

set_option maxHeartbeats 1000000 in
theorem sortCh_any (m g cp q : Nat) (ls : List (List Int)) (hn : ls.length = q + 1) (hn6 : q + 1 ≤ 1048576) (lo : Nat) (w : World) (h : w.ownsRow lo 58 7 (.slice (some ⟨g, 0, none⟩) (q + 1) cp) (q + 1) (cwc m ls)) :
    Calls Tryz.prog 147 #[.slice (some ⟨g, 0, none⟩) (q + 1) cp, .func (.func 127) #[] #[]] w fun e w' => e = .returned (.tuple #[]) ∧ ∃ S, Placed ls S ∧ S.length = q + 1 ∧ w'.ownsRow lo 58 7 (.slice (some ⟨g, 0, none⟩) (q + 1) cp) (q + 1) (cwc m S) ∧ w.grownBy w' (some g) := by
  have eg : ∀ args w, (callFunc 127 args).run Tryz.prog w = .ok (.enter 127 args) w := enters_of Tryz.func127 (by kernel_rfl) rfl
  have hsz : ls.toArray.size = q + 1 := by simpa using hn
  have hcon := AnyQ.slices_SortFunc Tryz.sortCh 7 isAggCh sizeCh (encL m) (fun _ => rfl) (fun x => c7_one m (ofL x)) cf6 swo6 127 #[] g 0 cp ls.toArray w eg (byList_lays m g 0 _ w) (holds_of_own h hn) (h.lt g rfl).2 (by omega)
  rw [hsz] at hcon
  refine hcon.mono ?_
  rintro e w' ⟨rfl, d', k, os, hp, hs, rfl⟩
  have hpl := placed_of (ls := ls) (by rw [hsz]; exact hp) (by rw [hsz]; exact hs)
  have hS : d'.toList.length = q + 1 := hpl.2.trans hn
  have hr := ownsRow_srt (k := k) (os := os) (ts := d'.toList) h hn hS
  exact ⟨rfl, _, hpl.1, hS, by simpa using hr.1, by simpa using hr.2⟩

set_option maxHeartbeats 1000000 in
theorem sortedFunc_any (g sb cp m q : Nat) (ls : List (List Int)) (hn : ls.length = q + 1) (hn6 : q + 1 ≤ 1048576) (w : World) (hg : g < w.heap.size) (hR : Chs w g m ls) (hS : Boxed w sb 65 (.slice (some ⟨g, 0, none⟩) (q + 1) cp)) :
    Calls Tryz.prog 138 #[.func (.func 148) #[] #[.pointer (some ⟨sb, 0, none⟩)], .func (.func 127) #[] #[]] w fun e w' => ∃ g' cp' S, e = .returned (.slice (some ⟨g', 0, none⟩) (q + 1) cp') ∧ Placed ls S ∧ S.length = q + 1 ∧ w'.ownsRow w.heap.size 58 7 (.slice (some ⟨g', 0, none⟩) (q + 1) cp') (q + 1) (cwc m S) ∧ Below w.heap.size w w' := by
  have hA := collect_any g sb cp m (q + 1) ls hn hn6 w hg hR hS
  have HN := Lib.hid hn
  clear hn hR hS
  go_enter Tryz.func138, Tryz.ntmps138
  go_wp2_with fail
  refine hA.mono ?_
  rintro e w1 ⟨v, rfl, hown, hb⟩
  obtain ⟨g', cp', rfl⟩ := ownsRow_succ hown
  go_wp2_with fail
  refine (sortCh_any m g' cp' q ls HN.out hn6 w.heap.size w1 hown).mono ?_
  rintro e w2 ⟨rfl, S, hpl, hSl, hown2, hgr⟩
  have hlo := (hown.lt g' rfl).1
  go_wp2
  go_ret
  exact ⟨g', cp', S, rfl, hpl, hSl, hown2, hb.grown hgr hb.size (fun j e => by cases e; exact hlo)⟩
end

end Go.Proofs.YtkfiehndlgplgaaGreatDoor
