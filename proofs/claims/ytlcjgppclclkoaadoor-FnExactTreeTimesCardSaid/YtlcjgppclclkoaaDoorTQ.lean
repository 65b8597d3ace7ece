/-
  To.
-/
import Derived.Test.YtlcjgppclclkoaaDoorTP
namespace Go.Proofs.YtlcjgppclclkoaaDoor
set_option maxRecDepth 100000
set_option linter.unusedVariables false
set_option linter.unusedSimpArgs false
set_option linter.unusedSectionVars false

/-! impl.TreeOf, impl.TreeReduced. -/
section
open Go.RowKit Go.Lib Go.Sort

theorem word_txt {s : ByteArray} (h : wordB s = true) : ∃ ws : List (Fin 4), s = txt ws ∧ ws.length ≤ 24 := by
  unfold wordB at h
  rw [Bool.and_eq_true, decide_eq_true_eq] at h
  obtain ⟨ws, e⟩ := word_of h.1
  have hs : s = txt ws := ByteArray.ext (Array.ext' (by rw [e, txt_list]))
  refine ⟨ws, hs, ?_⟩
  have := h.2
  rw [hs] at this
  simpa [txt, ByteArray.size] using this
theorem txt_size (ws : List (Fin 4)) : (txt ws).size = ws.length := by unfold txt; simp [ByteArray.size]
theorem txt_word {ws : List (Fin 4)} (h : ws.length ≤ 24) : wordB (txt ws) = true := by
  unfold wordB
  rw [txt_size, decide_eq_true h, Bool.and_true, txt_list, List.all_map, List.all_eq_true]
  exact fun c _ => isL_lt c
/-- the tree of a word is small -/
theorem sml_word {N : List (List (Fin 4))} (hnd : N.Nodup) {ws : List (Fin 4)} (hw : ws.length ≤ 24) (h : ∀ x, x ∈ N ↔ Begs [] [ws] x) : smlB N = true := by
  have hb : ∀ x ∈ N, ∃ t, t ≤ ws.length ∧ x = goW [] (ws.take t) := fun x hx => by
    obtain ⟨v, hv, t, ht, e⟩ := (h x).1 hx
    rw [List.mem_singleton.1 hv] at ht e
    exact ⟨t, ht, e⟩
  unfold smlB
  rw [Bool.and_eq_true, decide_eq_true_eq, List.all_eq_true]
  refine ⟨?_, fun x hx => ?_⟩
  · have hsub : N ⊆ (List.range (ws.length + 1)).map (fun t => goW [] (ws.take t)) := fun x hx => by
      obtain ⟨t, ht, e⟩ := hb x hx
      exact List.mem_map.2 ⟨t, List.mem_range.2 (by omega), e.symm⟩
    have := hnd.length_le_of_subset hsub
    simp at this
    omega
  · obtain ⟨t, ht, e⟩ := hb x hx
    have h1 := goW_len [] (ws.take t)
    rw [← e, List.length_take] at h1
    simp at h1
    exact decide_eq_true (by omega)
set_option maxHeartbeats 2000000 in
theorem treeOf_no (s : ByteArray) (hs : s.size ≤ 1048576) (hw : wordB s = false) (w : World) : Calls Tryd.prog 17 #[.string s] w fun e w' => e = .returned (.tuple #[.agg #[.slice none 0 0, .string ⟨#[]⟩], .bool false]) ∧ RowKit.Below w.heap.size w w' := by
  have hI := isWord_any s hs (w.alloc (.cells #[.slice none 0 0, .string ⟨#[]⟩] 29))
  rw [hw] at hI
  have hR := Blk.new w 29 #[.slice none 0 0, .string ⟨#[]⟩]
  have HI := Lib.hid hI
  have HR := Lib.hid hR
  clear hI hR hw
  go_enter Tryd.func17, Tryd.ntmps17
  go_wp2_with fail
  refine HI.out.mono ?_
  rintro e w1 ⟨rfl, hB⟩
  have hR1 := HR.out.below hB (by simp)
  have hB1 := ((RowKit.Below.refl _ w).alloc (Nat.le_refl _) (.cells #[.slice none 0 0, .string ⟨#[]⟩] 29)).trans (hB.mono (by simp))
  have r0 : w1.cell? ⟨w.heap.size, 0, none⟩ = some (.slice none 0 0) := hR1.cell 0
  have r1 : w1.cell? ⟨w.heap.size, 1, none⟩ = some (.string ⟨#[]⟩) := hR1.cell 1
  have f0 := hR1.frozen 0
  have f1 := hR1.frozen 1
  have hlt := hR1.lt
  have HB1 := Lib.hid ((hB1.setCell (p := ⟨w.heap.size, 0, none⟩) (Nat.le_refl _) (.slice none 0 0)).setCell (p := ⟨w.heap.size, 1, none⟩) (Nat.le_refl _) (.string ⟨#[]⟩))
  clear hR1 hB hB1
  go_wp2
  refine bodyPost_ret (v := .tuple #[.agg #[.slice none 0 0, .string ⟨#[]⟩], .bool false]) (by simp [results, Tryd.results17, go_sem, hlt, r0, r1]) rfl ⟨rfl, HB1.out⟩
set_option maxHeartbeats 2000000 in
theorem treeOf_yes (ws : List (Fin 4)) (hw : ws.length ≤ 24) (w : World) : Calls Tryd.prog 17 #[.string (txt ws)] w fun e w' => ∃ S g cp, Ord S ∧ (∀ x, x ∈ S ↔ Begs [] [ws] x) ∧ e = .returned (.tuple #[.agg #[.slice (some ⟨g, 0, none⟩) S.length cp, .string (strOf (redS ws))], .bool true]) ∧ w'.ownsRow w.heap.size 9 1 (.slice (some ⟨g, 0, none⟩) S.length cp) S.length (wvL S) ∧ RowKit.Below w.heap.size w w' := by
  have hI := isWord_any (txt ws) (by rw [txt_size]; omega) (w.alloc (.cells #[.slice none 0 0, .string ⟨#[]⟩] 29))
  rw [txt_word hw] at hI
  have hR := Blk.new w 29 #[.slice none 0 0, .string ⟨#[]⟩]
  have HI := Lib.hid hI
  have HR := Lib.hid hR
  have HS : Hid (∀ W : World, Calls Tryd.prog 47 #[.slice none 0 0, .string (txt ws)] W fun e w' => ∃ N' m', e = .returned (.agg #[.pointer (some ⟨m' [], 0, none⟩), .pointer (some ⟨m' (goW [] ws), 0, none⟩)]) ∧ Gr w' W.heap.size N' m' ∧ goW [] ws ∈ N' ∧ RowKit.Below W.heap.size W w' ∧ ∀ x, x ∈ N' ↔ Begs [] [ws] x) := fun W => by
    have := sprout_any [] ws none 0 0 W Reads.none_ (by simp) (by omega) (by omega)
    simpa using this
  have HW := Lib.hid hw
  clear hI hR hw
  go_enter Tryd.func17, Tryd.ntmps17
  go_wp2_with fail
  refine HI.out.mono ?_
  rintro e w1 ⟨rfl, hB⟩
  have hR1 := HR.out.below hB (by simp)
  have hB1 := ((RowKit.Below.refl _ w).alloc (Nat.le_refl _) (.cells #[.slice none 0 0, .string ⟨#[]⟩] 29)).trans (hB.mono (by simp))
  have hs1 : w.heap.size < w1.heap.size := hR1.lt
  clear hB
  go_wp2_with fail
  refine (HS.out w1).mono ?_
  rintro e w2 ⟨N, m, rfl, hG, hin, hb2, hX⟩
  have hsm := sml_word hG.tre.nd HW.out hX
  have hNl : N.length ≤ 60 := by
    unfold smlB at hsm
    rw [Bool.and_eq_true, decide_eq_true_eq] at hsm
    exact hsm.1
  have hR2 := hR1.below hb2 hs1
  have hB2 := hB1.trans (hb2.mono (Nat.le_of_lt hs1))
  have HT := Lib.hid (told_any w1.heap.size N m (goW [] ws) hin w2 hG (by omega))
  have HX := Lib.hid hX
  have HSM := Lib.hid hsm
  have hs2 : w.heap.size < w2.heap.size := hR2.lt
  clear hR1 hB1 hG hin hb2 hX hsm hNl
  go_wp2_with fail
  refine HT.out.mono ?_
  rintro e w3 ⟨S, hperm, hord, hb3, hcase⟩
  rcases hcase with ⟨_, g, cp, rfl, hown⟩ | ⟨hf, _⟩
  · have hR3 := hR2.below hb3 hs2
    have hB3 := hB2.trans (hb3.mono (Nat.le_of_lt hs2))
    have r0 : w3.cell? ⟨w.heap.size, 0, none⟩ = some (.slice none 0 0) := hR3.cell 0
    have r1 : w3.cell? ⟨w.heap.size, 1, none⟩ = some (.string ⟨#[]⟩) := hR3.cell 1
    have f0 := hR3.frozen 0
    have f1 := hR3.frozen 1
    have hlt := hR3.lt
    have hSl := hperm.length_eq
    rw [← hSl] at hown ⊢
    have hn1 := own_blk_ne hown hR3 (show 9 ≠ 29 by decide)
    have ho1 := ownsRow_setCell_other (a := ⟨w.heap.size, 0, none⟩) hown hn1 (.slice (some ⟨g, 0, none⟩) S.length cp)
    have hn2 := own_blk_ne ho1 (hR3.set_ 0 (.slice (some ⟨g, 0, none⟩) S.length cp)) (show 9 ≠ 29 by decide)
    have HO := Lib.hid (own_down (ownsRow_setCell_other (a := ⟨w.heap.size, 1, none⟩) ho1 hn2 (.string (strOf (goW [] ws)))) (Nat.le_of_lt hs2))
    have HB3 := Lib.hid ((hB3.setCell (p := ⟨w.heap.size, 0, none⟩) (Nat.le_refl _) (.slice (some ⟨g, 0, none⟩) S.length cp)).setCell (p := ⟨w.heap.size, 1, none⟩) (Nat.le_refl _) (.string (strOf (goW [] ws))))
    have HM : Hid (∀ x, x ∈ S ↔ Begs [] [ws] x) := fun x => (hperm.mem_iff).trans (HX.out x)
    clear hn1 ho1 hn2 hR3 hB3 hown hperm hSl hR2 hB2 hb3
    go_wp2
    refine bodyPost_ret (v := .tuple #[.agg #[.slice (some ⟨g, 0, none⟩) S.length cp, .string (strOf (goW [] ws))], .bool true]) (by simp [results, Tryd.results17, go_sem, hlt, r0, r1]) rfl ⟨S, g, cp, hord, HM.out, rfl, HO.out, HB3.out⟩
  · exact absurd (HSM.out.symm.trans hf) (by decide)
set_option maxHeartbeats 1000000 in
theorem implReduced_no (s : ByteArray) (hs : s.size ≤ 1048576) (hw : wordB s = false) (w : World) : Calls Tryd.prog 14 #[.string s] w fun e w' => e = .returned (.tuple #[.string ⟨#[]⟩, .bool false]) ∧ RowKit.Below w.heap.size w w' := by
  have HT := Lib.hid (treeOf_no s hs hw w)
  clear hw
  go_enter Tryd.func14, Tryd.ntmps14
  go_wp2_with fail
  refine HT.out.mono ?_
  rintro e w1 ⟨rfl, hB⟩
  have HB := Lib.hid (hB.alloc hB.size (.cells #[.slice none 0 0, .string ⟨#[]⟩] 29))
  clear hB
  go_wp2
  go_ret2
  exact ⟨rfl, HB.out⟩
set_option maxHeartbeats 1000000 in
theorem implReduced_yes (ws : List (Fin 4)) (hw : ws.length ≤ 24) (w : World) : Calls Tryd.prog 14 #[.string (txt ws)] w fun e w' => e = .returned (.tuple #[.string (strOf (redS ws)), .bool true]) ∧ RowKit.Below w.heap.size w w' := by
  have HT := Lib.hid (treeOf_yes ws hw w)
  clear hw
  go_enter Tryd.func14, Tryd.ntmps14
  go_wp2_with fail
  refine HT.out.mono ?_
  rintro e w1 ⟨S, g, cp, _, _, rfl, _, hB⟩
  have HB := Lib.hid (hB.alloc hB.size (.cells #[.slice (some ⟨g, 0, none⟩) S.length cp, .string (strOf (redS ws))] 29))
  clear hB
  go_wp2
  go_ret2
  exact ⟨rfl, HB.out⟩
end

end Go.Proofs.YtlcjgppclclkoaaDoor
