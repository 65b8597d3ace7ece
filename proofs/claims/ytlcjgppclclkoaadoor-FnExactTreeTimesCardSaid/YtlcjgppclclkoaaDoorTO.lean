/-
  Td.
-/
import Derived.Test.YtlcjgppclclkoaaDoorTM
namespace Go.Proofs.YtlcjgppclclkoaaDoor
set_option maxRecDepth 100000
set_option linter.unusedVariables false
set_option linter.unusedSimpArgs false
set_option linter.unusedSectionVars false

/-! (impl.tree).told. -/
section
open Go.RowKit Go.Lib Go.Sort

/-- few and short enough -/
def smlB (N : List (List (Fin 4))) : Bool := decide (N.length ≤ 60) && N.all (fun u => decide (u.length ≤ 24))
theorem ord_last {S : List (List (Fin 4))} (h : Ord S) {l : List (Fin 4)} (hl : S[S.length - 1]? = some l) {u : List (Fin 4)} (hu : u ∈ S) : u.length ≤ l.length := by
  obtain ⟨i, hi, rfl⟩ := List.getElem_of_mem hu
  obtain ⟨hj, rfl⟩ := List.getElem?_eq_some_iff.1 hl
  by_cases e : i = S.length - 1
  · subst e; exact Nat.le_refl _
  · have := List.pairwise_iff_getElem.1 h i (S.length - 1) hi hj (by omega)
    rcases this with h | h <;> omega
theorem sml_iff {S : List (List (Fin 4))} (h : Ord S) {l : List (Fin 4)} (hl : S[S.length - 1]? = some l) : smlB S = (decide (S.length ≤ 60) && decide (l.length ≤ 24)) := by
  unfold smlB
  congr 1
  by_cases e : l.length ≤ 24
  · rw [decide_eq_true e, List.all_eq_true]
    exact fun u hu => decide_eq_true (Nat.le_trans (ord_last h hl hu) e)
  · rw [decide_eq_false e, List.all_eq_false]
    exact ⟨l, List.mem_of_getElem? hl, by simpa using e⟩
theorem sml_perm {S N : List (List (Fin 4))} (h : S.Perm N) : smlB S = smlB N := by
  unfold smlB
  rw [h.length_eq]
  congr 1
  rw [Bool.eq_iff_iff, List.all_eq_true, List.all_eq_true]
  exact ⟨fun k u hu => k u (h.mem_iff.2 hu), fun k u hu => k u (h.mem_iff.1 hu)⟩

set_option maxHeartbeats 4000000 in
theorem told_any (base : Nat) (N : List (List (Fin 4))) (m : List (Fin 4) → Nat) (e : List (Fin 4)) (he : e ∈ N) (w : World) (hG : Gr w base N m) (hNL : N.length ≤ 400000) :
    Calls Tryd.prog 48 #[.agg #[.pointer (some ⟨m [], 0, none⟩), .pointer (some ⟨m e, 0, none⟩)]] w fun e' w' => ∃ S, S.Perm N ∧ Ord S ∧ Below w.heap.size w w' ∧
      ((smlB N = true ∧ ∃ g cp, e' = .returned (.tuple #[.agg #[.slice (some ⟨g, 0, none⟩) N.length cp, .string (strOf e)], .bool true]) ∧ w'.ownsRow w.heap.size 9 1 (.slice (some ⟨g, 0, none⟩) N.length cp) N.length (wvL S)) ∨
       (smlB N = false ∧ e' = .returned (.tuple #[.agg #[.slice none 0 0, .string ⟨#[]⟩], .bool false]))) := by
  have hp := pre_perm hG.tre (Nat.le_refl N.length)
  have hnd := pre_nodup (N := N) N.length []
  have hpl := hp.length_eq
  obtain ⟨q, hq⟩ : ∃ q, N.length = q + 1 := by
    have := List.length_pos_of_mem hG.tre.nil
    exact ⟨N.length - 1, by omega⟩
  have hBT : Below w.heap.size w ((w.alloc (.cells #[.pointer (some ⟨m [], 0, none⟩), .pointer (some ⟨m e, 0, none⟩)] 54)).alloc (.cells #[.slice none 0 0, .string ⟨#[]⟩] 29)) := ((Below.refl _ w).alloc (Nat.le_refl _) _).alloc (by simp) _
  have hR : Blk ((w.alloc (.cells #[.pointer (some ⟨m [], 0, none⟩), .pointer (some ⟨m e, 0, none⟩)] 54)).alloc (.cells #[.slice none 0 0, .string ⟨#[]⟩] 29)) (w.heap.size + 1) 29 #[.slice none 0 0, .string ⟨#[]⟩] := by
    have := Blk.new (w.alloc (.cells #[.pointer (some ⟨m [], 0, none⟩), .pointer (some ⟨m e, 0, none⟩)] 54)) 29 #[.slice none 0 0, .string ⟨#[]⟩]
    rwa [World.size_alloc] at this
  have hW := walked_any base N m e he _ (hG.below hBT) hNL
  have hs2 : ((w.alloc (.cells #[.pointer (some ⟨m [], 0, none⟩), .pointer (some ⟨m e, 0, none⟩)] 54)).alloc (.cells #[.slice none 0 0, .string ⟨#[]⟩] 29)).heap.size = w.heap.size + 1 + 1 := by simp
  rw [hs2] at hW
  have HW := Lib.hid hW
  have HP := Lib.hid hp
  have HND := Lib.hid hnd
  have HBT := Lib.hid hBT
  have HR := Lib.hid hR
  have HPL := Lib.hid hpl
  have HNL := Lib.hid hNL
  have HQ := Lib.hid hq
  clear hW hp hnd hBT hR hpl hs2 hG hNL hq
  go_enter Tryd.func48, Tryd.ntmps48
  go_wp2_with fail
  refine HW.out.mono ?_
  rintro e' V ⟨vt, vw, rfl, hx, hd, hb⟩
  obtain ⟨A1, c1, rfl⟩ := own_shape4 hx
  obtain ⟨g, cp, rfl, hg1, hg2⟩ := hd.form (by have := HQ.out; omega)
  have hR1 := (HR.out.below hb (by simp)).alloc (.cells #[.slice A1 (preT N N.length []).length c1, .slice (some ⟨g, 0, none⟩) N.length cp, .string (strOf e)] 65)
  have hB1 := (HBT.out.trans (hb.mono (by omega))).alloc (Nat.le_trans (Nat.le_succ _) (Nat.le_trans (Nat.le_succ _) (Nat.le_trans hg1 (Nat.le_of_lt hg2)))) (.cells #[.slice A1 (preT N N.length []).length c1, .slice (some ⟨g, 0, none⟩) N.length cp, .string (strOf e)] 65)
  have hWk := Blk.new V 65 #[.slice A1 (preT N N.length []).length c1, .slice (some ⟨g, 0, none⟩) N.length cp, .string (strOf e)]
  have hd1 := hd.alloc (.cells #[.slice A1 (preT N N.length []).length c1, .slice (some ⟨g, 0, none⟩) N.length cp, .string (strOf e)] 65)
  have HSO := Lib.hid (sortSt_any g cp N.length (preF N N.length []) HND.out HPL.out (by have := HNL.out; omega) (w.heap.size + 1 + 1) _ hd1)
  have HR1 := Lib.hid hR1
  have HB1 := Lib.hid hB1
  have HWk := Lib.hid hWk
  have HD1 := Lib.hid hd1
  clear hx hd hb hR1 hB1 hWk hd1 HW HBT HR
  go_wp2_with fail
  refine HSO.out.mono ?_
  rintro e' V2 ⟨rfl, S, hperm, hord, hown, hgr⟩
  have hR2 := HR1.out.grown hgr (own_blk_ne HD1.out HR1.out (by decide)).symm
  have hW2 := HWk.out.grown hgr (own_blk_ne HD1.out HWk.out (by decide)).symm
  have hB2 := HB1.out.grown hgr HB1.out.size (fun k e => by cases e; omega)
  have hSl : S.length = N.length := hperm.length_eq.trans HPL.out
  obtain ⟨l, hl⟩ : ∃ l, S[S.length - 1]? = some l := ⟨_, List.getElem?_eq_getElem (by have := HQ.out; omega)⟩
  have hsm := sml_iff hord hl
  rw [sml_perm (hperm.trans HP.out), hSl] at hsm
  have hlc := hown.cellAt (S.length - 1) (by have := HQ.out; omega)
  rw [wvL, List.getElem?_map, hl, hSl, HQ.out, Nat.add_sub_cancel] at hlc
  have w0 : V2.cell? ⟨V.heap.size, 0, none⟩ = some (.slice A1 (preT N N.length []).length c1) := hW2.cell 0
  have w1 : V2.cell? ⟨V.heap.size, 1, none⟩ = some (.slice (some ⟨g, 0, none⟩) N.length cp) := hW2.cell 1
  have w2 : V2.cell? ⟨V.heap.size, 2, none⟩ = some (.string (strOf e)) := hW2.cell 2
  have r0 : V2.cell? ⟨w.heap.size + 1, 0, none⟩ = some (.slice none 0 0) := hR2.cell 0
  have r1 : V2.cell? ⟨w.heap.size + 1, 1, none⟩ = some (.string ⟨#[]⟩) := hR2.cell 1
  have f0 := hR2.frozen 0
  have f1 := hR2.frozen 1
  have hlt := hR2.lt
  have hls : (strOf l).size = l.length := strOf_size l
  have HFIN := Lib.hid (show S.Perm N ∧ Ord S from ⟨hperm.trans HP.out, hord⟩)
  have HBZ : ∀ x y : Value, Below w.heap.size w ((V2.setCell ⟨w.heap.size + 1, 0, none⟩ x).setCell ⟨w.heap.size + 1, 1, none⟩ y) := fun x y => (hB2.setCell (p := ⟨w.heap.size + 1, 0, none⟩) (Nat.le_succ _) _).setCell (p := ⟨w.heap.size + 1, 1, none⟩) (Nat.le_succ _) _
  have HOZ : ∀ x y : Value, ((V2.setCell ⟨w.heap.size + 1, 0, none⟩ x).setCell ⟨w.heap.size + 1, 1, none⟩ y).ownsRow w.heap.size 9 1 (.slice (some ⟨g, 0, none⟩) N.length cp) N.length (wvL S) := fun x y => own_down (ownsRow_setCell_other (ownsRow_setCell_other hown (own_blk_ne hown hR2 (by decide)) x) (own_blk_ne (ownsRow_setCell_other hown (own_blk_ne hown hR2 (by decide)) x) (hR2.set_ 0 x) (by decide)) y) (Nat.le_trans (Nat.le_succ _) (Nat.le_succ _))
  have HBX := Lib.hid HBZ
  have HOX := Lib.hid HOZ
  have HSM := Lib.hid hsm
  clear HBZ HOZ hsm
  rw [HQ.out] at w1 HOX HSM ⊢
  generalize (preT N N.length []).length = pl at *
  have hqb : (q : Int) ≤ 400000 := by have h1 := HNL.out; have h2 := HQ.out; omega
  by_cases h60 : q + 1 ≤ 60
  · by_cases h24 : l.length ≤ 24
    · have HT : Hid (smlB N = true) := by
        show _ = _
        rw [HSM.out, decide_eq_true h60, decide_eq_true h24]; rfl
      have h60i : ¬ (60 < (q : Int) + 1) := by omega
      have h24i : ¬ (24 < (l.length : Int)) := by omega
      clear hR2 hW2 hB2 hown hgr hperm hord hl h60 h24 HSM HP HPL HND HNL HSO HR1 HB1 HWk HD1 he hg1 hg2
      go_wp2
      refine bodyPost_ret (v := .tuple #[.agg #[.slice (some ⟨g, 0, none⟩) (q + 1) cp, .string (strOf e)], .bool true]) (by simp [results, Tryd.results48, go_sem, hlt, r0, r1]) rfl ⟨S, HFIN.out.1, HFIN.out.2, HBX.out _ _, .inl ⟨HT.out, g, cp, by rw [HQ.out], by rw [HQ.out]; exact HOX.out _ _⟩⟩
    · have HT : Hid (smlB N = false) := by
        show _ = _
        rw [HSM.out, decide_eq_false h24, Bool.and_false]
      have h60i : ¬ (60 < (q : Int) + 1) := by omega
      have h24i : (24 < (l.length : Int)) := by omega
      clear hR2 hW2 hB2 hown hgr hperm hord hl h60 h24 HSM HP HPL HND HNL HSO HR1 HB1 HWk HD1 he hg1 hg2
      go_wp2
      refine bodyPost_ret (v := .tuple #[.agg #[.slice none 0 0, .string ⟨#[]⟩], .bool false]) (by simp [results, Tryd.results48, go_sem, hlt, r0, r1]) rfl ⟨S, HFIN.out.1, HFIN.out.2, HBX.out _ _, .inr ⟨HT.out, rfl⟩⟩
  · have HT : Hid (smlB N = false) := by
      show _ = _
      rw [HSM.out, decide_eq_false h60, Bool.false_and]
    have h60i : (60 < (q : Int) + 1) := by omega
    clear hR2 hW2 hB2 hown hgr hperm hord hl h60 HSM HP HPL HND HNL HSO HR1 HB1 HWk HD1 he hg1 hg2
    go_wp2
    refine bodyPost_ret (v := .tuple #[.agg #[.slice none 0 0, .string ⟨#[]⟩], .bool false]) (by simp [results, Tryd.results48, go_sem, hlt, r0, r1]) rfl ⟨S, HFIN.out.1, HFIN.out.2, HBX.out _ _, .inr ⟨HT.out, rfl⟩⟩
end

end Go.Proofs.YtlcjgppclclkoaaDoor
