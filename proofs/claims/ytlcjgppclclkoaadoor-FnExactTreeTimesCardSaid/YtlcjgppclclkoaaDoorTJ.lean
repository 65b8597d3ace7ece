/-
  Wd.
-/
import Derived.Laws.EntriesVeiled
import Derived.Test.YtlcjgppclclkoaaDoorTI
namespace Go.Proofs.YtlcjgppclclkoaaDoor
set_option maxRecDepth 100000
set_option linter.unusedVariables false
set_option linter.unusedSimpArgs false
set_option linter.unusedSectionVars false

/-! (impl.tree).walked. -/
section
open Go.RowKit

theorem fl_two {N : List (List (Fin 4))} {k : Nat} {u : List (Fin 4)} : ∀ L : List (Fin 4), (∀ c ∈ L, kidB N u c = true → (preT N k (c :: u)).length + 2 = 2 * (preF N k (c :: u)).length) →
    (L.flatMap (fun c => if kidB N u c = true then c :: (preT N k (c :: u) ++ [ivL c]) else [])).length = 2 * (L.flatMap (fun c => if kidB N u c = true then preF N k (c :: u) else [])).length := by
  intro L
  induction L with
  | nil => intro _; rfl
  | cons c L ih =>
    intro h
    rw [List.flatMap_cons, List.flatMap_cons, List.length_append, List.length_append, ih (fun d hd => h d (List.mem_cons_of_mem _ hd))]
    by_cases hk : kidB N u c = true
    · rw [if_pos hk, if_pos hk]
      have := h c List.mem_cons_self hk
      simp
      omega
    · rw [if_neg hk, if_neg hk]; simp
theorem preT_len {N : List (List (Fin 4))} (T : Tre N) : ∀ (k : Nat) (u : List (Fin 4)), u ∈ N → N.length ≤ u.length + k → (preT N k u).length + 2 = 2 * (preF N k u).length := by
  intro k
  induction k with
  | zero =>
    intro u hu hk
    have := T.len hu
    omega
  | succ k ih =>
    intro u hu hk
    have := fl_two (N := N) (k := k) (u := u) lets (fun c _ hc => ih (c :: u) (kid_iff.1 hc).2 (by simp; omega))
    show (lets.flatMap _).length + 2 = 2 * (u :: lets.flatMap _).length
    rw [this]
    simp
    omega
theorem own_down {w : World} {base base' size n : Nat} {e : TypeId} {v : Value} {xs : List Value} (h : w.ownsRow base e size v n xs) (hb : base' ≤ base) : w.ownsRow base' e size v n xs :=
  ⟨h.1, h.2.imp id fun ⟨g, cap, cur, e1, h1, r⟩ => ⟨g, cap, cur, e1, Nat.le_trans hb h1, r⟩⟩
theorem own_shape4 {w : World} {base size n : Nat} {e : TypeId} {v : Value} {xs : List Value} (h : w.ownsRow base e size v n xs) : ∃ A c, v = .slice A n c := by
  rcases h.2 with ⟨rfl, hx⟩ | ⟨g', cap, cur, rfl, _⟩
  · obtain rfl : n = 0 := hx
    exact ⟨_, _, rfl⟩
  · exact ⟨_, _, rfl⟩
set_option maxHeartbeats 2000000 in
theorem walked_any (base : Nat) (N : List (List (Fin 4))) (m : List (Fin 4) → Nat) (e : List (Fin 4)) (he : e ∈ N) (w : World) (hG : Gr w base N m) (hNL : N.length ≤ 400000) :
    Calls Tryd.prog 62 #[.agg #[.pointer (some ⟨m [], 0, none⟩), .pointer (some ⟨m e, 0, none⟩)]] w fun e' w' => ∃ vt vw, e' = .returned (.agg #[vt, vw, .string (strOf e)]) ∧ w'.ownsRow w.heap.size 5 1 vt (preT N N.length []).length (bvL (preT N N.length [])) ∧ w'.ownsRow w.heap.size 9 1 vw N.length (wvL (preF N N.length [])) ∧ Below w.heap.size w w' := by
  have hp := (pre_perm hG.tre (Nat.le_refl N.length)).length_eq
  have hq := preT_len hG.tre N.length [] hG.tre.nil (by simp)
  have hee : enF e (preF N N.length []) ⟨#[]⟩ = strOf e := if_pos ((pre_perm hG.tre (Nat.le_refl N.length)).mem_iff.2 he)
  have z1 : (w.alloc (.cells #[.pointer (some ⟨m [], 0, none⟩), .pointer (some ⟨m e, 0, none⟩)] 54)).heap.size = w.heap.size + 1 := by simp
  have z2 : ((w.alloc (.cells #[.pointer (some ⟨m [], 0, none⟩), .pointer (some ⟨m e, 0, none⟩)] 54)).alloc (.cells #[.slice none 0 0, .slice none 0 0, .string ⟨#[]⟩] 65)).heap.size = w.heap.size + 1 + 1 := by simp
  have z3 : (((w.alloc (.cells #[.pointer (some ⟨m [], 0, none⟩), .pointer (some ⟨m e, 0, none⟩)] 54)).alloc (.cells #[.slice none 0 0, .slice none 0 0, .string ⟨#[]⟩] 65)).alloc (.cells #[.slice none 0 0, .slice none 0 0, .string ⟨#[]⟩] 65)).heap.size = w.heap.size + 1 + 1 + 1 := by simp
  have hT : Blk ((((w.alloc (.cells #[.pointer (some ⟨m [], 0, none⟩), .pointer (some ⟨m e, 0, none⟩)] 54)).alloc (.cells #[.slice none 0 0, .slice none 0 0, .string ⟨#[]⟩] 65)).alloc (.cells #[.slice none 0 0, .slice none 0 0, .string ⟨#[]⟩] 65)).alloc (.cells #[.func (.func 78) #[] #[.pointer (some ⟨w.heap.size + 1 + 1, 0, none⟩), .pointer (some ⟨w.heap.size, 0, none⟩), .pointer (some ⟨w.heap.size + 1 + 1 + 1, 0, none⟩)]] 85)) w.heap.size 54 #[.pointer (some ⟨m [], 0, none⟩), .pointer (some ⟨m e, 0, none⟩)] := (((Blk.new w _ _).alloc _).alloc _).alloc _
  have hR : Blk ((((w.alloc (.cells #[.pointer (some ⟨m [], 0, none⟩), .pointer (some ⟨m e, 0, none⟩)] 54)).alloc (.cells #[.slice none 0 0, .slice none 0 0, .string ⟨#[]⟩] 65)).alloc (.cells #[.slice none 0 0, .slice none 0 0, .string ⟨#[]⟩] 65)).alloc (.cells #[.func (.func 78) #[] #[.pointer (some ⟨w.heap.size + 1 + 1, 0, none⟩), .pointer (some ⟨w.heap.size, 0, none⟩), .pointer (some ⟨w.heap.size + 1 + 1 + 1, 0, none⟩)]] 85)) (w.heap.size + 1) 65 #[.slice none 0 0, .slice none 0 0, .string ⟨#[]⟩] := by
    have := Blk.new (w.alloc (.cells #[.pointer (some ⟨m [], 0, none⟩), .pointer (some ⟨m e, 0, none⟩)] 54)) 65 #[.slice none 0 0, .slice none 0 0, .string ⟨#[]⟩]
    rw [z1] at this
    exact (this.alloc _).alloc _
  have hWb : Blk ((((w.alloc (.cells #[.pointer (some ⟨m [], 0, none⟩), .pointer (some ⟨m e, 0, none⟩)] 54)).alloc (.cells #[.slice none 0 0, .slice none 0 0, .string ⟨#[]⟩] 65)).alloc (.cells #[.slice none 0 0, .slice none 0 0, .string ⟨#[]⟩] 65)).alloc (.cells #[.func (.func 78) #[] #[.pointer (some ⟨w.heap.size + 1 + 1, 0, none⟩), .pointer (some ⟨w.heap.size, 0, none⟩), .pointer (some ⟨w.heap.size + 1 + 1 + 1, 0, none⟩)]] 85)) (w.heap.size + 1 + 1) 65 #[.slice none 0 0, .slice none 0 0, .string ⟨#[]⟩] := by
    have := Blk.new ((w.alloc (.cells #[.pointer (some ⟨m [], 0, none⟩), .pointer (some ⟨m e, 0, none⟩)] 54)).alloc (.cells #[.slice none 0 0, .slice none 0 0, .string ⟨#[]⟩] 65)) 65 #[.slice none 0 0, .slice none 0 0, .string ⟨#[]⟩]
    rw [z2] at this
    exact this.alloc _
  have hFb : Blk ((((w.alloc (.cells #[.pointer (some ⟨m [], 0, none⟩), .pointer (some ⟨m e, 0, none⟩)] 54)).alloc (.cells #[.slice none 0 0, .slice none 0 0, .string ⟨#[]⟩] 65)).alloc (.cells #[.slice none 0 0, .slice none 0 0, .string ⟨#[]⟩] 65)).alloc (.cells #[.func (.func 78) #[] #[.pointer (some ⟨w.heap.size + 1 + 1, 0, none⟩), .pointer (some ⟨w.heap.size, 0, none⟩), .pointer (some ⟨w.heap.size + 1 + 1 + 1, 0, none⟩)]] 85)) (w.heap.size + 1 + 1 + 1) 85 #[.func (.func 78) #[] #[.pointer (some ⟨w.heap.size + 1 + 1, 0, none⟩), .pointer (some ⟨w.heap.size, 0, none⟩), .pointer (some ⟨w.heap.size + 1 + 1 + 1, 0, none⟩)]] := by
    have := Blk.new (((w.alloc (.cells #[.pointer (some ⟨m [], 0, none⟩), .pointer (some ⟨m e, 0, none⟩)] 54)).alloc (.cells #[.slice none 0 0, .slice none 0 0, .string ⟨#[]⟩] 65)).alloc (.cells #[.slice none 0 0, .slice none 0 0, .string ⟨#[]⟩] 65)) 85 #[.func (.func 78) #[] #[.pointer (some ⟨w.heap.size + 1 + 1, 0, none⟩), .pointer (some ⟨w.heap.size, 0, none⟩), .pointer (some ⟨w.heap.size + 1 + 1 + 1, 0, none⟩)]]
    rw [z3] at this
    exact this
  have hB4 : Below w.heap.size w ((((w.alloc (.cells #[.pointer (some ⟨m [], 0, none⟩), .pointer (some ⟨m e, 0, none⟩)] 54)).alloc (.cells #[.slice none 0 0, .slice none 0 0, .string ⟨#[]⟩] 65)).alloc (.cells #[.slice none 0 0, .slice none 0 0, .string ⟨#[]⟩] 65)).alloc (.cells #[.func (.func 78) #[] #[.pointer (some ⟨w.heap.size + 1 + 1, 0, none⟩), .pointer (some ⟨w.heap.size, 0, none⟩), .pointer (some ⟨w.heap.size + 1 + 1 + 1, 0, none⟩)]] 85)) := ((((Below.refl _ w).alloc (Nat.le_refl _) _).alloc (by omega) _).alloc (by omega) _).alloc (by omega) _
  clear z1 z2 z3
  have HC : ∃ W4, W4 = ((((w.alloc (.cells #[.pointer (some ⟨m [], 0, none⟩), .pointer (some ⟨m e, 0, none⟩)] 54)).alloc (.cells #[.slice none 0 0, .slice none 0 0, .string ⟨#[]⟩] 65)).alloc (.cells #[.slice none 0 0, .slice none 0 0, .string ⟨#[]⟩] 65)).alloc (.cells #[.func (.func 78) #[] #[.pointer (some ⟨w.heap.size + 1 + 1, 0, none⟩), .pointer (some ⟨w.heap.size, 0, none⟩), .pointer (some ⟨w.heap.size + 1 + 1 + 1, 0, none⟩)]] 85)) := ⟨_, rfl⟩
  go_enter Tryd.func62, Tryd.ntmps62
  go_wp2_with fail
  clear HC
  generalize ((((w.alloc (.cells #[.pointer (some ⟨m [], 0, none⟩), .pointer (some ⟨m e, 0, none⟩)] 54)).alloc (.cells #[.slice none 0 0, .slice none 0 0, .string ⟨#[]⟩] 65)).alloc (.cells #[.slice none 0 0, .slice none 0 0, .string ⟨#[]⟩] 65)).alloc (.cells #[.func (.func 78) #[] #[.pointer (some ⟨w.heap.size + 1 + 1, 0, none⟩), .pointer (some ⟨w.heap.size, 0, none⟩), .pointer (some ⟨w.heap.size + 1 + 1 + 1, 0, none⟩)]] 85)) = W4 at *
  have hWk : Wk W4 (w.heap.size + 1 + 1) (w.heap.size + 1 + 1) w.heap.size (w.heap.size + 1 + 1 + 1) (.pointer (some ⟨m [], 0, none⟩)) (.pointer (some ⟨m e, 0, none⟩)) [] [] ⟨#[]⟩ (.slice none 0 0) (.slice none 0 0) :=
    ⟨hWb, hT, hFb, ⟨rfl, .inl ⟨rfl, rfl⟩⟩, ⟨rfl, .inl ⟨rfl, rfl⟩⟩, Nat.le_refl _, by omega⟩
  have hcall := walk_any (w.heap.size + 1 + 1) base (w.heap.size + 1 + 1) w.heap.size (w.heap.size + 1 + 1 + 1) (.pointer (some ⟨m [], 0, none⟩)) N m e he (fun x hx => by have := hG.lt hx; omega) (by omega) N.length [] [] [] ⟨#[]⟩ (.slice none 0 0) (.slice none 0 0) W4 (by simp) hG.tre.nil (hG.below hB4) hWk (by rw [hp]; simp; omega) (by simp; omega)
  rw [hee, List.nil_append, List.nil_append] at hcall
  clear hWk hT hWb hFb
  refine hcall.mono ?_
  rintro e' V ⟨vt, vw, rfl, hk, hb⟩
  have hR1 := hR.below hb (by omega)
  have hB5 := hB4.trans (hb.mono (by omega))
  obtain ⟨A1, c1, rfl⟩ := own_shape4 hk.tx
  have hkwd := hk.wd
  rw [hp] at hkwd
  obtain ⟨A2, c2, rfl⟩ := own_shape4 hkwd
  have keep : ∀ {V' : World} {v : Value} {n : Nat} {xs : List Value} {t : TypeId} {cs : Array Value} (i : Nat) (x : Value), t ≠ 65 → Blk V' (w.heap.size + 1) 65 cs → V'.ownsRow (w.heap.size + 1 + 1) t 1 v n xs → (V'.setCell ⟨w.heap.size + 1, i, none⟩ x).ownsRow (w.heap.size + 1 + 1) t 1 v n xs := fun i x ht hb' ho => ownsRow_setCell_other ho (own_blk_ne ho hb' ht) _
  have hx := keep 2 (.string (strOf e)) (by decide) ((hR1.set_ 0 _).set_ 1 _) (keep 1 (.slice A2 N.length c2) (by decide) (hR1.set_ 0 _) (keep 0 (.slice A1 (preT N N.length []).length c1) (by decide) hR1 hk.tx))
  have hd := keep 2 (.string (strOf e)) (by decide) ((hR1.set_ 0 _).set_ 1 _) (keep 1 (.slice A2 N.length c2) (by decide) (hR1.set_ 0 _) (keep 0 (.slice A1 (preT N N.length []).length c1) (by decide) hR1 hkwd))
  have HX := Lib.hid (own_down hx (Nat.le_trans (Nat.le_succ _) (Nat.le_succ (w.heap.size + 1))))
  have HD := Lib.hid (own_down hd (Nat.le_trans (Nat.le_succ _) (Nat.le_succ (w.heap.size + 1))))
  have HBF : Hid (Below w.heap.size w (((V.setCell ⟨w.heap.size + 1, 0, none⟩ (.slice A1 (preT N N.length []).length c1)).setCell ⟨w.heap.size + 1, 1, none⟩ (.slice A2 N.length c2)).setCell ⟨w.heap.size + 1, 2, none⟩ (.string (strOf e)))) := ((hB5.setCell (p := ⟨w.heap.size + 1, 0, none⟩) (Nat.le_succ _) _).setCell (p := ⟨w.heap.size + 1, 1, none⟩) (Nat.le_succ _) _).setCell (p := ⟨w.heap.size + 1, 2, none⟩) (Nat.le_succ _) _
  have b0 := hk.wb.cell 0
  have b1 := hk.wb.cell 1
  have b2 := hk.wb.cell 2
  have r0 := hR1.cell 0
  have r1 := hR1.cell 1
  have r2 := hR1.cell 2
  have f0 := hR1.frozen 0
  have f1 := hR1.frozen 1
  have f2 := hR1.frozen 2
  simp only [List.getElem?_toArray, List.getElem?_cons_zero, List.getElem?_cons_succ] at b0 b1 b2 r0 r1 r2
  have hlt := hR1.lt
  clear hk hb hR hR1 hB4 hB5 hx hd keep hG hee hcall hq hp hkwd
  go_wp2
  refine bodyPost_ret (v := .agg #[.slice A1 (preT N N.length []).length c1, .slice A2 N.length c2, .string (strOf e)]) (by simp [results, Tryd.results62, go_sem, hlt, r0, r1, r2]) rfl ⟨_, _, rfl, HX.out, HD.out, HBF.out⟩
end

end Go.Proofs.YtlcjgppclclkoaaDoor
