/-
  Bk.
-/
import Derived.Test.YtlcjgppclclkoaaDoorTR
import Derived.Test.YtlcjgppclclkoaaDoorTS
namespace Go.Proofs.YtlcjgppclclkoaaDoor
set_option maxRecDepth 100000
set_option linter.unusedVariables false
set_option linter.unusedSimpArgs false
set_option linter.unusedSectionVars false

/-! spec.l4Back. -/
section
open Go.RowKit Go.Lib Go.Sort

theorem strOf_inv (u : List (Fin 4)) : txt (u.map ivL) = strOf (invW u) := by rw [strOf_txt]; unfold invW; rw [List.reverse_reverse]
set_option maxHeartbeats 2000000 in
theorem l4Back_any (ws : List (Fin 4)) (hl : ws.length ≤ 1048576) (w : World) : Calls Tryd.prog 64 #[.string (txt ws)] w fun e w' => e = .returned (.string (txt (ws.reverse.map ivL))) ∧ RowKit.Below w.heap.size w w' := by
  obtain ⟨i0, hi, hz0, hz1, hz2⟩ := info_parts info_u8
  have hsz : (txt ws).size = ws.length := txt_size ws
  have HIX : Hid (∀ (k : Nat) (c : Fin 4), ws[k]? = some c → ∀ W : World, (Instr.index 9 (.string (txt ws)) (.int .i64 (k : Int))).run Tryd.prog W = .ok (.int .u8 ((ltB c).toNat : Int)) W) := fun k c h W => str_idx (by rw [txt_list, List.getElem?_map, h]; rfl) W
  have HSZ := Lib.hid hsz
  generalize txt ws = s at *
  rw [← hsz] at hl
  have hE : (w.alloc (.cells #[] 5)).ownsRow w.heap.size 5 1 (.slice (some ⟨w.heap.size, 0, none⟩) 0 0) 0 (bvL []) := ⟨rfl, .inr ⟨w.heap.size, 0, #[], rfl, Nat.le_refl _, heap_alloc_new w _, Nat.le_refl _, Nat.zero_le _, rfl, rfl⟩⟩
  have hB0 : RowKit.Below w.heap.size w (w.alloc (.cells #[] 5)) := (RowKit.Below.refl _ w).alloc (Nat.le_refl _) _
  go_enter Tryd.func64, Tryd.ntmps64
  go_wp2
  go_loopw [3, 4] (fun out i wr => ∃ (r g n cp : Nat) (bs : List (Fin 4)), r ≤ ws.length ∧ i = .int .i64 ((r : Int) - 1) ∧ out = .slice (some ⟨g, 0, none⟩) n cp ∧ bs.length = n ∧ Hid (bs = (ws.drop r).reverse.map ivL) ∧ wr.ownsRow w.heap.size 5 1 out n (bvL bs) ∧ RowKit.Below w.heap.size w wr) (fun _ i _ => (intOf i + 1).toNat)
  case atStart => exact ⟨ws.length, w.heap.size, 0, 0, [], Nat.le_refl _, rfl, rfl, rfl, by show _ = _; simp, hE, hB0⟩
  case round =>
    obtain ⟨r, g, n, cp, bs, hr, rfl, rfl, hbl, HBS, hown, hB⟩ := hrel
    clear hE hB0
    by_cases hlt : 0 < r
    · obtain ⟨q, rfl⟩ : ∃ q, r = q + 1 := ⟨r - 1, by omega⟩
      obtain ⟨c, hc⟩ : ∃ c, ws[q]? = some c := ⟨_, List.getElem?_eq_getElem (by omega)⟩
      have hix := fun W : World => HIX.out q c hc W
      have HBS2 : Hid (bs ++ [ivL c] = (ws.drop q).reverse.map ivL) := by
        show _ = _
        have : ws.drop q = c :: ws.drop (q + 1) := by
          rw [List.drop_eq_getElem_cons (by omega : q < ws.length)]
          rw [List.getElem?_eq_getElem (by omega : q < ws.length)] at hc
          injection hc with hc; rw [hc]
        rw [this, List.reverse_cons, List.map_append, ← HBS.out]; rfl
      have hqi : ((q + 1 : Nat) : Int) - 1 = (q : Int) := by omega
      rw [hqi]
      have hq0 : (0 : Int) ≤ (q : Int) := by omega
      have hnl : n + q + 1 ≤ ws.length := by
        have := congrArg List.length HBS.out
        simp at this; omega
      have hqs : (q : Int) < (s.size : Int) := by have := HSZ.out; omega
      have HOT := Lib.hid (fun W => l4Other_any c W)
      have hq1 : n + 1 ≤ maxLen := by unfold maxLen; have := HSZ.out; omega
      have hq2 : (n + 1) * 1 ≤ 140737488355328 := by have := HSZ.out; omega
      have HB := Lib.hid hB
      have hgb : w.heap.size ≤ g := (hown.lt g rfl).1
      have hq3 : w.heap.size ≤ (wr.alloc (.cells #[.int .u8 ((ltB (ivL c)).toNat : Int)] 5)).heap.size := by rw [World.size_alloc]; have := hB.size; omega
      have HOWN1 := Lib.hid (World.ownsRow.alloc (w := wr) hown (.cells #[.int .u8 ((ltB (ivL c)).toNat : Int)] 5))
      have HFI : Hid (∀ (g7 cp7 : Nat) (w7 : World), w7.ownsRow w.heap.size 5 1 (.slice (some ⟨g7, 0, none⟩) (n + 1) cp7) (n + 1) (bvL bs ++ [.int .u8 ((ltB (ivL c)).toNat : Int)]) → w7.ownsRow w.heap.size 5 1 (.slice (some ⟨g7, 0, none⟩) (n + 1) cp7) (n + 1) (bvL (bs ++ [ivL c]))) := fun g7 cp7 w7 h => by
        unfold bvL at *; rw [List.map_append]; exact h
      have HBL : Hid ((bs ++ [ivL c]).length = n + 1) := by show _ = _; simp [hbl]
      clear HBS hc hown hB hbl HIX hqi
      generalize ((ltB c).toNat : Int) = x at *
      generalize ((ltB (ivL c)).toNat : Int) = y at *
      go_wp2_with fail
      refine (HOT.out _).mono ?_
      rintro e V1 ⟨rfl, rfl⟩
      clear HOT
      go_wp2_with (at_builtin; refine wpList_append_lies _ rfl _ _ _ rfl w.heap.size 5 i0 (.int .u8 0) 1 1 Tryd.underlying22 hi hz0 hz1 hz2 rfl (by decide) (.slice (some ⟨g, 0, none⟩) n cp) n (bvL bs) rfl HOWN1.out ⟨V1.heap.size, 0, none⟩ 1 1 [.int .u8 y] rfl rfl (cell_one_new _ _ _) (by simp [Value.oneCell']) (by decide) hq1 hq2 hq3 (V1.heap.size + 1) (by simp) ?_; intro g7 cp7 w7 hown7 hgrow7 hat7 hlt7)
      have HF := Lib.hid (HFI.out g7 cp7 w7 hown7)
      have HB7 : Hid (RowKit.Below w.heap.size w w7) := (HB.out.alloc HB.out.size _).grown hgrow7 (by simp; have := HB.out.size; omega) (fun k e => by cases e; exact hgb)
      clear hown7 hgrow7 hat7
      go_wp2
      go_roundw
      case rel => exact ⟨q, g7, n + 1, cp7, bs ++ [ivL c], by omega, by go_num, rfl, HBL.out, HBS2, HF.out, HB7.out⟩
      case measure => simp [intOf]
    · obtain rfl : r = 0 := by omega
      have hll : ((ws.reverse.map ivL).map ltB).length = n := by
        have := congrArg List.length HBS.out
        simp at this ⊢; omega
      have hbs : bs = ws.reverse.map ivL := by have := HBS.out; rwa [List.drop_zero] at this
      rw [hbs] at hown
      have hcv := run_convert_bytes_back (P := Tryd.prog) wr 22 9 5 ⟨g, 0, none⟩ cp ((ws.reverse.map ivL).map ltB) Tryd.underlying22 Tryd.underlying5 Tryd.underlying9 (fun j hj => hown.cells rfl j _ (by
        unfold bvL
        rw [List.length_map] at hj
        rw [List.getElem?_map, List.getElem?_eq_getElem hj]
        simp))
      rw [hll] at hcv
      have hst : (⟨((ws.reverse.map ivL).map ltB).toArray⟩ : ByteArray) = txt (ws.reverse.map ivL) := rfl
      rw [hst] at hcv
      have HB := Lib.hid hB
      clear hown hB hll hst HIX hbl HBS hbs
      go_wp2
      go_ret
      exact ⟨by rw [List.map_reverse]; rfl, HB.out⟩
end

end Go.Proofs.YtlcjgppclclkoaaDoor
