/-
  Iv.
-/
import Derived.Test.YtlfbocmcbkcfhaaDoorUD
import Derived.Test.YtlfbocmcbkcfhaaDoorUG
import Derived.Test.YtlfbocmcbkcfhaaDoorUN
import Derived.Test.YtlfbocmcbkcfhaaDoorUU
namespace Go.Proofs.YtlfbocmcbkcfhaaDoor
set_option maxRecDepth 100000
set_option linter.unusedVariables false
set_option linter.unusedSimpArgs false
set_option linter.unusedSectionVars false

/-! laws.inverse: the inverse of a word; its tree; a tree that lies below another. -/
section
open Go.RowKit Go.Lib Go.Sort

set_option maxHeartbeats 2000000 in
theorem lawInv_any (ws : List (Fin 4)) (hl : ws.length ≤ 1048576) (w : World) : Calls Tryd.prog 23 #[.string (txt ws)] w fun e w' => e = .returned (.string (txt (ws.reverse.map ivL))) ∧ RowKit.Below w.heap.size w w' := by
  obtain ⟨i0, hi, hz0, hz1, hz2⟩ := info_parts info_u8
  have hsz : (txt ws).size = ws.length := txt_size ws
  have HIX : Hid (∀ (k : Nat) (c : Fin 4), ws[k]? = some c → ∀ W : World, (Instr.index 9 (.string (txt ws)) (.int .i64 (k : Int))).run Tryd.prog W = .ok (.int .u8 ((ltB c).toNat : Int)) W) := fun k c h W => str_idx (by rw [txt_list, List.getElem?_map, h]; rfl) W
  have HSZ := Lib.hid hsz
  generalize txt ws = s at *
  rw [← hsz] at hl
  have hE : (w.alloc (.cells #[] 5)).ownsRow w.heap.size 5 1 (.slice (some ⟨w.heap.size, 0, none⟩) 0 0) 0 (bvL []) := ⟨rfl, .inr ⟨w.heap.size, 0, #[], rfl, Nat.le_refl _, heap_alloc_new w _, Nat.le_refl _, Nat.zero_le _, rfl, rfl⟩⟩
  have hB0 : RowKit.Below w.heap.size w (w.alloc (.cells #[] 5)) := (RowKit.Below.refl _ w).alloc (Nat.le_refl _) _
  go_enter Tryd.func23, Tryd.ntmps23
  go_wp2
  go_loopw [3, 4] (fun out i wr => ∃ (r g n cp : Nat) (bs : List (Fin 4)), r ≤ ws.length ∧ i = .int .i64 ((r : Int) - 1) ∧ out = .slice (some ⟨g, 0, none⟩) n cp ∧ bs.length = n ∧ Hid (bs = (ws.drop r).reverse.map ivL) ∧ wr.ownsRow w.heap.size 5 1 out n (bvL bs) ∧ RowKit.Below w.heap.size w wr) (fun _ i _ => (intOf i + 1).toNat)
  case atStart => exact ⟨ws.length, w.heap.size, 0, 0, [], Nat.le_refl _, rfl, rfl, rfl, by show _ = _; simp, hE, hB0⟩
  case round =>
    obtain ⟨r, g, n, cp, bs, hr, rfl, rfl, hbl, HBS, hown, hB⟩ := hrel
    clear hE hB0
    by_cases hlt : 0 < r
    · obtain ⟨q, rfl⟩ : ∃ q, r = q + 1 := ⟨r - 1, by omega⟩
      obtain ⟨c, hc⟩ : ∃ c, ws[q]? = some c := ⟨_, List.getElem?_eq_getElem (by omega)⟩
      have hix := fun W : World => HIX.out q c hc W
      have HBS2 : Hid (bs ++ [ivL c] = (ws.drop q).reverse.map ivL) := by
        show _ = _
        have : ws.drop q = c :: ws.drop (q + 1) := by
          rw [List.drop_eq_getElem_cons (by omega : q < ws.length)]
          rw [List.getElem?_eq_getElem (by omega : q < ws.length)] at hc
          injection hc with hc; rw [hc]
        rw [this, List.reverse_cons, List.map_append, ← HBS.out]; rfl
      have hqi : ((q + 1 : Nat) : Int) - 1 = (q : Int) := by omega
      rw [hqi]
      have hq0 : (0 : Int) ≤ (q : Int) := by omega
      have hnl : n + q + 1 ≤ ws.length := by
        have := congrArg List.length HBS.out
        simp at this; omega
      have hqs : (q : Int) < (s.size : Int) := by have := HSZ.out; omega
      have hxor : bits .xor .u8 ((ltB c).toNat : Int) 32 = ((ltB (ivL c)).toNat : Int) := by rcases fin4 c with rfl | rfl | rfl | rfl <;> rfl
      have hq1 : n + 1 ≤ maxLen := by unfold maxLen; have := HSZ.out; omega
      have hq2 : (n + 1) * 1 ≤ 140737488355328 := by have := HSZ.out; omega
      have HB := Lib.hid hB
      have hgb : w.heap.size ≤ g := (hown.lt g rfl).1
      have hq3 : w.heap.size ≤ (wr.alloc (.cells #[.int .u8 ((ltB (ivL c)).toNat : Int)] 5)).heap.size := by rw [World.size_alloc]; have := hB.size; omega
      have HOWN1 := Lib.hid (World.ownsRow.alloc (w := wr) hown (.cells #[.int .u8 ((ltB (ivL c)).toNat : Int)] 5))
      have HFI : Hid (∀ (g7 cp7 : Nat) (w7 : World), w7.ownsRow w.heap.size 5 1 (.slice (some ⟨g7, 0, none⟩) (n + 1) cp7) (n + 1) (bvL bs ++ [.int .u8 ((ltB (ivL c)).toNat : Int)]) → w7.ownsRow w.heap.size 5 1 (.slice (some ⟨g7, 0, none⟩) (n + 1) cp7) (n + 1) (bvL (bs ++ [ivL c]))) := fun g7 cp7 w7 h => by
        unfold bvL at *; rw [List.map_append]; exact h
      have HBL : Hid ((bs ++ [ivL c]).length = n + 1) := by show _ = _; simp [hbl]
      clear HBS hc hown hB hbl HIX hqi
      generalize ((ltB c).toNat : Int) = x at *
      generalize ((ltB (ivL c)).toNat : Int) = y at *
      go_wp2_with (at_builtin; refine wpList_append_lies _ rfl _ _ _ rfl w.heap.size 5 i0 (.int .u8 0) 1 1 Tryd.underlying22 hi hz0 hz1 hz2 rfl (by decide) (.slice (some ⟨g, 0, none⟩) n cp) n (bvL bs) rfl HOWN1.out ⟨wr.heap.size, 0, none⟩ 1 1 [.int .u8 y] rfl rfl (cell_one_new _ _ _) (by simp [Value.oneCell']) (by decide) hq1 hq2 hq3 (wr.heap.size + 1) (by simp) ?_; intro g7 cp7 w7 hown7 hgrow7 hat7 hlt7)
      have HF := Lib.hid (HFI.out g7 cp7 w7 hown7)
      have HB7 : Hid (RowKit.Below w.heap.size w w7) := (HB.out.alloc HB.out.size _).grown hgrow7 (by simp; have := HB.out.size; omega) (fun k e => by cases e; exact hgb)
      clear hown7 hgrow7 hat7
      go_wp2
      go_roundw
      case rel => exact ⟨q, g7, n + 1, cp7, bs ++ [ivL c], by omega, by go_num, rfl, HBL.out, HBS2, HF.out, HB7.out⟩
      case measure => simp [intOf]
    · obtain rfl : r = 0 := by omega
      have hll : ((ws.reverse.map ivL).map ltB).length = n := by
        have := congrArg List.length HBS.out
        simp at this ⊢; omega
      have hbs : bs = ws.reverse.map ivL := by have := HBS.out; rwa [List.drop_zero] at this
      rw [hbs] at hown
      have hcv := run_convert_bytes_back (P := Tryd.prog) wr 22 9 5 ⟨g, 0, none⟩ cp ((ws.reverse.map ivL).map ltB) Tryd.underlying22 Tryd.underlying5 Tryd.underlying9 (fun j hj => hown.cells rfl j _ (by
        unfold bvL
        rw [List.length_map] at hj
        rw [List.getElem?_map, List.getElem?_eq_getElem hj]
        simp))
      rw [hll] at hcv
      have hst : (⟨((ws.reverse.map ivL).map ltB).toArray⟩ : ByteArray) = txt (ws.reverse.map ivL) := rfl
      rw [hst] at hcv
      have HB := Lib.hid hB
      clear hown hB hll hst HIX hbl HBS hbs
      go_wp2
      go_ret
      exact ⟨by rw [List.map_reverse]; rfl, HB.out⟩
theorem bel_law {zs ys : List ByteArray} {s t : ByteArray} {R1 R2 R3 : TR} (h : BelQ zs ys s t) (h1 : TurnOk zs s R1) (s1 : R1.isSome = true) (h2 : TimesOk zs (resL R1) s (resE R1) R2) (s2 : R2.isSome = true)
    (h3 : TimesOk (resL R2) ys (resE R2) t R3) (s3 : R3.isSome = true) : resL R3 = zs ∧ resE R3 = s := by
  obtain ⟨⟨S, u, hS⟩, ⟨S', u', hS'⟩, e, hsub⟩ := h
  have hu : u' = u := strOf_inj (hS'.2.1.symm.trans (e.symm.trans hS.2.1))
  subst hu
  refine below_law hS hS' (fun x hx => ?_) h1 s1 h2 s2 h3 s3
  have hm := hsub (strOf x) (by rw [hS'.1]; exact List.mem_map.2 ⟨x, hx, rfl⟩)
  rw [hS.1] at hm
  obtain ⟨y, hy, e⟩ := List.mem_map.1 hm
  rw [← strOf_inj e]; exact hy
/-- a word's inverse brings back -/
theorem goW_inv : ∀ (ws : List (Fin 4)) {y : List (Fin 4)}, Rdc y → goW (goW y ws) (invW ws) = y
  | [], _, _ => rfl
  | c :: ws, y, h => by
    rw [invW_cons, goW_app]
    show goW (goW (goW (stp y c) ws) (invW ws)) [ivL c] = y
    rw [goW_inv ws (stp_rdc h)]
    exact stp_back h
theorem goW_inv' (ws : List (Fin 4)) {y : List (Fin 4)} (h : Rdc y) : goW (goW y (invW ws)) ws = y := by
  have := goW_inv (invW ws) h
  rwa [invW_invW] at this
theorem invW_app (a b : List (Fin 4)) : invW (a ++ b) = invW b ++ invW a := by simp [invW]
theorem red_inv (ws : List (Fin 4)) : invW (redS ws) = redS (invW ws) := by
  have hr : Rdc (redS ws) := goW_rdc rdc_nil
  have hr' : Rdc (redS (invW ws)) := goW_rdc rdc_nil
  have h1 : mulW (redS ws) (redS (invW ws)) = [] := by
    show mulW (redS ws) (goW [] (invW ws)) = []
    rw [mulW_go hr, mulW_nil]; exact goW_inv ws rdc_nil
  have h2 := congrArg (mulW (invW (redS ws))) h1
  rwa [inv_mul_cancel hr hr', mulW_nil, eq_comm] at h2
theorem inv_begs (ws x : List (Fin 4)) : Begs [] [invW ws] x ↔ ∃ v, Begs [] [ws] v ∧ x = mulW (invW (redS ws)) v := by
  have hr : Rdc (redS (invW ws)) := goW_rdc rdc_nil
  have key : ∀ a b, ws = a ++ b → goW [] (invW b) = mulW (invW (redS ws)) (goW [] a) := fun a b e => by
    rw [red_inv, mulW_go hr, mulW_nil]
    show _ = goW (goW [] (invW ws)) a
    rw [e, invW_app, goW_app, goW_inv' a (goW_rdc rdc_nil)]
  constructor
  · rintro ⟨u, hu, t, ht, rfl⟩
    rw [List.mem_singleton.1 hu] at ht ⊢
    rw [invW_length] at ht
    refine ⟨goW [] (ws.take (ws.length - t)), ⟨ws, List.mem_singleton.2 rfl, _, Nat.sub_le _ _, rfl⟩, ?_⟩
    rw [← key (ws.take (ws.length - t)) (ws.drop (ws.length - t)) (List.take_append_drop _ _).symm]
    congr 1
    have e : invW ws = invW (ws.drop (ws.length - t)) ++ invW (ws.take (ws.length - t)) := by rw [← invW_app, List.take_append_drop]
    rw [e, List.take_left' (by rw [invW_length, List.length_drop]; omega)]
  · rintro ⟨v, ⟨u, hu, t, ht, rfl⟩, rfl⟩
    rw [List.mem_singleton.1 hu] at ht ⊢
    rw [← key (ws.take t) (ws.drop t) (List.take_append_drop _ _).symm]
    refine ⟨invW ws, List.mem_singleton.2 rfl, ws.length - t, by rw [invW_length]; omega, ?_⟩
    congr 1
    have e : invW ws = invW (ws.drop t) ++ invW (ws.take t) := by rw [← invW_app, List.take_append_drop]
    rw [e, List.take_left' (by rw [invW_length, List.length_drop])]
/-- what the tree of a word says: its end, its size, its inverse -/
theorem of_law {ws : List (Fin 4)} {R R1 R2 : TR} (hl : ws.length ≤ 24) (h : OfOk (txt ws) R) (h1 : TurnOk (resL R) (resE R) R1) (h2 : OfOk (txt (invW ws)) R2) :
    R.isSome = true ∧ R1.isSome = true ∧ R2.isSome = true ∧ resE R = strOf (redS ws) ∧ (resL R).length ≤ ws.length + 1 ∧ resL R1 = resL R2 ∧ resE R1 = resE R2 := by
  have hw : wordB (txt ws) = true := txt_word hl
  have hw2 : wordB (txt (invW ws)) = true := txt_word (by rw [invW_length]; exact hl)
  have s0 : R.isSome = true := by
    rcases h with ⟨hn, _⟩ | ⟨_, _, _, _, _, _, rfl⟩
    · rw [hw] at hn; cases hn
    · rfl
  have s2 : R2.isSome = true := by
    rcases h2 with ⟨hn, _⟩ | ⟨_, _, _, _, _, _, rfl⟩
    · rw [hw2] at hn; cases hn
    · rfl
  obtain ⟨u, S, e0, _, hX, rfl, hT⟩ := of_tin h s0
  have := txt_inj e0
  subst this
  obtain ⟨v, S2, e2, _, hX2, rfl, hT2⟩ := of_tin h2 s2
  have := txt_inj e2
  subst this
  obtain ⟨L, ho, hTr, hm, hL, eR⟩ := turn_some hT h1
  have hLS : L = S2 := ord_eq ho hT2.2.2.2.ord fun x => by
    rw [hL x, hX2 x, inv_begs]
    exact ⟨fun ⟨v, hv, e⟩ => ⟨v, (hX v).1 hv, e⟩, fun ⟨v, hv, e⟩ => ⟨v, (hX v).2 hv, e⟩⟩
  subst hLS
  rw [hT2.2.2.2.sml] at eR
  simp only [if_pos] at eR
  subst eR
  refine ⟨rfl, rfl, rfl, rfl, ?_, rfl, by show strOf (invW (redS ws)) = strOf (redS (invW ws)); rw [red_inv]⟩
  show (S.map strOf).length ≤ _
  rw [List.length_map]
  have hsub := (ord_nodup hT.2.2.2.ord).length_le_of_subset (l₂ := (List.range (ws.length + 1)).map (fun t => goW [] (ws.take t))) (fun x hx => by
    obtain ⟨y, hy, t, ht, e⟩ := (hX x).1 hx
    rw [List.mem_singleton.1 hy] at ht e
    exact List.mem_map.2 ⟨t, List.mem_range.2 (by omega), e.symm⟩)
  rwa [List.length_map, List.length_range] at hsub
theorem ord_ins (x : List (Fin 4)) : ∀ L : List (List (Fin 4)), Ord L → ∃ M, Ord M ∧ ∀ y, y ∈ M ↔ y = x ∨ y ∈ L
  | [], _ => ⟨[x], List.pairwise_singleton _ _, fun y => by simp⟩
  | a :: L, h => by
    have h' := List.pairwise_cons.1 h
    rcases ltW_tri x a with hlt | rfl | hgt
    · exact ⟨x :: a :: L, List.pairwise_cons.2 ⟨fun y hy => by
        rcases List.mem_cons.1 hy with rfl | hy
        · exact hlt
        · exact ltW_trans hlt (h'.1 y hy), h⟩, fun y => by simp⟩
    · exact ⟨x :: L, h, fun y => by simp⟩
    · obtain ⟨M, hM, hm⟩ := ord_ins x L h'.2
      exact ⟨a :: M, List.pairwise_cons.2 ⟨fun y hy => by
        rcases (hm y).1 hy with rfl | hy
        · exact hgt
        · exact h'.1 y hy, hM⟩, fun y => by
        rw [List.mem_cons, hm y, List.mem_cons]
        constructor
        · rintro (h | h | h)
          · exact .inr (.inl h)
          · exact .inl h
          · exact .inr (.inr h)
        · rintro (h | h | h)
          · exact .inr (.inl h)
          · exact .inl h
          · exact .inr (.inr h)⟩
theorem ord_some : ∀ N : List (List (Fin 4)), ∃ L, Ord L ∧ ∀ y, y ∈ L ↔ y ∈ N
  | [] => ⟨[], List.Pairwise.nil, fun _ => Iff.rfl⟩
  | x :: N => by
    obtain ⟨L, hL, h⟩ := ord_some N
    obtain ⟨M, hM, h'⟩ := ord_ins x L hL
    exact ⟨M, hM, fun y => by rw [h' y, h y, List.mem_cons]⟩
/-- the same tree: the same word reduced, and the inverses have the same tree -/
theorem same_law {a b : ByteArray} (h : SameQ a b) : ∃ wa wb, a = txt wa ∧ b = txt wb ∧ wa.length ≤ 24 ∧ wb.length ≤ 24 ∧ redS wa = redS wb ∧ SameQ b a ∧ SameQ (txt (invW wa)) (txt (invW wb)) := by
  obtain ⟨R, h1, h2, hR⟩ := h
  obtain ⟨wa, S, ea, la, hX, rfl, hT⟩ := of_tin h1 hR
  obtain ⟨wb, S', eb, lb, hX', eR, hT'⟩ := of_tin h2 hR
  injection eR with eR
  injection eR with eS er
  subst eS
  refine ⟨wa, wb, ea, eb, la, lb, er, ⟨_, h2, h1, rfl⟩, ?_⟩
  have hw : ∀ ws : List (Fin 4), ws.length ≤ 24 → wordB (txt (invW ws)) = true := fun ws hl => txt_word (by rw [invW_length]; exact hl)
  obtain ⟨L, hoL, hL⟩ := ord_some (S.map (mulW (invW (redS wa))))
  have hm : ∀ ws, redS wa = redS ws → (∀ x, x ∈ S ↔ Begs [] [ws] x) → ∀ x, x ∈ L ↔ Begs [] [invW ws] x := fun ws e hx x => by
    rw [hL x, inv_begs, List.mem_map, ← e]
    exact ⟨fun ⟨v, hv, h⟩ => ⟨v, (hx v).1 hv, h.symm⟩, fun ⟨v, hv, h⟩ => ⟨v, (hx v).2 hv, h.symm⟩⟩
  refine ⟨some (L, redS (invW wa)), .inr ⟨invW wa, L, rfl, hw wa la, hoL, hm wa rfl hX, rfl⟩, .inr ⟨invW wb, L, rfl, hw wb lb, hoL, hm wb er hX', ?_⟩, rfl⟩
  rw [← red_inv, ← red_inv, er]
end

end Go.Proofs.YtlfbocmcbkcfhaaDoor
