/-
  Dn.
-/
import Derived.Test.YtlcjgppclclkoaaDoorTY
import Derived.Test.YtlcjgppclclkoaaDoorUH
import Derived.Test.YtlcjgppclclkoaaDoorUI
namespace Go.Proofs.YtlcjgppclclkoaaDoor
set_option maxRecDepth 100000
set_option linter.unusedVariables false
set_option linter.unusedSimpArgs false
set_option linter.unusedSectionVars false

/-! spec.l4Done, spec.TreeOf. -/
section
open Go.RowKit Go.Lib Go.Sort

theorem own_grow {w w' : World} {lo base n : Nat} {v : Value} {xs : List Value} (h : w.ownsRow base 9 1 v n xs) (hb : lo ≤ base) : w.ownsRow lo 9 1 v n xs := own_down0 h hb
/-- stores into a block of another type -/
theorem own_far2 {w : World} {base size n g : Nat} {e t : TypeId} {v : Value} {xs : List Value} {cs : Array Value} (h : w.ownsRow base e size v n xs) (hg : Blk w g t cs) (hne : e ≠ t) (x y : Value) : ((w.setCell ⟨g, 0, none⟩ x).setCell ⟨g, 1, none⟩ y).ownsRow base e size v n xs := by
  have n1 := own_blk_ne h hg hne
  exact ownsRow_setCell_other (ownsRow_setCell_other h n1 x) n1 y
/-- what is told, or nothing -/
def okB (P : Prop) (r : Option (List (List (Fin 4)) × List (Fin 4))) (R : Option (List (List (Fin 4)) × List (Fin 4))) : Prop := (P ∧ R = r) ∨ (¬ P ∧ R = none)
set_option maxHeartbeats 2000000 in
theorem l4Done_any (lo g n cp : Nat) (S : List (List (Fin 4))) (u : List (Fin 4)) (w : World) (hown : w.ownsRow lo 9 1 (.slice (some ⟨g, 0, none⟩) n cp) n (wvL S)) (hn : n ≤ 4096) (hl : ∀ x ∈ S, x.length ≤ 1048576) (hlo : lo ≤ w.heap.size) :
    Calls Tryd.prog 45 #[.slice (some ⟨g, 0, none⟩) n cp, .string (strOf u)] w fun e' w' => RowKit.Below w.heap.size w w' ∧ ∃ (R : Option (List (List (Fin 4)) × List (Fin 4))) (g' n' c' : Nat), okB (TinQ (S.map strOf) (strOf u)) (some (S, u)) R ∧ e' = .returned (.tuple #[.agg #[.slice (some ⟨g', 0, none⟩) n' c', .string (resE R)], .bool R.isSome]) ∧ w'.ownsRow lo 9 1 (.slice (some ⟨g', 0, none⟩) n' c') n' (svL (resL R)) := by
  have hB0 : RowKit.Below w.heap.size w ((w.alloc (.cells #[.slice none 0 0, .string ⟨#[]⟩] 29)).alloc (.cells #[.slice (some ⟨g, 0, none⟩) n cp, .string (strOf u)] 29)) := ((RowKit.Below.refl _ w).alloc (Nat.le_refl _) _).alloc (by simp) _
  have hA0 : Blk ((w.alloc (.cells #[.slice none 0 0, .string ⟨#[]⟩] 29)).alloc (.cells #[.slice (some ⟨g, 0, none⟩) n cp, .string (strOf u)] 29)) w.heap.size 29 #[.slice none 0 0, .string ⟨#[]⟩] := (Blk.new w _ _).alloc _
  have hA1 : Blk ((w.alloc (.cells #[.slice none 0 0, .string ⟨#[]⟩] 29)).alloc (.cells #[.slice (some ⟨g, 0, none⟩) n cp, .string (strOf u)] 29)) (w.heap.size + 1) 29 #[.slice (some ⟨g, 0, none⟩) n cp, .string (strOf u)] := by
    have := Blk.new (w.alloc (.cells #[.slice none 0 0, .string ⟨#[]⟩] 29)) 29 #[.slice (some ⟨g, 0, none⟩) n cp, .string (strOf u)]
    rwa [World.size_alloc] at this
  have hz : ((w.alloc (.cells #[.slice none 0 0, .string ⟨#[]⟩] 29)).alloc (.cells #[.slice (some ⟨g, 0, none⟩) n cp, .string (strOf u)] 29)).heap.size = w.heap.size + 1 + 1 := by simp
  have ho0 : ((w.alloc (.cells #[.slice none 0 0, .string ⟨#[]⟩] 29)).alloc (.cells #[.slice (some ⟨g, 0, none⟩) n cp, .string (strOf u)] 29)).ownsRow lo 9 1 (.slice (some ⟨g, 0, none⟩) n cp) n (wvL S) := (hown.alloc _).alloc _
  have hrs : RS ((w.alloc (.cells #[.slice none 0 0, .string ⟨#[]⟩] 29)).alloc (.cells #[.slice (some ⟨g, 0, none⟩) n cp, .string (strOf u)] 29)) (some ⟨g, 0, none⟩) n (S.map strOf) := RS.of_own (by rw [← wvL_sv]; exact ho0)
  have hI := specIn_any (some ⟨g, 0, none⟩) n cp (S.map strOf) (strOf u) _ hrs (by omega) (fun s hs => by
    obtain ⟨v, hv, rfl⟩ := List.mem_map.1 hs
    rw [strOf_size]; exact hl v hv)
  rw [hz] at hI
  have HI := Lib.hid hI
  have HB0 := Lib.hid hB0
  have HA0 := Lib.hid hA0
  have HA1 := Lib.hid hA1
  have HO0 := Lib.hid ho0
  have HZ := Lib.hid hz
  clear hI hB0 hA0 hA1 hz ho0 hrs hown hl
  go_enter Tryd.func45, Tryd.ntmps45
  go_wp2_with fail
  refine HI.out.mono ?_
  rintro e' w1 ⟨b, rfl, hb, hB⟩
  have h0 := HA0.out.below hB (by omega)
  have h1 := HA1.out.below hB (by omega)
  have hB1 := HB0.out.trans (hB.mono (by omega))
  have hs1 : w.heap.size + 1 < w1.heap.size := h1.lt
  cases b with
  | true =>
    have HT : Hid (TinQ (S.map strOf) (strOf u)) := hb.1 rfl
    have HO1 := Lib.hid (own_far2 (own_below0 HO0.out (by rw [HZ.out]; exact hB)) h0 (by decide) (.slice (some ⟨g, 0, none⟩) n cp) (.string (strOf u)))
    have HB2 := Lib.hid ((hB1.setCell (p := ⟨w.heap.size, 0, none⟩) (Nat.le_refl _) (.slice (some ⟨g, 0, none⟩) n cp)).setCell (p := ⟨w.heap.size, 1, none⟩) (Nat.le_refl _) (.string (strOf u)))
    have c0 : w1.cell? ⟨w.heap.size, 0, none⟩ = some (.slice none 0 0) := h0.cell 0
    have c1 : w1.cell? ⟨w.heap.size, 1, none⟩ = some (.string ⟨#[]⟩) := h0.cell 1
    have d0 : w1.cell? ⟨w.heap.size + 1, 0, none⟩ = some (.slice (some ⟨g, 0, none⟩) n cp) := h1.cell 0
    have d1 : w1.cell? ⟨w.heap.size + 1, 1, none⟩ = some (.string (strOf u)) := h1.cell 1
    have f0 := h0.frozen 0
    have f1 := h0.frozen 1
    have hlt := h0.lt
    clear h0 h1 hB hB1 hb HI HB0 HA0 HA1 HO0
    go_wp2
    refine bodyPost_ret (v := .tuple #[.agg #[.slice (some ⟨g, 0, none⟩) n cp, .string (strOf u)], .bool true]) (by simp [results, Tryd.results45, go_sem, hlt, c0, c1]) rfl ⟨HB2.out, some (S, u), g, n, cp, .inl ⟨HT.out, rfl⟩, rfl, by show World.ownsRow _ _ _ _ _ _ (svL (S.map strOf)); rw [← wvL_sv]; exact HO1.out⟩
  | false =>
    have HNO : Hid (¬ TinQ (S.map strOf) (strOf u)) := fun h => Bool.noConfusion (hb.2 h)
    have HN := Lib.hid (l4None_any w1)
    have H0 := Lib.hid h0
    have HB1 := Lib.hid hB1
    clear h0 h1 hB hB1 hb HI HB0 HA0 HA1 HO0
    go_wp2_with fail
    refine HN.out.mono ?_
    rintro e' w2 ⟨g', rfl, ho2, hb2⟩
    have h0 := H0.out.below hb2 (by omega)
    have hB2 := HB1.out.trans (hb2.mono (by omega))
    have HO2 := Lib.hid (own_far2 ho2 h0 (by decide) (.slice (some ⟨g', 0, none⟩) 0 0) (.string ⟨#[]⟩))
    have HB2 := Lib.hid ((hB2.setCell (p := ⟨w.heap.size, 0, none⟩) (Nat.le_refl _) (.slice (some ⟨g', 0, none⟩) 0 0)).setCell (p := ⟨w.heap.size, 1, none⟩) (Nat.le_refl _) (.string ⟨#[]⟩))
    have c0 : w2.cell? ⟨w.heap.size, 0, none⟩ = some (.slice none 0 0) := h0.cell 0
    have c1 : w2.cell? ⟨w.heap.size, 1, none⟩ = some (.string ⟨#[]⟩) := h0.cell 1
    have f0 := h0.frozen 0
    have f1 := h0.frozen 1
    have hlt := h0.lt
    clear h0 hB2 hb2 ho2 HN H0 HB1
    go_wp2
    refine bodyPost_ret (v := .tuple #[.agg #[.slice (some ⟨g', 0, none⟩) 0 0, .string ⟨#[]⟩], .bool false]) (by simp [results, Tryd.results45, go_sem, hlt, c0, c1]) rfl ⟨HB2.out, none, g', 0, 0, .inr ⟨HNO.out, rfl⟩, rfl, own_down0 HO2.out (by omega)⟩
set_option maxHeartbeats 4000000 in
theorem specOfT_any (s : ByteArray) (hs : s.size ≤ 1048576) (w : World) : Calls Tryd.prog 16 #[.string s] w fun e' w' => ∃ R, OfOk s R ∧ TreePost R w e' w' := by
  have hB0 : RowKit.Below w.heap.size w (w.alloc (.cells #[.slice none 0 0, .string ⟨#[]⟩] 29)) := (RowKit.Below.refl _ w).alloc (Nat.le_refl _) _
  have hA0 : Blk (w.alloc (.cells #[.slice none 0 0, .string ⟨#[]⟩] 29)) w.heap.size 29 #[.slice none 0 0, .string ⟨#[]⟩] := Blk.new w _ _
  have hz : (w.alloc (.cells #[.slice none 0 0, .string ⟨#[]⟩] 29)).heap.size = w.heap.size + 1 := by simp
  have hW := l4Word_any s hs (w.alloc (.cells #[.slice none 0 0, .string ⟨#[]⟩] 29))
  cases hw : wordB s with
  | false =>
    rw [hw] at hW
    have HW := Lib.hid hW
    have hN := l4None_any (w.alloc (.cells #[.slice none 0 0, .string ⟨#[]⟩] 29))
    rw [hz] at hN
    have HN := Lib.hid hN
    have HB0 := Lib.hid hB0
    have HA0 := Lib.hid hA0
    have HOK : Hid (OfOk s none) := .inl ⟨hw, rfl⟩
    clear hW hN hB0 hA0 hz hw
    go_enter Tryd.func16, Tryd.ntmps16
    go_wp2_with fail
    refine HW.out.mono ?_
    rintro e' w1 ⟨rfl, rfl⟩
    go_wp2_with fail
    refine HN.out.mono ?_
    rintro e' w2 ⟨g', rfl, ho2, hb2⟩
    have h0 := HA0.out.below hb2 (by omega)
    have hB2 := HB0.out.trans (hb2.mono (by omega))
    have HO2 := Lib.hid (own_far2 ho2 h0 (by decide) (.slice (some ⟨g', 0, none⟩) 0 0) (.string ⟨#[]⟩))
    have HB2 := Lib.hid ((hB2.setCell (p := ⟨w.heap.size, 0, none⟩) (Nat.le_refl _) (.slice (some ⟨g', 0, none⟩) 0 0)).setCell (p := ⟨w.heap.size, 1, none⟩) (Nat.le_refl _) (.string ⟨#[]⟩))
    have c0 : w2.cell? ⟨w.heap.size, 0, none⟩ = some (.slice none 0 0) := h0.cell 0
    have c1 : w2.cell? ⟨w.heap.size, 1, none⟩ = some (.string ⟨#[]⟩) := h0.cell 1
    have f0 := h0.frozen 0
    have f1 := h0.frozen 1
    have hlt := h0.lt
    clear h0 hB2 hb2 ho2 HN HB0 HA0
    go_wp2
    refine bodyPost_ret (v := .tuple #[.agg #[.slice (some ⟨g', 0, none⟩) 0 0, .string ⟨#[]⟩], .bool false]) (by simp [results, Tryd.results16, go_sem, hlt, c0, c1]) rfl ⟨none, HOK.out, HB2.out, some ⟨g', 0, none⟩, 0, 0, rfl, own_down0 HO2.out (by omega)⟩
  | true =>
    rw [hw] at hW
    obtain ⟨ws, rfl, hwl⟩ := word_txt hw
    have HW := Lib.hid hW
    have hB1 : RowKit.Below w.heap.size w ((w.alloc (.cells #[.slice none 0 0, .string ⟨#[]⟩] 29)).alloc (.cells #[] 9)) := hB0.alloc (by simp) _
    have hA1 := hA0.alloc (.cells #[] 9)
    have hE := own_lit4 (w.alloc (.cells #[.slice none 0 0, .string ⟨#[]⟩] 29))
    rw [hz] at hE
    have hz1 : ((w.alloc (.cells #[.slice none 0 0, .string ⟨#[]⟩] 29)).alloc (.cells #[] 9)).heap.size = w.heap.size + 1 + 1 := by simp
    have HA1 : Hid (∀ W : World, RowKit.Below (w.heap.size + 1) ((w.alloc (.cells #[.slice none 0 0, .string ⟨#[]⟩] 29)).alloc (.cells #[] 9)) W → Blk W w.heap.size 29 #[.slice none 0 0, .string ⟨#[]⟩]) := fun W hW => hA1.below hW (by omega)
    have HB1 := Lib.hid hB1
    have HSL : Hid (∀ (k : Nat) (W : World), k ≤ ws.length → (Instr.slice 9 (.string (txt ws)) none (some (.int .i64 (k : Int))) none).run Tryd.prog W = .ok (.string (txt (ws.take k))) W) := fun k W hk => by
      rw [run_slice_string_to_if W 9 (txt ws) .i64 (k : Int) Tryd.underlying9, if_pos (by rw [txt_size]; omega)]
      have : (txt ws).extract 0 k = txt (ws.take k) := by
        apply ByteArray.ext
        apply Array.ext'
        rw [ByteArray.data_extract, Array.toList_extract, txt_list, txt_list]
        simp [List.extract]
      rw [Int.toNat_natCast, this]
    have HRE := Lib.hid (fun (k : Nat) (W : World) => l4Reduce_any (ws.take k) (by simp; omega) W)
    have HREW := Lib.hid (fun (W : World) => l4Reduce_any ws (by omega) W)
    have HSZ := Lib.hid (txt_size ws)
    have HWD := Lib.hid hw
    have hsz0 := txt_size ws
    clear hW hB0 hA0 hz hw hB1 hA1 hz1
    generalize hts : txt ws = ts at *
    have HTS := Lib.hid hts
    clear hts
    go_enter Tryd.func16, Tryd.ntmps16
    go_wp2_with fail
    refine HW.out.mono ?_
    rintro e' w1 ⟨rfl, rfl⟩
    clear HW
    go_wp2
    go_loopw [4, 5] (fun v i wr => ∃ (k g n cp : Nat) (S : List (List (Fin 4))), k ≤ ws.length + 1 ∧ i = .int .i64 (k : Int) ∧ v = .slice (some ⟨g, 0, none⟩) n cp ∧ n ≤ k ∧ wr.ownsRow (w.heap.size + 1) 9 1 v n (wvL S) ∧ RowKit.Below (w.heap.size + 1) ((w.alloc (.cells #[.slice none 0 0, .string ⟨#[]⟩] 29)).alloc (.cells #[] 9)) wr ∧ Hid (Ord S) ∧ Hid (∀ x, x ∈ S ↔ ∃ t, t < k ∧ x = goW [] (ws.take t))) (fun _ i _ => ws.length + 1 - (intOf i).toNat)
    case atStart => exact ⟨0, w.heap.size + 1, 0, 0, [], Nat.zero_le _, rfl, rfl, Nat.le_refl _, hE, RowKit.Below.refl _ _, List.Pairwise.nil, fun x => by simp⟩
    case round =>
      clear hE
      obtain ⟨k, g, n, cp, S, hk, rfl, rfl, hnk, hown, hB, HO, HX⟩ := hrel
      by_cases hlt : k ≤ ws.length
      · have hki : (k : Int) ≤ (ts.size : Int) := by have := HSZ.out; omega
        have hsl := fun W : World => HSL.out k W hlt
        have HR := Lib.hid (HRE.out k wr)
        have hws : w.heap.size + 1 ≤ wr.heap.size := by have := hB.size; simp at this; omega
        generalize txt (ws.take k) = tk at *
        go_wp2_with fail
        refine HR.out.mono ?_
        rintro e' w2 ⟨rfl, hb2⟩
        have hown2 := own_below0 hown hb2
        have hB2 := hB.trans (hb2.mono hws)
        have hws2 := Nat.le_trans hws hb2.size
        have HP := Lib.hid (l4Put_any (w.heap.size + 1) g cp n S (redS (ws.take k)) w2 hown2 HO.out (by omega) hws2)
        clear hown hb2 hB HR hown2 hsl
        go_wp2_with fail
        refine HP.out.mono ?_
        rintro e' w3 ⟨g', cp', S', rfl, hown3, ho3, hx3, hl3, hb3⟩
        have hB3 := hB2.trans (hb3.mono hws2)
        have HO3 := Lib.hid ho3
        have HX3 : Hid (∀ x, x ∈ S' ↔ ∃ t, t < k + 1 ∧ x = goW [] (ws.take t)) := fun x => by
          rw [hx3, HX.out x]
          constructor
          · rintro (⟨t, ht, e⟩ | e)
            · exact ⟨t, by omega, e⟩
            · exact ⟨k, by omega, e⟩
          · rintro ⟨t, ht, e⟩
            by_cases h : t = k
            · exact .inr (by rw [e, h]; rfl)
            · exact .inl ⟨t, by omega, e⟩
        generalize S'.length = n' at *
        clear hx3 ho3 hb3 hB2 HP
        go_wp2
        go_roundw
        case rel => exact ⟨k + 1, g', n', cp', S', by omega, by go_num, rfl, by omega, hown3, hB3, HO3, HX3⟩
        case measure => simp [intOf]; omega
      · have hke : k = ws.length + 1 := by omega
        have hki : ¬ (k : Int) ≤ (ts.size : Int) := by have := HSZ.out; omega
        have hws : w.heap.size + 1 ≤ wr.heap.size := by have := hB.size; simp at this; omega
        have HX2 : Hid (∀ x, x ∈ S ↔ Begs [] [ws] x) := fun x => by
          rw [HX.out x]
          constructor
          · rintro ⟨t, ht, e⟩; exact ⟨ws, by simp, t, by omega, e⟩
          · rintro ⟨v, hv, t, ht, e⟩
            rw [List.mem_singleton.1 hv] at ht e
            exact ⟨t, by omega, e⟩
        have HR := Lib.hid (HREW.out wr)
        go_wp2_with fail
        refine HR.out.mono ?_
        rintro e' w2 ⟨rfl, hb2⟩
        have hown2 := own_below0 hown hb2
        have hB2 := hB.trans (hb2.mono hws)
        have hws2 := Nat.le_trans hws hb2.size
        have T := tre_of HO.out HX2.out
        have HD := Lib.hid (l4Done_any (w.heap.size + 1) g n cp S (redS ws) w2 hown2 (by omega) (fun x hx => by
          obtain ⟨v, hv, t, ht, e⟩ := (HX2.out x).1 hx
          rw [List.mem_singleton.1 hv] at e
          have := goW_len [] (ws.take t)
          rw [← e, List.length_take] at this
          simp at this; omega) hws2)
        have HQ : Hid (TinQ (S.map strOf) (strOf (redS ws))) := (tinq_sml T HO.out ((HX2.out _).2 ⟨ws, by simp, ws.length, Nat.le_refl _, by rw [List.take_length]; rfl⟩)).2 (sml_word T.nd hwl HX2.out)
        have HB2 := Lib.hid hB2
        clear hown hb2 hB HR hown2 T hB2
        go_wp2_with fail
        refine HD.out.mono ?_
        rintro e' w3 ⟨hb3, R, g', n', c', hR, rfl, ho3⟩
        have hRs : R = some (S, redS ws) := by
          rcases hR with ⟨_, h⟩ | ⟨h, _⟩
          · exact h
          · exact absurd HQ.out h
        subst hRs
        have hB3 := HB2.out.trans (hb3.mono hws2)
        have h0 := HA1.out w3 hB3
        have HO3 := Lib.hid (own_far2 ho3 h0 (by decide) (.slice (some ⟨g', 0, none⟩) n' c') (.string (resE (some (S, redS ws)))))
        have HB3 := Lib.hid (((HB1.out.trans (hB3.mono (by omega))).setCell (p := ⟨w.heap.size, 0, none⟩) (Nat.le_refl _) (.slice (some ⟨g', 0, none⟩) n' c')).setCell (p := ⟨w.heap.size, 1, none⟩) (Nat.le_refl _) (.string (resE (some (S, redS ws)))))
        have c0 : w3.cell? ⟨w.heap.size, 0, none⟩ = some (.slice none 0 0) := h0.cell 0
        have c1 : w3.cell? ⟨w.heap.size, 1, none⟩ = some (.string ⟨#[]⟩) := h0.cell 1
        have f0 := h0.frozen 0
        have f1 := h0.frozen 1
        have hlt := h0.lt
        have HOK : Hid (OfOk ts (some (S, redS ws))) := .inr ⟨ws, S, HTS.out.symm, HWD.out, HO.out, HX2.out, rfl⟩
        clear h0 hB3 hb3 ho3 hR HB2 HD
        go_wp2
        refine bodyPost_ret (v := .tuple #[.agg #[.slice (some ⟨g', 0, none⟩) n' c', .string (resE (some (S, redS ws)))], .bool true]) (by simp [results, Tryd.results16, go_sem, hlt, c0, c1]) rfl ⟨some (S, redS ws), HOK.out, HB3.out, some ⟨g', 0, none⟩, n', c', rfl, own_down0 HO3.out (by omega)⟩
end

end Go.Proofs.YtlcjgppclclkoaaDoor
