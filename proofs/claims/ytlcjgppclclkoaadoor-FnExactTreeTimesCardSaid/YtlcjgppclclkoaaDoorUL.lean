/-
  It.
-/
import Derived.Test.YtlcjgppclclkoaaDoorUK
namespace Go.Proofs.YtlcjgppclclkoaaDoor
set_option maxRecDepth 100000
set_option linter.unusedVariables false
set_option linter.unusedSimpArgs false
set_option linter.unusedSectionVars false

/-! impl.TreeTimes. -/
section
open Go.RowKit Go.Lib Go.Sort

theorem begs_end {u es x : List (Fin 4)} {xs : List (List (Fin 4))} (h : es ∈ xs) : Begs u (xs ++ [es]) x ↔ Begs u xs x := by
  rw [begs_snoc]
  exact ⟨fun h' => h'.elim id fun ⟨t, ht, e⟩ => ⟨es, h, t, ht, e⟩, .inl⟩
set_option maxHeartbeats 8000000 in
theorem implTimes_any (A B : Option Addr) (n m c d : Nat) (zs ys : List ByteArray) (s t : ByteArray) (w : World) (h : RS w A n zs) (h' : RS w B m ys) (hn : n ≤ 1048576) (hm : m ≤ 1048576) (hl : ∀ x ∈ zs, x.size ≤ 1048576) (hl' : ∀ x ∈ ys, x.size ≤ 1048576) (hs : s.size ≤ 1048576) (ht : t.size ≤ 1048576) :
    Calls Tryd.prog 36 #[.agg #[.slice A n c, .string s], .agg #[.slice B m d, .string t]] w fun e' w' => ∃ R, TimesOk zs ys s t R ∧ TreePost R w e' w' := by
  have hz1 : (w.alloc (.cells #[.slice A n c, .string s] 29)).heap.size = w.heap.size + 1 := by simp
  have hz2 : ((w.alloc (.cells #[.slice A n c, .string s] 29)).alloc (.cells #[.slice B m d, .string t] 29)).heap.size = w.heap.size + 1 + 1 := by simp
  have hz : (((w.alloc (.cells #[.slice A n c, .string s] 29)).alloc (.cells #[.slice B m d, .string t] 29)).alloc (.cells #[.slice none 0 0, .string ⟨#[]⟩] 29)).heap.size = w.heap.size + 1 + 1 + 1 := by simp
  have hB0 : RowKit.Below w.heap.size w (((w.alloc (.cells #[.slice A n c, .string s] 29)).alloc (.cells #[.slice B m d, .string t] 29)).alloc (.cells #[.slice none 0 0, .string ⟨#[]⟩] 29)) := (((RowKit.Below.refl _ w).alloc (Nat.le_refl _) _).alloc (by simp) _).alloc (by simp; omega) _
  have hA1 : Blk (((w.alloc (.cells #[.slice A n c, .string s] 29)).alloc (.cells #[.slice B m d, .string t] 29)).alloc (.cells #[.slice none 0 0, .string ⟨#[]⟩] 29)) (w.heap.size + 1) 29 #[.slice B m d, .string t] := by
    have := Blk.new (w.alloc (.cells #[.slice A n c, .string s] 29)) 29 #[.slice B m d, .string t]
    rw [hz1] at this
    exact this.alloc _
  have hA2 : Blk (((w.alloc (.cells #[.slice A n c, .string s] 29)).alloc (.cells #[.slice B m d, .string t] 29)).alloc (.cells #[.slice none 0 0, .string ⟨#[]⟩] 29)) (w.heap.size + 1 + 1) 29 #[.slice none 0 0, .string ⟨#[]⟩] := by
    have := Blk.new ((w.alloc (.cells #[.slice A n c, .string s] 29)).alloc (.cells #[.slice B m d, .string t] 29)) 29 #[.slice none 0 0, .string ⟨#[]⟩]
    rwa [hz2] at this
  have hF := treeFrom_any A n c zs s _ (h.below hB0) hn hl hs
  unfold FromPost at hF
  rw [hz] at hF
  have HF := Lib.hid hF
  have HRB : Hid (∀ W : World, RowKit.Below (w.heap.size + 1 + 1 + 1) (((w.alloc (.cells #[.slice A n c, .string s] 29)).alloc (.cells #[.slice B m d, .string t] 29)).alloc (.cells #[.slice none 0 0, .string ⟨#[]⟩] 29)) W → RowKit.Below w.heap.size w W ∧ Reads W w.heap.size 1 B m (svL ys) ∧ Blk W (w.heap.size + 1) 29 #[.slice B m d, .string t] ∧ Blk W (w.heap.size + 1 + 1) 29 #[.slice none 0 0, .string ⟨#[]⟩]) := fun W hW => by
    have hb := hB0.trans (hW.mono (by omega))
    exact ⟨hb, h'.2.below hb, hA1.below hW (by omega), hA2.below hW (by omega)⟩
  have HI : Hid (∀ W : World, RS W B m ys → Calls Tryd.prog 26 #[.agg #[.slice B m d, .string t]] W fun e' w' => ∃ b : Bool, e' = .returned (.bool b) ∧ (b = true ↔ TinQ ys t) ∧ RowKit.Below W.heap.size W w') := fun W hW => implIn_any B m d ys t W hW hm hl' ht
  have HYL := Lib.hid h'.len
  clear h h' hl hl' hF hB0 hA1 hA2 hz hz1 hz2 hs ht
  go_enter Tryd.func36, Tryd.ntmps36
  go_wp2_with fail
  refine HF.out.mono ?_
  rintro e' w1 ⟨hb, ⟨S, u, N, mm, hT, rfl, hG, hX⟩ | ⟨hno, p, q, rfl⟩⟩
  · obtain ⟨hE1, hR1, hK1, hQ1⟩ := HRB.out w1 hb
    have hs1 : w.heap.size + 1 + 1 < w1.heap.size := hQ1.lt
    have hs1' : w.heap.size + 1 < w1.heap.size := by omega
    have hBa : RowKit.Below w1.heap.size w1 (w1.alloc (.cells #[.pointer (some ⟨mm [], 0, none⟩), .pointer (some ⟨mm u, 0, none⟩)] 54)) := (RowKit.Below.refl _ _).alloc (Nat.le_refl _) _
    have hT2 := Blk.new w1 54 #[.pointer (some ⟨mm [], 0, none⟩), .pointer (some ⟨mm u, 0, none⟩)]
    have hB2 := hb.trans (hBa.mono (by omega))
    have hG2 := hG.below hBa
    have hs2 : (w1.alloc (.cells #[.pointer (some ⟨mm [], 0, none⟩), .pointer (some ⟨mm u, 0, none⟩)] 54)).heap.size = w1.heap.size + 1 := by simp
    obtain ⟨_, hR2, hK2, _⟩ := HRB.out _ hB2
    have hC := HI.out _ ⟨HYL.out, hR2.more (by rw [hs2]; omega)⟩
    rw [hs2] at hC
    have HC := Lib.hid hC
    have k10 : w1.cell? ⟨w.heap.size + 1, 0, none⟩ = some (.slice B m d) := hK1.cell 0
    have k11 : w1.cell? ⟨w.heap.size + 1, 1, none⟩ = some (.string t) := hK1.cell 1
    have HB2 := Lib.hid hB2
    have HG2 := Lib.hid hG2
    have HT2 := Lib.hid hT2
    have HT := Lib.hid hT
    have HX := Lib.hid hX
    have HS2 := Lib.hid hs2
    clear hE1 hR1 hK1 hQ1 hBa hT2 hB2 hG2 hR2 hK2 hC hb hG hT hX HF HI hs2
    go_wp2_with fail
    refine HC.out.mono ?_
    rintro e' w3 ⟨b, rfl, hbi, hb3⟩
    have hB3 := HB2.out.trans (hb3.mono (by omega))
    have hT3 := HT2.out.below hb3 (by omega)
    have hG3 := HG2.out.below (by rw [HS2.out]; exact hb3)
    obtain ⟨hE3, hR3, hK3, hQ3⟩ := HRB.out w3 hB3
    clear HC k10 k11 hb3 HG2 HT2 HB2 HS2
    cases b with
    | false =>
      have hnq : ¬ TinQ ys t := fun h => Bool.noConfusion (hbi.2 h)
      have HOK : Hid (TimesOk zs ys s t none) := .inl ⟨fun h => hnq h.2, rfl⟩
      have c0 : w3.cell? ⟨w.heap.size + 1 + 1, 0, none⟩ = some (.slice none 0 0) := hQ3.cell 0
      have c1 : w3.cell? ⟨w.heap.size + 1 + 1, 1, none⟩ = some (.string ⟨#[]⟩) := hQ3.cell 1
      have f0 := hQ3.frozen 0
      have f1 := hQ3.frozen 1
      have hlt := hQ3.lt
      have HBE := Lib.hid ((hE3.setCell (p := ⟨w.heap.size + 1 + 1, 0, none⟩) (by simp; omega) (.slice none 0 0)).setCell (p := ⟨w.heap.size + 1 + 1, 1, none⟩) (by simp; omega) (.string ⟨#[]⟩))
      clear hB3 hT3 hG3 hE3 hR3 hK3 hQ3 hbi hnq
      go_wp2
      refine bodyPost_ret (v := .tuple #[.agg #[.slice none 0 0, .string ⟨#[]⟩], .bool false]) (by simp [results, Tryd.results36, go_sem, hlt, c0, c1]) rfl ⟨none, HOK.out, HBE.out, none, 0, 0, rfl, ⟨rfl, .inl ⟨rfl, rfl⟩⟩⟩
    | true =>
    obtain ⟨S', u', hT'⟩ := hbi.1 rfl
    have huS := HT.out.2.2.1
    have huN := (HX.out u).2 huS
    have hrU := HT.out.2.2.2.rd u huS
    have hxs : ys = (S'.map List.reverse).map txt := by rw [hT'.1, List.map_map]; rfl
    have htx : t = txt u'.reverse := by rw [hT'.2.1, strOf_txt]
    have hsl : w1.heap.size < w3.heap.size := hT3.lt
    have hGr := graft_any (w.heap.size + 1 + 1 + 1) w1.heap.size (.pointer (some ⟨mm [], 0, none⟩)) N mm u (S'.map List.reverse) u'.reverse B m d w3 hG3 huN (by omega) (by rw [txs_sv, ← hxs]; exact hR3.more (by omega)) (fun x hx => by
      obtain ⟨v, hv, rfl⟩ := List.mem_map.1 hx
      rw [List.length_reverse]; have := hT'.2.2.2.sh v hv; omega) (by rw [List.length_reverse]; have := hT'.2.2.2.sh u' hT'.2.2.1; omega) hm hT3 (by omega)
    rw [← htx] at hGr
    have HGR := Lib.hid hGr
    have k30 : w3.cell? ⟨w.heap.size + 1, 0, none⟩ = some (.slice B m d) := hK3.cell 0
    have k31 : w3.cell? ⟨w.heap.size + 1, 1, none⟩ = some (.string t) := hK3.cell 1
    have HB3 := Lib.hid hB3
    have HT' := Lib.hid hT'
    have HRU := Lib.hid hrU
    have HNN : Hid ([] ∈ N) := (HX.out []).2 HT.out.2.2.2.nil
    clear hGr hxs htx hbi hB3 hT3 hG3 hE3 hR3 hK3 hQ3 hT' huS huN hrU
    go_wp2_with fail
    refine HGR.out.mono ?_
    rintro e' w4 ⟨N2, m2, rfl, hG4, hold, hT4, hin4, hb4, hX4⟩
    have hB4 := HB3.out.trans hb4
    rw [← (hold [] HNN.out).2] at hT4
    have t40 : w4.cell? ⟨w1.heap.size, 0, none⟩ = some (.pointer (some ⟨m2 [], 0, none⟩)) := hT4.cell 0
    have t41 : w4.cell? ⟨w1.heap.size, 1, none⟩ = some (.pointer (some ⟨m2 (goW u u'.reverse), 0, none⟩)) := hT4.cell 1
    have hmem : ∀ x, x ∈ N2 ↔ x ∈ S ∨ ∃ v ∈ S', x = mulW u v := fun x => by
      rw [hX4, begs_end (List.mem_map.2 ⟨u', HT'.out.2.2.1, rfl⟩), begs_mul HT'.out.2.2.2 HRU.out, HX.out]
    have hlen : N2.length ≤ 400000 := by
      have hsub : N2 ⊆ S ++ S'.map (mulW u) := fun x hx => by
        rcases (hmem x).1 hx with h1 | ⟨v, hv, e⟩
        · exact List.mem_append_left _ h1
        · exact List.mem_append_right _ (List.mem_map.2 ⟨v, hv, e.symm⟩)
      have := hG4.tre.nd.length_le_of_subset hsub
      rw [List.length_append, List.length_map] at this
      have := HT.out.2.2.2.len
      have := HT'.out.2.2.2.len
      omega
    have HTO := Lib.hid (told_any _ _ _ _ hin4 w4 hG4 hlen)
    have HMM := Lib.hid hmem
    have HB4 := Lib.hid hB4
    have hl4 : w.heap.size + 1 + 1 < w4.heap.size := ((HRB.out w4 hB4).2.2.2).lt
    clear hG4 hold hT4 hin4 hb4 hX4 hB4 hmem hlen HGR HB3 k30 k31
    go_wp2_with fail
    refine HTO.out.mono ?_
    rintro e' w5 ⟨L, hperm, hord, hb5, hcase⟩
    have hB5 := HB4.out.trans (hb5.mono (by omega))
    obtain ⟨hE5, _, _, h1⟩ := HRB.out w5 hB5
    have c0 : w5.cell? ⟨w.heap.size + 1 + 1, 0, none⟩ = some (.slice none 0 0) := h1.cell 0
    have c1 : w5.cell? ⟨w.heap.size + 1 + 1, 1, none⟩ = some (.string ⟨#[]⟩) := h1.cell 1
    have f0 := h1.frozen 0
    have f1 := h1.frozen 1
    have hlt := h1.lt
    have hLm : ∀ x, x ∈ L ↔ x ∈ S ∨ ∃ v ∈ S', x = mulW u v := fun x => by rw [hperm.mem_iff]; exact HMM.out x
    rcases hcase with ⟨hsm, g, cp, rfl, hown⟩ | ⟨hsm, rfl⟩
    · have hsL : smlB L = true := by rw [sml_perm hperm]; exact hsm
      have HOK : Hid (TimesOk zs ys s t (some (L, mulW u u'))) := .inr ⟨S, u, S', u', L, HT.out, HT'.out, hord, hLm, by rw [hsL]; rfl⟩
      have HO := Lib.hid (own_down0 (own_far2' hown h1 (by decide) (.slice (some ⟨g, 0, none⟩) N2.length cp) (.string (strOf (goW u u'.reverse)))) (show w.heap.size ≤ w4.heap.size by omega))
      have HBE := Lib.hid ((hE5.setCell (p := ⟨w.heap.size + 1 + 1, 0, none⟩) (by simp; omega) (.slice (some ⟨g, 0, none⟩) N2.length cp)).setCell (p := ⟨w.heap.size + 1 + 1, 1, none⟩) (by simp; omega) (.string (strOf (goW u u'.reverse))))
      clear h1 hB5 hb5 hE5 hperm hord hLm hown HTO HB4 t40 t41
      generalize N2.length = ln at *
      go_wp2
      refine bodyPost_ret (v := .tuple #[.agg #[.slice (some ⟨g, 0, none⟩) ln cp, .string (strOf (goW u u'.reverse))], .bool true]) (by simp [results, Tryd.results36, go_sem, hlt, c0, c1]) rfl ⟨some (L, mulW u u'), HOK.out, HBE.out, some ⟨g, 0, none⟩, ln, cp, rfl, by show World.ownsRow _ _ _ _ _ _ (svL (L.map strOf)); rw [← wvL_sv]; exact HO.out⟩
    · have hsL : smlB L = false := by rw [sml_perm hperm]; exact hsm
      have HOK : Hid (TimesOk zs ys s t none) := .inr ⟨S, u, S', u', L, HT.out, HT'.out, hord, hLm, by rw [hsL]; rfl⟩
      have HBE := Lib.hid ((hE5.setCell (p := ⟨w.heap.size + 1 + 1, 0, none⟩) (by simp; omega) (.slice none 0 0)).setCell (p := ⟨w.heap.size + 1 + 1, 1, none⟩) (by simp; omega) (.string ⟨#[]⟩))
      clear h1 hB5 hb5 hE5 hperm hord hLm HTO HB4 t40 t41
      go_wp2
      refine bodyPost_ret (v := .tuple #[.agg #[.slice none 0 0, .string ⟨#[]⟩], .bool false]) (by simp [results, Tryd.results36, go_sem, hlt, c0, c1]) rfl ⟨none, HOK.out, HBE.out, none, 0, 0, rfl, ⟨rfl, .inl ⟨rfl, rfl⟩⟩⟩
  · obtain ⟨hE1, _, _, h1⟩ := HRB.out w1 hb
    have c0 : w1.cell? ⟨w.heap.size + 1 + 1, 0, none⟩ = some (.slice none 0 0) := h1.cell 0
    have c1 : w1.cell? ⟨w.heap.size + 1 + 1, 1, none⟩ = some (.string ⟨#[]⟩) := h1.cell 1
    have f0 := h1.frozen 0
    have f1 := h1.frozen 1
    have hlt := h1.lt
    have HOK : Hid (TimesOk zs ys s t none) := .inl ⟨fun h => hno h.1, rfl⟩
    have HBE : Hid (RowKit.Below w.heap.size w (((w1.setCell ⟨w.heap.size + 1 + 1, 0, none⟩ (.slice none 0 0)).setCell ⟨w.heap.size + 1 + 1, 1, none⟩ (.string ⟨#[]⟩)).alloc (.cells #[.pointer p, .pointer q] 54))) := by
      have hx := (hE1.setCell (p := ⟨w.heap.size + 1 + 1, 0, none⟩) (by simp; omega) (.slice none 0 0)).setCell (p := ⟨w.heap.size + 1 + 1, 1, none⟩) (by simp; omega) (.string ⟨#[]⟩)
      exact hx.alloc hx.size _
    clear hb hno h1 hE1 HF
    go_wp2
    refine bodyPost_ret (v := .tuple #[.agg #[.slice none 0 0, .string ⟨#[]⟩], .bool false]) (by simp [results, Tryd.results36, go_sem, hlt, c0, c1]) rfl ⟨none, HOK.out, HBE.out, none, 0, 0, rfl, ⟨rfl, .inl ⟨rfl, rfl⟩⟩⟩
end

end Go.Proofs.YtlcjgppclclkoaaDoor
