/-
  Part.
-/
import Derived.Test.YtkfiehndlgplgaaGreatDoorNP
import Derived.Test.YtkfiehndlgplgaaGreatDoorNQ
namespace Go.Proofs.YtkfiehndlgplgaaGreatDoor
set_option maxRecDepth 100000
set_option linter.unusedVariables false
set_option linter.unusedSimpArgs false
set_option linter.unusedSectionVars false

/-! (impl.semigroup).part, (impl.semigroup).idems. -/
section
open Go.RowKit Go.Maps

set_option maxHeartbeats 2000000 in
theorem part_any {H : Type} (b m n gf : Nat) (ca cb : Array Value) (zs : List (List Int)) (hn : zs.length = n) (hn6 : n ≤ 1048576) (hz : ∀ L ∈ zs, isC L = true ∧ L.length = m) (hs : Srt zs) (p : List Int → Bool) (w : World)
    (eg : ∀ args w, (callFunc gf args).run Tryz.prog w = .ok (.enter gf args) w)
    (hp : ∀ L ∈ zs, ∀ W, Below w.heap.size w W → Calls Tryz.prog gf (ca ++ #[.agg #[.int .i64 ((m : Int)), .int .i64 (ofL L 0), .int .i64 (ofL L 1), .int .i64 (ofL L 2), .int .i64 (ofL L 3), .int .i64 (ofL L 4), .int .i64 (ofL L 5)]] ++ cb) W fun e W' => e = .returned (.bool (p L)) ∧ Below W.heap.size W W')
    (hown : w.ownsMap Tryz.prog 58 (plainElem (H := H) Tryz.prog 3) b n (mapP klL zs n)) :
    Calls Tryz.prog 105 #[.map (some b), .func (.func gf) ca cb] w fun e w' => ∃ v, e = .returned v ∧ w'.ownsRow w.heap.size 58 7 v (zs.filter p).length (cwc m (zs.filter p)) ∧ Below w.heap.size w w' := by
  obtain ⟨i1, hj, hj0, hj1, hj2⟩ := info_parts info_chart7
  have hch := charts_any b m n zs hn hn6 hz hs w hown
  have HN := Lib.hid hn
  have HP := Lib.hid hp
  clear hz hs hown hn hp
  go_enter Tryz.func105, Tryz.ntmps105
  go_wp2_with fail
  refine hch.mono ?_
  rintro e w1 ⟨G, rfl, hrow, hb1⟩
  have hC1 : Chs w1 G m zs := Chs.of_own (by rw [HN.out]; exact hrow)
  have hG := (hrow.lt G rfl).2
  have HG1 : Hid (G < w1.heap.size) := hG
  clear hch hrow
  go_wp2
  go_loopw [5, 7, 11] (fun v _ i wr => ∃ k : Nat, k ≤ n ∧ i = .int .i64 (k : Int) ∧ wr.ownsRow w1.heap.size 58 7 v ((zs.take k).filter p).length (cwc m ((zs.take k).filter p)) ∧ Chs wr G m zs ∧ G < wr.heap.size ∧ Below w.heap.size w wr ∧ w1.heap.size ≤ wr.heap.size) (fun _ _ i _ => n - (intOf i).toNat)
  case atStart => exact ⟨0, Nat.zero_le _, rfl, World.ownsRow_nil _ _ _ _, hC1, hG, hb1, Nat.le_refl _⟩
  case round =>
    clear hC1 hG
    obtain ⟨k, hk, rfl, hown, hC, hG, hB, hs1⟩ := hrel
    by_cases hlt : k < n
    · have hkl : k < zs.length := by have := HN.out; omega
      obtain ⟨L, hL⟩ : ∃ L, zs[k]? = some L := ⟨_, List.getElem?_eq_getElem hkl⟩
      obtain ⟨c0, c1, c2, c3, c4, c5, c6⟩ := hC.all hL
      have hE : ent zs k = L := by unfold ent; rw [hL]; rfl
      have hB1 := hB.alloc hB.size (.cells #[.int .i64 ((m : Int)), .int .i64 (ofL L 0), .int .i64 (ofL L 1), .int .i64 (ofL L 2), .int .i64 (ofL L 3), .int .i64 (ofL L 4), .int .i64 (ofL L 5)] 58)
      have hcall := HP.out L (List.mem_of_getElem? hL) (wr.alloc (.cells #[.int .i64 ((m : Int)), .int .i64 (ofL L 0), .int .i64 (ofL L 1), .int .i64 (ofL L 2), .int .i64 (ofL L 3), .int .i64 (ofL L 4), .int .i64 (ofL L 5)] 58)) hB1
      have hown1 := hown.alloc (.cells #[.int .i64 ((m : Int)), .int .i64 (ofL L 0), .int .i64 (ofL L 1), .int .i64 (ofL L 2), .int .i64 (ofL L 3), .int .i64 (ofL L 4), .int .i64 (ofL L 5)] 58)
      have hC2 := hC.same (Below.heap_alloc wr (.cells #[.int .i64 ((m : Int)), .int .i64 (ofL L 0), .int .i64 (ofL L 1), .int .i64 (ofL L 2), .int .i64 (ofL L 3), .int .i64 (ofL L 4), .int .i64 (ofL L 5)] 58) G hG)
      have hG2 : G < (wr.alloc (.cells #[.int .i64 ((m : Int)), .int .i64 (ofL L 0), .int .i64 (ofL L 1), .int .i64 (ofL L 2), .int .i64 (ofL L 3), .int .i64 (ofL L 4), .int .i64 (ofL L 5)] 58)).heap.size := by simp; omega
      have hs2 : w1.heap.size ≤ (wr.alloc (.cells #[.int .i64 ((m : Int)), .int .i64 (ofL L 0), .int .i64 (ofL L 1), .int .i64 (ofL L 2), .int .i64 (ofL L 3), .int .i64 (ofL L 4), .int .i64 (ofL L 5)] 58)).heap.size := by simp; omega
      have hBx := Cb.new wr (m : Int) (ofL L)
      clear hown hC hL
      go_wp2_with fail
      refine hcall.mono ?_
      rintro e w2 ⟨rfl, hb2⟩
      have hown2 := own_below hown1 hb2
      have hC3 := hC2.same (hb2.block G hG2)
      have hG3 : G < w2.heap.size := by have := hb2.size; omega
      have hs3 : w1.heap.size ≤ w2.heap.size := by have := hb2.size; omega
      have hB2 := hB1.trans (hb2.mono hB1.size)
      have hBx2 := hBx.below hb2 hBx.lt
      clear hown1 hC2 hG2 hs2 hb2 hBx hB1 hcall
      cases hpL : p L
      · have HT := Lib.hid (filt_no (p := p) hkl (by rw [hE]; exact hpL))
        clear hE hkl hBx2 hpL
        go_wp2
        go_roundw
        case rel => exact ⟨k + 1, by omega, by go_num, by rw [HT.out]; exact hown2, hC3, hG3, hB2, hs3⟩
        case measure => simp [intOf]; omega
      · have HT := Lib.hid (filt_yes (p := p) hkl (by rw [hE]; exact hpL))
        rw [hE] at HT
        have hfl : ((zs.take k).filter p).length ≤ k := Nat.le_trans (List.length_filter_le _ _) (by rw [List.length_take]; omega)
        obtain ⟨b0, b1, b2, b3, b4, b5, b6⟩ := hBx2.all
        have p1 : ((zs.take k).filter p).length + 1 ≤ maxLen := by unfold maxLen; omega
        have p2 : (((zs.take k).filter p).length + 1) * 56 ≤ 140737488355328 := by omega
        have p3 : w1.heap.size ≤ (w2.alloc (.cells #[.int .i64 ((m : Int)), .int .i64 (ofL L 0), .int .i64 (ofL L 1), .int .i64 (ofL L 2), .int .i64 (ofL L 3), .int .i64 (ofL L 4), .int .i64 (ofL L 5)] 58)).heap.size := by simp; omega
        have hrow2 := hown2.alloc (.cells #[.int .i64 ((m : Int)), .int .i64 (ofL L 0), .int .i64 (ofL L 1), .int .i64 (ofL L 2), .int .i64 (ofL L 3), .int .i64 (ofL L 4), .int .i64 (ofL L 5)] 58)
        have hcl := cell_7_new w2 m (ofL L)
        have hbg := Below.heap_alloc w2 (.cells #[.int .i64 ((m : Int)), .int .i64 (ofL L 0), .int .i64 (ofL L 1), .int .i64 (ofL L 2), .int .i64 (ofL L 3), .int .i64 (ofL L 4), .int .i64 (ofL L 5)] 58) G hG3
        have hB3 := hB2.alloc hB2.size (.cells #[.int .i64 ((m : Int)), .int .i64 (ofL L 0), .int .i64 (ofL L 1), .int .i64 (ofL L 2), .int .i64 (ofL L 3), .int .i64 (ofL L 4), .int .i64 (ofL L 5)] 58)
        have hws := hb1.size
        have HGN : Hid (∀ g, u5.ownBlock = some g → w1.heap.size ≤ g) := fun g e => (hown2.lt g e).1
        generalize (zs.take k).filter p = Ls at *
        clear hE hkl hBx2 hpL hown2 hB2
        go_wp2_with (at_builtin; refine wpList_append_own _ rfl _ _ 65 rfl w1.heap.size 58 i1 (.agg #[.int .i64 ((0 : Int)), .int .i64 ((fun _ => (0 : Int)) 0), .int .i64 ((fun _ => (0 : Int)) 1), .int .i64 ((fun _ => (0 : Int)) 2), .int .i64 ((fun _ => (0 : Int)) 3), .int .i64 ((fun _ => (0 : Int)) 4), .int .i64 ((fun _ => (0 : Int)) 5)]) 7 56 Tryz.underlying65 hj hj0 hj1 hj2 rfl (by decide) _ _ _ rfl hrow2 ⟨w2.heap.size, 0, none⟩ 1 1 (c7 m (ofL L)) rfl rfl hcl (c7_one _ _) p1 p2 p3 ?_; intro v' w4 hown' hgrow _)
        have hC4 : Chs w4 G m zs := hC3.same ((hgrow.block G (by simp; omega) (fun e => by have := (hrow2.lt G e.symm).1; have := HG1.out; omega)).trans hbg)
        have hgs := hgrow.size
        go_roundw
        case rel => exact ⟨k + 1, by omega, by go_num, by rw [HT.out, List.length_append, cwc_append, cwc_one_]; exact hown', hC4, by simp at hgs; omega, hB3.grown hgrow (by simp; omega) (fun g e => by have := (hrow2.lt g e).1; omega), by simp at hgs; omega⟩
        case measure => simp [intOf]; omega
    · obtain rfl : k = n := by omega
      have e : zs.take k = zs := List.take_of_length_le (by have := HN.out; omega)
      rw [e] at hown
      go_wp2
      go_ret
      exact ⟨_, rfl, own_base hown hb1.size, hB⟩
end

end Go.Proofs.YtkfiehndlgplgaaGreatDoor
