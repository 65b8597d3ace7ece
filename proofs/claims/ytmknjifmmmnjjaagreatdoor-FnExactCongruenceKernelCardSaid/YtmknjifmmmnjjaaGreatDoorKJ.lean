/-
  Ki.
-/
import Derived.Test.YtmknjifmmmnjjaaGreatDoorKI
namespace Go.Proofs.YtmknjifmmmnjjaaGreatDoor
set_option maxRecDepth 100000
set_option linter.unusedVariables false
set_option linter.unusedSimpArgs false
set_option linter.unusedSectionVars false

/-! impl.congruenceOf at class numbers; (impl.congruence[int]).agrees. -/
section
open Go.RowKit Go.Maps

set_option maxHeartbeats 2000000 in
theorem cgOfI_any (b m n gf : Nat) (ca cb : Array Value) (zs : List (List Int)) (hn : zs.length = n) (hn6 : n ≤ 1048576) (hz : ∀ L ∈ zs, isC L = true ∧ L.length = m) (hs : Srt zs) (f : List Int → Int) (w : World)
    (eg : ∀ args w, (callFunc gf args).run Tryz.prog w = .ok (.enter gf args) w)
    (hp : ∀ L ∈ zs, ∀ W, Below w.heap.size w W → Calls Tryz.prog gf (ca ++ #[.agg #[.int .i64 ((m : Int)), .int .i64 (ofL L 0), .int .i64 (ofL L 1), .int .i64 (ofL L 2), .int .i64 (ofL L 3), .int .i64 (ofL L 4), .int .i64 (ofL L 5)]] ++ cb) W fun e W' => e = .returned (.int .i64 (f L)) ∧ Below W.heap.size W W')
    (hown : w.ownsMap Tryz.prog 61 (plainElem (H := Unit) Tryz.prog 3) b n (mapP klL zs n)) :
    Calls Tryz.prog 117 #[.map (some b), .func (.func gf) ca cb] w fun e w' => ∃ C c q, e = .returned (.agg #[.map (some b), .slice C n c, .map (some q)]) ∧ w.heap.size ≤ q ∧ KgI w' b q n C zs (zs.map f) ∧ (∀ ad, C = some ad → w.heap.size ≤ ad.block) ∧ Below w.heap.size w w' := by
  obtain ⟨i0, hi, hi0, hi1, hi2⟩ := info_parts info_int
  have hbl := hown.lt
  have hB0 := (Below.refl _ w).alloc (Nat.le_refl _) (.cells #[.map none, .slice none 0 0, .map none] 91)
  have hs0 : w.heap.size + 1 = (w.alloc (.cells #[.map none, .slice none 0 0, .map none] 91)).heap.size := by simp
  have HBX := Lib.hid (Blk.new w 91 #[.map none, .slice none 0 0, .map none])
  have hown0 := hown.alloc (.cells #[.map none, .slice none 0 0, .map none] 91)
  have HN := Lib.hid hn
  have HP := Lib.hid hp
  clear hn hp hown
  have hmm := @ run_makeMap Tryz.prog
  go_enter Tryz.func117, Tryz.ntmps117
  go_wp2_with fail
  generalize w.alloc (.cells #[.map none, .slice none 0 0, .map none] 91) = W0 at *
  have hch := charts_any b m n zs HN.out hn6 hz hs W0 hown0
  have HS0 := Lib.hid hs0
  have HOW := Lib.hid (fun (W : World) (hW : Below W0.heap.size W0 W) => ownsMap_same hown0 (hW.block b hown0.lt))
  have HB0 := Lib.hid hB0
  have HBW : Hid (∀ W, Below W0.heap.size W0 W → Below w.heap.size w W) := fun W hW => HB0.out.trans (hW.mono HB0.out.size)
  clear hs hown0 hs0 hB0
  refine hch.mono ?_
  rintro e w1 ⟨G, rfl, hrow, hb1⟩
  have hC1 : Chs w1 G m zs := Chs.of_own (by rw [HN.out]; exact hrow)
  have hG := (hrow.lt G rfl).2
  have HG1 : Hid (G < w1.heap.size) := hG
  have hs01 := hb1.size
  clear hch hrow
  go_wp2
  go_loopw [5, 7, 11] (fun v _ i wr => ∃ k : Nat, k ≤ n ∧ i = .int .i64 (k : Int) ∧ wr.ownsRow w1.heap.size 3 1 v k (ivs ((zs.take k).map f)) ∧ Chs wr G m zs ∧ G < wr.heap.size ∧ Below W0.heap.size W0 wr ∧ w1.heap.size ≤ wr.heap.size) (fun _ _ i _ => n - (intOf i).toNat)
  case atStart => exact ⟨0, Nat.zero_le _, rfl, World.ownsRow_nil _ _ _ _, hC1, hG, hb1, Nat.le_refl _⟩
  case round =>
    clear hC1 hG
    obtain ⟨k, hk, rfl, hown, hC, hG, hB, hs1⟩ := hrel
    by_cases hlt : k < n
    · have hkl : k < zs.length := by have := HN.out; omega
      obtain ⟨L, hL⟩ : ∃ L, zs[k]? = some L := ⟨_, List.getElem?_eq_getElem hkl⟩
      obtain ⟨c0, c1, c2, c3, c4, c5, c6⟩ := hC.all hL
      have hB1 := hB.alloc hB.size (.cells #[.int .i64 ((m : Int)), .int .i64 (ofL L 0), .int .i64 (ofL L 1), .int .i64 (ofL L 2), .int .i64 (ofL L 3), .int .i64 (ofL L 4), .int .i64 (ofL L 5)] 61)
      have hcall := HP.out L (List.mem_of_getElem? hL) (wr.alloc (.cells #[.int .i64 ((m : Int)), .int .i64 (ofL L 0), .int .i64 (ofL L 1), .int .i64 (ofL L 2), .int .i64 (ofL L 3), .int .i64 (ofL L 4), .int .i64 (ofL L 5)] 61)) (HBW.out _ hB1)
      have hown1 := hown.alloc (.cells #[.int .i64 ((m : Int)), .int .i64 (ofL L 0), .int .i64 (ofL L 1), .int .i64 (ofL L 2), .int .i64 (ofL L 3), .int .i64 (ofL L 4), .int .i64 (ofL L 5)] 61)
      have hC2 := hC.same (Below.heap_alloc wr (.cells #[.int .i64 ((m : Int)), .int .i64 (ofL L 0), .int .i64 (ofL L 1), .int .i64 (ofL L 2), .int .i64 (ofL L 3), .int .i64 (ofL L 4), .int .i64 (ofL L 5)] 61) G hG)
      have hG2 : G < (wr.alloc (.cells #[.int .i64 ((m : Int)), .int .i64 (ofL L 0), .int .i64 (ofL L 1), .int .i64 (ofL L 2), .int .i64 (ofL L 3), .int .i64 (ofL L 4), .int .i64 (ofL L 5)] 61)).heap.size := by simp; omega
      have hs2 : w1.heap.size ≤ (wr.alloc (.cells #[.int .i64 ((m : Int)), .int .i64 (ofL L 0), .int .i64 (ofL L 1), .int .i64 (ofL L 2), .int .i64 (ofL L 3), .int .i64 (ofL L 4), .int .i64 (ofL L 5)] 61)).heap.size := by simp; omega
      have HST : Hid (ivs ((zs.take k).map f) ++ [.int .i64 (f L)] = ivs ((zs.take (k + 1)).map f)) := by
        show _ = _
        have hg := List.getElem?_eq_some_iff.1 hL
        rw [List.take_succ_eq_append_getElem hg.1, hg.2]; simp [ivs]
      clear hown hC hL
      generalize f L = fl at *
      go_wp2_with fail
      refine hcall.mono ?_
      rintro e w2 ⟨rfl, hb2⟩
      have hown2 := own_below hown1 hb2
      have hC3 := hC2.same (hb2.block G hG2)
      have hG3 : G < w2.heap.size := by have := hb2.size; omega
      have hs3 : w1.heap.size ≤ w2.heap.size := by have := hb2.size; omega
      have hB2 := hB1.trans (hb2.mono hB1.size)
      have p1 : k + 1 ≤ maxLen := by unfold maxLen; omega
      have p2 : (k + 1) * 8 ≤ 140737488355328 := by omega
      have p3 : w1.heap.size ≤ (w2.alloc (.cells #[.int .i64 fl] 3)).heap.size := by simp; omega
      have hrow2 := hown2.alloc (.cells #[.int .i64 fl] 3)
      have hbg := Below.heap_alloc w2 (.cells #[.int .i64 fl] 3) G hG3
      have hB3 := hB2.alloc hB2.size (.cells #[.int .i64 fl] 3)
      clear hown1 hC2 hG2 hs2 hb2 hB1 hcall hown2
      go_wp2_with (at_builtin; refine wpList_append_own _ rfl _ _ 24 rfl w1.heap.size 3 i0 (.int .i64 0) 1 8 Tryz.underlying24 hi hi0 hi1 hi2 rfl (by decide) _ _ _ rfl hrow2 ⟨w2.heap.size, 0, none⟩ 1 1 [.int .i64 fl] rfl rfl (cell_one_new _ _ _) (by simp [Value.oneCell']) p1 p2 p3 ?_; intro v' w4 hown' hgrow _)
      rw [HST.out] at hown'
      have hC4 : Chs w4 G m zs := hC3.same ((hgrow.block G (by simp; omega) (fun e => by have := (hrow2.lt G e.symm).1; have := HG1.out; omega)).trans hbg)
      have hgs := hgrow.size
      have hB4 := hB3.grown hgrow (by have := hB2.size; simp; omega) (fun g e => by have := (hrow2.lt g e).1; omega)
      clear hrow2 hgrow hB3 hB2 hC3 hbg
      go_roundw
      case rel => exact ⟨k + 1, by omega, by go_num, hown', hC4, by simp at hgs; omega, hB4, by simp at hgs; omega⟩
      case measure => simp [intOf]; omega
    · obtain rfl : k = n := by omega
      have e : zs.take k = zs := List.take_of_length_le (by have := HN.out; omega)
      rw [e] at hown
      obtain ⟨C, c, rfl⟩ := own_slice hown
      have hbx := HBX.out.below hB (by have := HS0.out; omega)
      have r0 : wr.cell? ⟨w.heap.size, 0, none⟩ = some (.map none) := hbx.cell 0
      have r1 : wr.cell? ⟨w.heap.size, 1, none⟩ = some (.slice none 0 0) := hbx.cell 1
      have r2 : wr.cell? ⟨w.heap.size, 2, none⟩ = some (.map none) := hbx.cell 2
      have f0 := hbx.frozen 0
      have f1 := hbx.frozen 1
      have f2 := hbx.frozen 2
      have hlr := hbx.lt
      have hsem := HOW.out wr hB
      have hne : (Value.slice C k c).ownBlock ≠ some w.heap.size := own_blk_ne hown hbx (by decide)
      have hBf := HBW.out wr hB
      have hcls : (((wr.setCell ⟨w.heap.size, 0, none⟩ (.map (some b))).setCell ⟨w.heap.size, 1, none⟩ (.slice C k c)).setCell ⟨w.heap.size, 2, none⟩ (.map (some wr.heap.size))).ownsRow w1.heap.size 3 1 (.slice C k c) k (ivs (zs.map f)) :=
        ownsRow_setCell_other (ownsRow_setCell_other (ownsRow_setCell_other hown (a := ⟨w.heap.size, 0, none⟩) hne _) (a := ⟨w.heap.size, 1, none⟩) hne _) (a := ⟨w.heap.size, 2, none⟩) hne _
      have hse2 := ((hsem.setCell (a := ⟨w.heap.size, 0, none⟩) (show b ≠ w.heap.size by omega) (.map (some b))).setCell (a := ⟨w.heap.size, 1, none⟩) (show b ≠ w.heap.size by omega) (.slice C k c)).setCell (a := ⟨w.heap.size, 2, none⟩) (show b ≠ w.heap.size by omega) (.map (some wr.heap.size))
      have hBF := ((hBf.setCell (p := ⟨w.heap.size, 0, none⟩) (Nat.le_refl _) (.map (some b))).setCell (p := ⟨w.heap.size, 1, none⟩) (Nat.le_refl _) (.slice C k c)).setCell (p := ⟨w.heap.size, 2, none⟩) (Nat.le_refl _) (.map (some wr.heap.size))
      have hm0 := World.ownsMap_made (((wr.setCell ⟨w.heap.size, 0, none⟩ (.map (some b))).setCell ⟨w.heap.size, 1, none⟩ (.slice C k c)).setCell ⟨w.heap.size, 2, none⟩ (.map (some wr.heap.size))) Tryz.prog 3 (plainElem (H := Unit) Tryz.prog 3)
      have HLO : Hid (∀ ad, C = some ad → w.heap.size ≤ ad.block) := fun ad e => by
        subst e
        have := (hown.lt ad.block (by rfl)).1
        have := HS0.out
        omega
      have hszS : (((wr.setCell ⟨w.heap.size, 0, none⟩ (.map (some b))).setCell ⟨w.heap.size, 1, none⟩ (.slice C k c)).setCell ⟨w.heap.size, 2, none⟩ (.map (some wr.heap.size))).heap.size = wr.heap.size := by simp [World.setCell]
      rw [hszS] at hm0
      have HK : Hid (KgI ((((wr.setCell ⟨w.heap.size, 0, none⟩ (.map (some b))).setCell ⟨w.heap.size, 1, none⟩ (.slice C k c)).setCell ⟨w.heap.size, 2, none⟩ (.map (some wr.heap.size))).alloc (.map #[] 0)) b wr.heap.size k C zs (zs.map f)) :=
        ⟨hse2.alloc _, ⟨_, _, hm0⟩, RI.of_own (hcls.alloc _), by omega⟩
      have HBF := Lib.hid (hBF.alloc (by rw [hszS]; omega) (.map #[] 0))
      clear hown hm0 hsem hcls hBf hbx hne hse2 hBF hszS
      go_wp2
      exact bodyPost_ret (v := .agg #[.map (some b), .slice C k c, .map (some wr.heap.size)]) (by simp [results, Tryz.results117, go_sem, r0, r1, r2, hlr]) rfl ⟨_, _, _, rfl, by omega, HK.out, HLO.out, HBF.out⟩
end

end Go.Proofs.YtmknjifmmmnjjaaGreatDoor
