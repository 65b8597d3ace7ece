/-
  Kp.
-/
import Derived.Test.YtmknjifmmmnjjaaGreatDoorNS
import Derived.Test.YtmknjifmmmnjjaaGreatDoorKO
namespace Go.Proofs.YtmknjifmmmnjjaaGreatDoor
set_option maxRecDepth 100000
set_option linter.unusedVariables false
set_option linter.unusedSimpArgs false
set_option linter.unusedSectionVars false

/-! CongruenceSplits, CongruenceSize of the program. -/
section
open Go.RowKit Go.Maps

set_option maxHeartbeats 1000000 in
theorem splitsI_any (b q c : Nat) (C : Option Addr) (zs : List (List Int)) (cs : List Int) (hc : cgB zs cs = true) (hw : ∀ x ∈ cs, wfI x) (w : World) (hK : KgI w b q zs.length C zs cs) :
    Calls Tryz.prog 78 #[.agg #[.map (some b), .slice C zs.length c, .map (some q)]] w fun e w' => e = .returned (.bool (spB zs cs)) ∧ w.grownBy w' (some q) := by
  have S := sgS_iff.1 (cgB_iff.1 hc).sg
  have hn6 : zs.length ≤ 1048576 := by have := S.most; omega
  have hql := hK.q_lt
  have hb1 := (Below.refl _ w).alloc (Nat.le_refl _) (.cells #[.map (some b), .slice C zs.length c, .map (some q)] 91)
  have HBX := Lib.hid (Blk.new w 91 #[.map (some b), .slice C zs.length c, .map (some q)])
  have HK1 := Lib.hid (hK.below hb1)
  have hid := idems_any b (ent zs 0).length zs.length zs rfl hn6 S.ch S.srt _ HK1.out.sem
  have HSP := Lib.hid (splits_is hc)
  have HFL : Hid ((zs.filter idB).length ≤ zs.length) := List.length_filter_le _ _
  have HMA := Lib.hid (fun (W : World) (lo : Nat) (v : Value) (hrow) (hK : KgI W b q zs.length C zs cs) => markAllI_any b q (ent zs 0).length zs.length c lo C zs cs (zs.filter idB) v rfl hn6 (by have := HFL.out; omega) S.ch S.srt hw (fun L hL => (List.mem_filter.1 hL).1) W hrow hK)
  have k0 := HBX.out.cell 0
  clear hK hb1 hw S
  go_enter Tryz.func78, Tryz.ntmps78
  go_wp2_with fail
  refine hid.mono ?_
  rintro e w1 ⟨v, rfl, hrow, hb2⟩
  have hK2 := HK1.out.below hb2
  have hbx2 := HBX.out.below hb2 HBX.out.lt
  have e0 : w1.cell? ⟨w.heap.size, 0, none⟩ = some (.map (some b)) := hbx2.cell 0
  have e1 : w1.cell? ⟨w.heap.size, 1, none⟩ = some (.slice C zs.length c) := hbx2.cell 1
  have e2 : w1.cell? ⟨w.heap.size, 2, none⟩ = some (.map (some q)) := hbx2.cell 2
  obtain ⟨A, cp, rfl⟩ := own_shape hrow
  have hma := HMA.out w1 _ _ hrow hK2
  have hg1 : w.grownBy w1 (some q) := gbTr (gb_al0 w _ (some q)) (gb_of hb2 _)
  have HG1 := Lib.hid hg1
  generalize hnn : (zs.filter idB).length = r at *
  generalize hff : frC (cAt zs cs (zs.filter idB)) r = f at *
  have HPB : Hid (((f : Int) == (r : Int)) = spB zs cs) := by
    show _ = _
    rw [Bool.eq_iff_iff, beq_iff_eq, ← HSP.out]
    omega
  obtain ⟨sb, hsb⟩ : ∃ sb, ((f : Int) == (r : Int)) = sb := ⟨_, rfl⟩
  have HSB : Hid (sb = spB zs cs) := hsb.symm.trans HPB.out
  clear hid hrow hb2 hK2 hbx2 k0 HK1 HBX hg1 HMA HFL hnn hff HPB HSP
  go_wp2_with fail
  refine hma.mono ?_
  rintro e w2 ⟨rfl, _, hg2⟩
  have HGF := Lib.hid (gbTr HG1.out hg2)
  clear hma hg2
  go_wp2
  go_ret
  exact ⟨by rw [← HSB.out]; try rfl, HGF.out⟩
set_option maxHeartbeats 1000000 in
theorem implSplits_any (A C : Option Addr) (n c m d : Nat) (zs : List (List Int)) (cs : List Int) (w : World) (h : RSS w A n zs) (h' : RI w C m cs) (hw : ∀ x ∈ cs, wfI x) (hg : EtAt w) :
    Calls Tryz.prog 35 #[.slice A n c, .slice C m d] w fun e w' => e = .returned (.bool (spB zs cs)) ∧ Below w.heap.size w w' := by
  have hcf := cgFrom_any A C n c m d zs cs w h h' hw hg
  have HW := Lib.hid hw
  clear h h' hg hw
  go_enter Tryz.func35, Tryz.ntmps35
  go_wp2_with fail
  refine hcf.mono ?_
  rintro e w1 ⟨kv, rfl, hkv, hb⟩
  clear hcf
  cases hr : cgB zs cs
  · obtain rfl := hkv.1 hr
    have HF : Hid (spB zs cs = false) := by show _ = _; unfold spB; rw [hr]; rfl
    have HB := Lib.hid (hb.alloc hb.size (.cells #[.map none, .slice none 0 0, .map none] 91))
    clear hkv hr hb
    go_wp2
    go_ret
    exact ⟨by rw [HF.out]; try rfl, HB.out⟩
  · obtain ⟨b, q, C2, c2, rfl, hk, hbl, hql⟩ := hkv.2 hr
    have hb1 := hb.alloc hb.size (.cells #[.map (some b), .slice C2 zs.length c2, .map (some q)] 91)
    have hk1 := hk.below ((Below.refl _ w1).alloc (Nat.le_refl _) (.cells #[.map (some b), .slice C2 zs.length c2, .map (some q)] 91))
    have hsp := splitsI_any b q c2 C2 zs cs hr HW.out _ hk1
    have HBG : Hid (∀ W, (w1.alloc (.cells #[.map (some b), .slice C2 zs.length c2, .map (some q)] 91)).grownBy W (some q) → Below w.heap.size w W) := fun W hg => hb1.grown hg hb1.size (fun k e => by cases e; omega)
    clear hkv hr hb hk hk1 hb1
    obtain ⟨r, hr2⟩ : ∃ r, spB zs cs = r := ⟨_, rfl⟩
    have HSB := Lib.hid hr2
    rw [hr2] at hsp
    clear hr2
    go_wp2_with fail
    refine hsp.mono ?_
    rintro e w3 ⟨rfl, hg3⟩
    have HB3 := Lib.hid (HBG.out _ hg3)
    clear hsp hg3
    go_wp2
    go_ret
    exact ⟨by rw [HSB.out]; try rfl, HB3.out⟩
set_option maxHeartbeats 1000000 in
theorem implSize_any (A C : Option Addr) (n c m d : Nat) (zs : List (List Int)) (cs : List Int) (w : World) (h : RSS w A n zs) (h' : RI w C m cs) (hw : ∀ x ∈ cs, wfI x) (hg : EtAt w) :
    Calls Tryz.prog 40 #[.slice A n c, .slice C m d] w fun e w' => e = .returned (.tuple #[.int .i64 (szN zs cs : Nat), .bool (cgB zs cs)]) ∧ Below w.heap.size w w' := by
  have hcf := cgFrom_any A C n c m d zs cs w h h' hw hg
  have HW := Lib.hid hw
  clear h h' hg hw
  go_enter Tryz.func40, Tryz.ntmps40
  go_wp2_with fail
  refine hcf.mono ?_
  rintro e w1 ⟨kv, rfl, hkv, hb⟩
  clear hcf
  cases hr : cgB zs cs
  · obtain rfl := hkv.1 hr
    have HF : Hid (szN zs cs = 0) := by show _ = _; unfold szN; rw [hr]; rfl
    have HCC := Lib.hid hr
    have hb1 := hb.alloc hb.size (.cells #[.map none, .slice none 0 0, .map none] 91)
    have hbx := Blk.new w1 91 #[.map none, .slice none 0 0, .map none]
    clear hkv hr hb
    go_wp2_with fail
    generalize w1.alloc (.cells #[.map none, .slice none 0 0, .map none] 91) = w2 at *
    have d0 : w2.cell? ⟨w1.heap.size, 0, none⟩ = some (.map none) := hbx.cell 0
    have d1 : w2.cell? ⟨w1.heap.size, 1, none⟩ = some (.slice none 0 0) := hbx.cell 1
    have d2 : w2.cell? ⟨w1.heap.size, 2, none⟩ = some (.map none) := hbx.cell 2
    have hb2 := hb1.drew
    have hbx2 := hbx.drew
    go_region_law (first
      | (go_simp
         go_at_call 83
         refine (charts_none _).mono ?_
         rintro e w5 ⟨G, rfl, hb5⟩
         have hb2 := hb2.trans (hb5.mono hb2.size)
         have hbx2 := hbx2.below hb5 hbx2.lt
         have d0 : w5.cell? ⟨w1.heap.size, 0, none⟩ = some (.map none) := hbx2.cell 0
         have d1 : w5.cell? ⟨w1.heap.size, 1, none⟩ = some (.slice none 0 0) := hbx2.cell 1
         have d2 : w5.cell? ⟨w1.heap.size, 2, none⟩ = some (.map none) := hbx2.cell 2)
      | (go_simp
         go_at_call 82
         refine (markAllI_none _ _).mono ?_
         rintro e w6 ⟨rfl, hb6⟩
         have hb3 := hb2.trans (hb6.mono hb2.size)))
    all_goals
      have HB3 := Lib.hid hb3
      clear hb3 hb2 hbx2 hb6 hb5 hb1 hbx
      (try simp only [List.getElem_toArray, List.getElem_cons_succ, List.getElem_cons_zero, Act.put, List.setIfInBounds_toArray, List.set_cons_zero, List.set_cons_succ])
      go_wp2
      go_ret2
      exact ⟨by (try rw [HCC.out]); rw [HF.out]; try rfl, HB3.out⟩
  · obtain ⟨b, q, C2, c2, rfl, hk, hbl, hql⟩ := hkv.2 hr
    have S := sgS_iff.1 (cgB_iff.1 hr).sg
    have hn6 : zs.length ≤ 1048576 := by have := S.most; omega
    have hb1 := hb.alloc hb.size (.cells #[.map (some b), .slice C2 zs.length c2, .map (some q)] 91)
    have hk1 := hk.below ((Below.refl _ w1).alloc (Nat.le_refl _) (.cells #[.map (some b), .slice C2 zs.length c2, .map (some q)] 91))
    have hbx := Blk.new w1 91 #[.map (some b), .slice C2 zs.length c2, .map (some q)]
    have HSZ : Hid (frC (cAt zs cs zs) zs.length = szN zs cs) := size_is hr
    have HCC := Lib.hid hr
    have HCH := Lib.hid (fun (W : World) (hK : KgI W b q zs.length C2 zs cs) => charts_any b (ent zs 0).length zs.length zs rfl hn6 S.ch S.srt W hK.sem)
    have HMA := Lib.hid (fun (W : World) (lo : Nat) (v : Value) (hrow) (hK : KgI W b q zs.length C2 zs cs) => markAllI_any b q (ent zs 0).length zs.length c2 lo C2 zs cs zs v rfl hn6 hn6 S.ch S.srt HW.out (fun L hL => hL) W hrow hK)
    rw [HSZ.out] at HMA
    clear hkv hr hb hk S
    go_wp2_with fail
    generalize w1.alloc (.cells #[.map (some b), .slice C2 zs.length c2, .map (some q)] 91) = w2 at *
    have d0 : w2.cell? ⟨w1.heap.size, 0, none⟩ = some (.map (some b)) := hbx.cell 0
    have d1 : w2.cell? ⟨w1.heap.size, 1, none⟩ = some (.slice C2 zs.length c2) := hbx.cell 1
    have d2 : w2.cell? ⟨w1.heap.size, 2, none⟩ = some (.map (some q)) := hbx.cell 2
    have hb2 := hb1.drew
    have hbx2 := hbx.drew
    have hk2 := hk1.below (below_drewN (Below.refl _ w2) 1)
    go_region_law (first
      | (go_simp
         go_at_call 83
         refine (HCH.out _ hk2).mono ?_
         rintro e w5 ⟨G, rfl, hrow5, hb5⟩
         have hb2 := hb2.trans (hb5.mono hb2.size)
         have hk2 := hk2.below hb5
         have hbx2 := hbx2.below hb5 hbx2.lt
         have d0 : w5.cell? ⟨w1.heap.size, 0, none⟩ = some (.map (some b)) := hbx2.cell 0
         have d1 : w5.cell? ⟨w1.heap.size, 1, none⟩ = some (.slice C2 zs.length c2) := hbx2.cell 1
         have d2 : w5.cell? ⟨w1.heap.size, 2, none⟩ = some (.map (some q)) := hbx2.cell 2)
      | (go_simp
         go_at_call 82
         refine (HMA.out _ _ _ hrow5 hk2).mono ?_
         rintro e w6 ⟨rfl, _, hg6⟩
         have hb3 := hb2.grown hg6 hb2.size (fun k e => by cases e; omega)))
    all_goals
      have HB3 := Lib.hid hb3
      clear hb3 hb2 hbx2 hg6 hb5 hb1 hbx hk2 hk1 hrow5
      (try simp only [List.getElem_toArray, List.getElem_cons_succ, List.getElem_cons_zero, Act.put, List.setIfInBounds_toArray, List.set_cons_zero, List.set_cons_succ])
      go_wp2
      go_ret2
      exact ⟨by (try rw [HCC.out]); try rfl, HB3.out⟩
end

end Go.Proofs.YtmknjifmmmnjjaaGreatDoor
