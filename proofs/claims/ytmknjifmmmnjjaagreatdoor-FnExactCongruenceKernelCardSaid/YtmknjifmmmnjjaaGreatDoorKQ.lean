/-
  Kq.
-/
import Derived.Test.YtmknjifmmmnjjaaGreatDoorKG
import Derived.Test.YtmknjifmmmnjjaaGreatDoorKP
namespace Go.Proofs.YtmknjifmmmnjjaaGreatDoor
set_option maxRecDepth 100000
set_option linter.unusedVariables false
set_option linter.unusedSimpArgs false
set_option linter.unusedSectionVars false

/-! CongruenceKernel of the program. -/
section
open Go.RowKit Go.Maps

theorem krL_le (zs : List (List Int)) (cs : List Int) : (krL zs cs).length ≤ 400 ∧ totL (krL zs cs) ≤ 2400 ∧ ∀ L ∈ krL zs cs, L.length ≤ 1048576 := by
  unfold krL
  split
  · rename_i h; exact sub_le (cgB_iff.1 h).sg (List.length_filter_le _ _) (fun L hL => (List.mem_filter.1 hL).1)
  · exact nil_le
/-- the charts whose class one that moves no point to another has -/
theorem krP_iff {zs : List (List Int)} {cs : List Int} (hs : Srt zs) {L : List Int} : (∃ i, i < (zs.filter idB).length ∧ kfI (cAt zs cs (zs.filter idB) i) = kfI (kC zs cs L)) ↔ krP zs cs L = true := by
  unfold krP mkB
  rw [List.any_eq_true]
  constructor
  · rintro ⟨i, hi, e⟩
    have e := kfI_inj e
    have hm := ent_mem hi
    obtain ⟨hm1, hm2⟩ := List.mem_filter.1 hm
    obtain ⟨j, hj, ej⟩ := mem_ent hm1
    refine ⟨j, List.mem_range.2 hj, ?_⟩
    rw [Bool.and_eq_true, decide_eq_true_eq, ej]
    refine ⟨hm2, ?_⟩
    unfold cAt at e
    rw [← e, ← ej]; unfold kC; rw [ixP_at hs hj]
  · rintro ⟨j, hj, e⟩
    rw [Bool.and_eq_true, decide_eq_true_eq] at e
    have hj := List.mem_range.1 hj
    have hm : ent zs j ∈ zs.filter idB := List.mem_filter.2 ⟨ent_mem hj, e.1⟩
    obtain ⟨i, hi, ei⟩ := mem_ent hm
    refine ⟨i, hi, ?_⟩
    congr 1
    unfold cAt
    rw [ei, ← e.2]
    show kC zs cs (ent zs j) = _
    unfold kC; rw [ixP_at hs hj]
theorem lookI {q nn : Nat} {D : DataW Unit} {w : World} {x : Int} (hm : w.ownsMap Tryz.prog 3 (plainElem (H := Unit) Tryz.prog 3) q nn D) (hx : wfI x) :
    ∃ z, (Instr.lookup 89 (.map (some q)) (.int .i64 x) true).run Tryz.prog w = .ok (.tuple #[.int .i64 z, .bool (Maps.has D (kfI x))]) w := by
  have hkey : keyOf Tryz.prog 3 (.int .i64 x) = some (kfI x) := keyOf_int_mk Tryz.underlying3 hx
  have hz : (zeroValue 3).run Tryz.prog w = .ok (.int .i64 0) w := by kernel_rfl
  obtain ⟨v, ps, hrun, hv⟩ := hm.look_ok (int_keyed Tryz.underlying3) Tryz.underlying89 hz (plainElem_int Tryz.underlying3 (by decide)) hkey
  obtain ⟨c, rfl, _, _⟩ := plainElem_int_inv Tryz.underlying3 hv
  exact ⟨c, hrun⟩
set_option maxHeartbeats 1000000 in
theorem kernelF_any (b q m n c B nn : Nat) (C : Option Addr) (zs : List (List Int)) (cl L : List Int) (D : DataW Unit) (w : World) (hn : zs.length = n) (hz : ∀ L ∈ zs, isC L = true ∧ L.length = m) (hs : Srt zs) (hL : L ∈ zs) (hw : ∀ x ∈ cl, wfI x)
    (hown : w.ownsMap Tryz.prog 61 (plainElem (H := Unit) Tryz.prog 3) b n (mapP klL zs n)) (hC : RI w C n cl)
    (hm : w.ownsMap Tryz.prog 3 (plainElem (H := Unit) Tryz.prog 3) q nn D) (hbx : Blk w B 91 #[.map (some b), .slice C n c, .map (some q)]) :
    Calls Tryz.prog 132 #[.agg #[.int .i64 ((m : Int)), .int .i64 (ofL L 0), .int .i64 (ofL L 1), .int .i64 (ofL L 2), .int .i64 (ofL L 3), .int .i64 (ofL L 4), .int .i64 (ofL L 5)], .pointer (some ⟨B, 0, none⟩)] w fun e w' => e = .returned (.bool (Maps.has D (kfI (kC zs cl L)))) ∧ Below w.heap.size w w' := by
  have hkw : wfI (kC zs cl L) := by
    have hi := (ixP_mem hs hL).1
    unfold kC ofL; rw [List.getElem?_eq_getElem (by rw [hC.len, ← hn]; exact hi)]
    exact hw _ (List.getElem_mem _)
  have hb1 := (Below.refl _ w).alloc (Nat.le_refl _) (.cells #[.int .i64 ((m : Int)), .int .i64 (ofL L 0), .int .i64 (ofL L 1), .int .i64 (ofL L 2), .int .i64 (ofL L 3), .int .i64 (ofL L 4), .int .i64 (ofL L 5)] 61)
  have hA0 : AgW w (w.alloc (.cells #[.int .i64 ((m : Int)), .int .i64 (ofL L 0), .int .i64 (ofL L 1), .int .i64 (ofL L 2), .int .i64 (ofL L 3), .int .i64 (ofL L 4), .int .i64 (ofL L 5)] 61)) B b q n c nn C zs cl D m L w.heap.size := ⟨hbx.below hb1 hbx.lt, Cb.new w (m : Int) (ofL L), hown.alloc _, hm.alloc _, hC.below hb1, gb_al0 w _ _⟩
  have HCC := Lib.hid (fun (W : World) (hA : AgW w W B b q n c nn C zs cl D m L w.heap.size) => classI_any b m n c (some q) C zs cl L W hn hz hs hL hA.sem hA.cls)
  obtain ⟨x, hx⟩ : ∃ x, kC zs cl L = x := ⟨_, rfl⟩
  have HLK := Lib.hid (fun (W : World) (hA : AgW w W B b q n c nn C zs cl D m L w.heap.size) => lookI (x := x) hA.mkd (by rw [← hx]; exact hkw))
  rw [hx] at HCC ⊢
  clear hown hC hx hs hz hL hw hn hm hbx hkw
  go_enter Tryz.func132, Tryz.ntmps132
  go_wp2
  generalize w.alloc (.cells #[.int .i64 ((m : Int)), .int .i64 (ofL L 0), .int .i64 (ofL L 1), .int .i64 (ofL L 2), .int .i64 (ofL L 3), .int .i64 (ofL L 4), .int .i64 (ofL L 5)] 61) = W0 at *
  have hA1 := hA0.drew
  have hb2 := hb1.drew
  have d0 := hA0.c0
  have d1 := hA0.c1
  have d2 := hA0.c2
  obtain ⟨a0, a1, a2, a3, a4, a5, a6⟩ := hA0.cx.all
  go_region_law (
      (go_simp
       go_at_call 85
       refine (HCC.out _ hA1).mono ?_
       rintro e w5 ⟨rfl, hb5⟩
       have hA1 := hA1.below hb5
       have hb2 := hb2.trans (hb5.mono hb2.size)
       have d0 := hA1.c0
       have d1 := hA1.c1
       have d2 := hA1.c2
       obtain ⟨z, hrun⟩ := HLK.out _ hA1))
  all_goals
    (try simp only [List.getElem_toArray, List.getElem_cons_succ, List.getElem_cons_zero, Act.put, List.setIfInBounds_toArray, List.set_cons_zero, List.set_cons_succ])
    go_wp2
    go_ret
    exact ⟨by try rfl, hb2⟩
set_option maxHeartbeats 1000000 in
theorem kernelI_any (b q c : Nat) (C : Option Addr) (zs : List (List Int)) (cs : List Int) (hc : cgB zs cs = true) (hw : ∀ x ∈ cs, wfI x) (w : World) (hK : KgI w b q zs.length C zs cs) :
    Calls Tryz.prog 81 #[.agg #[.map (some b), .slice C zs.length c, .map (some q)]] w fun e w' => ∃ v lo, e = .returned v ∧ w'.ownsRow lo 61 7 v (zs.filter (krP zs cs)).length (cwc (ent zs 0).length (zs.filter (krP zs cs))) ∧ w.grownBy w' (some q) := by
  have S := sgS_iff.1 (cgB_iff.1 hc).sg
  have hn6 : zs.length ≤ 1048576 := by have := S.most; omega
  have hql := hK.q_lt
  have hb1 := (Below.refl _ w).alloc (Nat.le_refl _) (.cells #[.map (some b), .slice C zs.length c, .map (some q)] 91)
  have HBX := Lib.hid (Blk.new w 91 #[.map (some b), .slice C zs.length c, .map (some q)])
  have HK1 := Lib.hid (hK.below hb1)
  have HID := Lib.hid (fun (W : World) (hK : KgI W b q zs.length C zs cs) => idems_any b (ent zs 0).length zs.length zs rfl hn6 S.ch S.srt W hK.sem)
  have HG0 := Lib.hid (gb_al0 w (.cells #[.map (some b), .slice C zs.length c, .map (some q)] 91) (some q))
  have HFL : Hid ((zs.filter idB).length ≤ zs.length) := List.length_filter_le _ _
  have HMA := Lib.hid (fun (W : World) (lo : Nat) (v : Value) (hrow) (hK : KgI W b q zs.length C zs cs) => markAllI_any b q (ent zs 0).length zs.length c lo C zs cs (zs.filter idB) v rfl hn6 (by have := HFL.out; omega) S.ch S.srt hw (fun L hL => (List.mem_filter.1 hL).1) W hrow hK)
  have HPT := Lib.hid (fun (W : World) (nn : Nat) (D : DataW Unit) (hsem : W.ownsMap Tryz.prog 61 (plainElem (H := Unit) Tryz.prog 3) b zs.length (mapP klL zs zs.length)) (hC : RI W C zs.length cs)
      (hm : W.ownsMap Tryz.prog 3 (plainElem (H := Unit) Tryz.prog 3) q nn D) (hbx : Blk W w.heap.size 91 #[.map (some b), .slice C zs.length c, .map (some q)])
      (hh : ∀ x, Maps.has D x = true ↔ ∃ i, i < (zs.filter idB).length ∧ kfI (cAt zs cs (zs.filter idB) i) = x) =>
    part_any (H := Unit) b (ent zs 0).length zs.length 132 #[] #[.pointer (some ⟨w.heap.size, 0, none⟩)] zs rfl hn6 S.ch S.srt (krP zs cs) W (enters_of Tryz.func132 (by kernel_rfl) rfl) (fun L hL X hX => by
      have h := kernelF_any b q (ent zs 0).length zs.length c w.heap.size nn C zs cs L D X rfl S.ch S.srt hL hw (ownsMap_same hsem (hX.block b hsem.lt)) (hC.below hX) (ownsMap_same hm (hX.block q hm.lt)) (hbx.below hX hbx.lt)
      have e : Maps.has D (kfI (kC zs cs L)) = krP zs cs L := by rw [Bool.eq_iff_iff, hh]; exact krP_iff S.srt
      rw [e] at h
      exact h) hsem)
  have k0 := HBX.out.cell 0
  clear hK hb1 hw S
  go_enter Tryz.func81, Tryz.ntmps81
  go_wp2
  generalize w.alloc (.cells #[.map (some b), .slice C zs.length c, .map (some q)] 91) = W0 at *
  have hk2 := HK1.out.below (below_drewN (Below.refl _ W0) 1)
  have hbx2 := HBX.out.drew
  have hgq := gbTr HG0.out (gb_of (below_drewN (Below.refl _ W0) 1) (some q))
  have d0 := HBX.out.cell 0
  have d1 := HBX.out.cell 1
  have d2 := HBX.out.cell 2
  go_region_law (first
    | (go_simp
       go_at_call 121
       refine (HID.out _ hk2).mono ?_
       rintro e w5 ⟨v, rfl, hrow5, hb5⟩
       obtain ⟨A, cp, rfl⟩ := own_shape hrow5
       have hk2 := hk2.below hb5
       have hgq := gbTr hgq (gb_of hb5 _)
       have hbx2 := hbx2.below hb5 hbx2.lt
       have d0 := hbx2.cell 0
       have d1 := hbx2.cell 1
       have d2 := hbx2.cell 2)
    | (go_simp
       go_at_call 82
       refine (HMA.out _ _ _ hrow5 hk2).mono ?_
       rintro e w6 ⟨rfl, ⟨nn, D, hm2, hh2⟩, hg2⟩))
  all_goals
    have hk3 := hk2.kept hg2 ⟨nn, D, hm2⟩
    have hbx3 := blk_kept hbx2 hg2 hk2.row
    have hpt := HPT.out w6 nn D hk3.sem hk3.cls hm2 hbx3 hh2
    have f0 := hbx3.cell 0
    have HG2 := Lib.hid (gbTr hgq hg2)
    clear hg2 hk3 hbx3 hm2 hh2 HPT hk2 hbx2 hgq d0 d1 d2 hb5 hrow5
    (try simp only [List.getElem_toArray, List.getElem_cons_succ, List.getElem_cons_zero, Act.put, List.setIfInBounds_toArray, List.set_cons_zero, List.set_cons_succ])
    go_wp2_with fail
    refine hpt.mono ?_
    rintro e w3 ⟨v3, rfl, hrow3, hb3⟩
    have HG3 := Lib.hid (gbTr HG2.out (gb_of hb3 _))
    clear hpt HG2 hb3 f0
    go_wp2
    go_ret
    exact ⟨_, _, by try rfl, hrow3, HG3.out⟩
set_option maxHeartbeats 1000000 in
theorem kernelI_none (w : World) :
    Calls Tryz.prog 81 #[.agg #[.map none, .slice none 0 0, .map none]] w fun e w' => e = .returned (.slice none 0 0) ∧ Below w.heap.size w w' := by
  have hb1 := (Below.refl _ w).alloc (Nat.le_refl _) (.cells #[.map none, .slice none 0 0, .map none] 91)
  have HBX := Lib.hid (Blk.new w 91 #[.map none, .slice none 0 0, .map none])
  have k0 := HBX.out.cell 0
  go_enter Tryz.func81, Tryz.ntmps81
  go_wp2
  generalize w.alloc (.cells #[.map none, .slice none 0 0, .map none] 91) = W0 at *
  have hb2 := hb1.drew
  have hbx2 := HBX.out.drew
  have d0 := HBX.out.cell 0
  have d1 := HBX.out.cell 1
  have d2 := HBX.out.cell 2
  go_region_law (first
    | (go_simp
       go_at_call 121
       refine (idems_none _).mono ?_
       rintro e w5 ⟨rfl, hb5⟩
       have hb2 := hb2.trans (hb5.mono hb2.size)
       have hbx2 := hbx2.below hb5 hbx2.lt
       have d0 := hbx2.cell 0
       have d1 := hbx2.cell 1
       have d2 := hbx2.cell 2)
    | (go_simp
       go_at_call 82
       refine (markAllI_none _ none).mono ?_
       rintro e w6 ⟨rfl, hb6⟩))
  all_goals
    have hb3 := hb2.trans (hb6.mono hb2.size)
    have f0 := (hbx2.below hb6 hbx2.lt).cell 0
    clear hb1 hb2 hbx2 d0 d1 d2 hb5 hb6
    (try simp only [List.getElem_toArray, List.getElem_cons_succ, List.getElem_cons_zero, Act.put, List.setIfInBounds_toArray, List.set_cons_zero, List.set_cons_succ])
    go_wp2_with fail
    refine (part_none _ rfl _).mono ?_
    rintro e w3 ⟨rfl, hb7⟩
    have hb8 := hb3.trans (hb7.mono hb3.size)
    clear hb3 hb7 f0
    go_wp2
    go_ret
    exact ⟨by try rfl, hb8⟩
set_option maxHeartbeats 1000000 in
theorem implKernel_any (A C : Option Addr) (n c m d : Nat) (zs : List (List Int)) (cs : List Int) (w : World) (h : RSS w A n zs) (h' : RI w C m cs) (hw : ∀ x ∈ cs, wfI x) (hg : EtAt w) :
    Calls Tryz.prog 37 #[.slice A n c, .slice C m d] w fun e w' => ∃ v, e = .returned (.tuple #[v, .bool (cgB zs cs)]) ∧ OSS w' w.heap.size w'.heap.size v (krL zs cs) ∧ Below w.heap.size w w' := by
  have hcf := cgFrom_any A C n c m d zs cs w h h' hw hg
  have HW := Lib.hid hw
  clear h h' hg hw
  go_enter Tryz.func37, Tryz.ntmps37
  go_wp2_with fail
  refine hcf.mono ?_
  rintro e w1 ⟨kv, rfl, hkv, hb⟩
  clear hcf
  cases hr : cgB zs cs
  · obtain rfl := hkv.1 hr
    have HF : Hid (krL zs cs = []) := by show _ = _; unfold krL; rw [hr]; rfl
    have HCC := Lib.hid hr
    have hb1 := hb.alloc hb.size (.cells #[.map none, .slice none 0 0, .map none] 91)
    clear hkv hr hb
    go_wp2_with fail
    refine (kernelI_none _).mono ?_
    rintro e w3 ⟨rfl, hb3⟩
    have hB3 := hb1.trans (hb3.mono hb1.size)
    clear hb1 hb3
    go_wp2_with fail
    refine (listsOf_any 0 0 (.slice none 0 0) [] (fun L h => by cases h) (by simp) w3 (World.ownsRow_nil _ _ _ _)).mono ?_
    rintro e w4 ⟨v', rfl, hO, hb4⟩
    have hs3 := hB3.size
    go_wp2
    go_ret2
    exact ⟨_, by (try rw [HCC.out]); try rfl, by rw [HF.out]; exact hO.more hs3 (Nat.le_refl _), hB3.trans (hb4.mono hs3)⟩
  · obtain ⟨b, q, C2, c2, rfl, hk, hbl, hql⟩ := hkv.2 hr
    have S := sgS_iff.1 (cgB_iff.1 hr).sg
    have hb1 := hb.alloc hb.size (.cells #[.map (some b), .slice C2 zs.length c2, .map (some q)] 91)
    have hk1 := hk.below ((Below.refl _ w1).alloc (Nat.le_refl _) (.cells #[.map (some b), .slice C2 zs.length c2, .map (some q)] 91))
    have hkn := kernelI_any b q c2 C2 zs cs hr HW.out _ hk1
    have HBG : Hid (∀ W, (w1.alloc (.cells #[.map (some b), .slice C2 zs.length c2, .map (some q)] 91)).grownBy W (some q) → Below w.heap.size w W) := fun W hg => hb1.grown hg hb1.size (fun k e => by cases e; omega)
    have HCC := Lib.hid hr
    have HI : Hid (krL zs cs = zs.filter (krP zs cs)) := by show _ = _; unfold krL; rw [if_pos hr]
    have HZ : Hid (∀ L ∈ zs.filter (krP zs cs), isC L = true ∧ L.length = (ent zs 0).length) := fun L hL => S.ch L (List.mem_filter.1 hL).1
    have hle : (zs.filter (krP zs cs)).length ≤ 1048576 := Nat.le_trans (List.length_filter_le _ _) (by have := S.most; omega)
    have HKR : Hid (krP zs cs = krP zs cs) := rfl
    clear hkv hr hb hk hk1 hb1 S
    obtain ⟨Fs, hfs⟩ : ∃ Fs, zs.filter (krP zs cs) = Fs := ⟨_, rfl⟩
    rw [hfs] at hkn HI HZ hle
    clear hfs
    go_wp2_with fail
    refine hkn.mono ?_
    rintro e w3 ⟨v3, lo3, rfl, hrow3, hg3⟩
    have hB3 := HBG.out _ hg3
    clear hkn hg3 HBG
    go_wp2_with fail
    refine (listsOf_any (ent zs 0).length lo3 v3 Fs HZ.out hle w3 hrow3).mono ?_
    rintro e w4 ⟨v', rfl, hO, hb4⟩
    have hs3 := hB3.size
    go_wp2
    go_ret2
    exact ⟨_, by (try rw [HCC.out]); try rfl, by rw [HI.out]; exact hO.more hs3 (Nat.le_refl _), hB3.trans (hb4.mono hs3)⟩
end

end Go.Proofs.YtmknjifmmmnjjaaGreatDoor
