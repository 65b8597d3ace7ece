/-
  Kn.
-/
import Derived.Test.YtmknjifmmmnjjaaGreatDoorKF
import Derived.Test.YtmknjifmmmnjjaaGreatDoorKM
namespace Go.Proofs.YtmknjifmmmnjjaaGreatDoor
set_option maxRecDepth 100000
set_option linter.unusedVariables false
set_option linter.unusedSimpArgs false
set_option linter.unusedSectionVars false

/-! impl.CongruenceIn, CongruenceFiner. -/
section
open Go.RowKit Go.Maps

theorem fi_ag {zs : List (List Int)} {cs ds : List Int} (h1 : cgB zs cs = true) (h2 : cgB zs ds = true) : agB zs cs (kC zs ds) = fiB zs cs ds := by
  have S := sgS_iff.1 (cgB_iff.1 h1).sg
  unfold fiB
  rw [h1, h2, Bool.true_and, Bool.true_and, Bool.eq_iff_iff, agB_iff, dbB_iff]
  have hk : ∀ (cl : List Int) i, i < zs.length → kC zs cl (ent zs i) = ofL cl i := fun cl i hi => by unfold kC; rw [ixP_at S.srt hi]
  have hf : ∀ i k, fiP cs ds i k = true ↔ (ofL cs i = ofL cs k → ofL ds i = ofL ds k) := fun i k => by
    unfold fiP
    rw [Bool.or_eq_true, Bool.not_eq_true', decide_eq_false_iff_not, decide_eq_true_eq]
    constructor
    · rintro (h | h) e
      · exact absurd e h
      · exact h
    · intro h
      by_cases e : ofL cs i = ofL cs k
      · exact .inr (h e)
      · exact .inl e
  constructor
  · intro h i hi k hk'
    rw [hf]
    intro e
    have := h _ (ent_mem hi) _ (ent_mem (show k < zs.length by omega))
    rw [hk cs i hi, hk cs k (by omega), hk ds i hi, hk ds k (by omega)] at this
    exact this e
  · intro h L hL M hM e
    obtain ⟨i, hi, rfl⟩ := mem_ent hL
    obtain ⟨k, hk', rfl⟩ := mem_ent hM
    rw [hk cs i hi, hk cs k hk'] at e
    rw [hk ds i hi, hk ds k hk']
    rcases Nat.lt_trichotomy i k with g | g | g
    · exact ((hf k i).1 (h k hk' i g) e.symm).symm
    · subst g; rfl
    · exact (hf i k).1 (h i hi k g) e
set_option maxHeartbeats 2000000 in
theorem implFiner_any (A C D : Option Addr) (n c m d m' d' : Nat) (zs : List (List Int)) (cs ds : List Int) (w : World) (h : RSS w A n zs) (h' : RI w C m cs) (h2 : RI w D m' ds) (hw : ∀ x ∈ cs, wfI x) (hw2 : ∀ x ∈ ds, wfI x) (hg : EtAt w) :
    Calls Tryz.prog 42 #[.slice A n c, .slice C m d, .slice D m' d'] w fun e w' => e = .returned (.bool (fiB zs cs ds)) ∧ Below w.heap.size w w' := by
  have hcf := cgFrom_any A C n c m d zs cs w h h' hw hg
  have HCF2 := Lib.hid (fun (W : World) (hb : Below w.heap.size w W) => cgFrom_any A D n c m' d' zs ds W (h.below hb) (h2.below hb) hw2 (hg.below hb))
  have HW := Lib.hid hw
  have HW2 := Lib.hid hw2
  clear h h' h2 hw hw2 hg
  go_enter Tryz.func42, Tryz.ntmps42
  go_wp2_with fail
  refine hcf.mono ?_
  rintro e w1 ⟨kv, rfl, hkv, hb⟩
  clear hcf
  cases hr : cgB zs cs
  · obtain rfl := hkv.1 hr
    have HF : Hid (fiB zs cs ds = false) := by show _ = _; unfold fiB; rw [hr]; rfl
    have hb1 := hb.alloc hb.size (.cells #[.map none, .slice none 0 0, .map none] 91)
    have hcf2 := HCF2.out _ hb1
    clear hkv hr
    go_wp2_with fail
    refine hcf2.mono ?_
    rintro e w2 ⟨kv2, rfl, hkv2, hb2⟩
    have HB2 := Lib.hid (hb1.trans (hb2.mono hb1.size))
    clear hcf2 hb1 hb2
    cases hr2 : cgB zs ds
    · obtain rfl := hkv2.1 hr2
      have HBF := Lib.hid (HB2.out.alloc HB2.out.size (.cells #[.map none, .slice none 0 0, .map none] 91))
      clear hkv2 hr2
      go_wp2
      go_ret
      exact ⟨by rw [HF.out]; try rfl, HBF.out⟩
    · obtain ⟨b2, q2, C3, c3, rfl, _⟩ := hkv2.2 hr2
      have HBF := Lib.hid (HB2.out.alloc HB2.out.size (.cells #[.map (some b2), .slice C3 zs.length c3, .map (some q2)] 91))
      clear hkv2 hr2
      go_wp2
      go_ret
      exact ⟨by rw [HF.out]; try rfl, HBF.out⟩
  · obtain ⟨b, q, C2, c2, rfl, hk1, hb1l, hq1l⟩ := hkv.2 hr
    have hb1 := hb.alloc hb.size (.cells #[.map (some b), .slice C2 zs.length c2, .map (some q)] 91)
    have HK1 := Lib.hid (hk1.below ((Below.refl _ w1).alloc (Nat.le_refl _) (.cells #[.map (some b), .slice C2 zs.length c2, .map (some q)] 91)))
    have HBX1 := Lib.hid (Blk.new w1 91 #[.map (some b), .slice C2 zs.length c2, .map (some q)])
    have hcf2 := HCF2.out _ hb1
    clear hkv hk1
    go_wp2_with fail
    refine hcf2.mono ?_
    rintro e w2 ⟨kv2, rfl, hkv2, hb2⟩
    have HB2 := Lib.hid (hb1.trans (hb2.mono hb1.size))
    have HK2 := Lib.hid (HK1.out.below hb2)
    have HBX2 := Lib.hid (HBX1.out.below hb2 HBX1.out.lt)
    have hqs := HK1.out.q_lt
    have hbs2 := hb1.size
    clear hcf2 hb1 hb2 HK1 HBX1
    cases hr2 : cgB zs ds
    · obtain rfl := hkv2.1 hr2
      have HF : Hid (fiB zs cs ds = false) := by show _ = _; unfold fiB; rw [hr, hr2]; rfl
      have HBF := Lib.hid (HB2.out.alloc HB2.out.size (.cells #[.map none, .slice none 0 0, .map none] 91))
      clear hkv2 hr2 hr
      go_wp2
      go_ret
      exact ⟨by rw [HF.out]; try rfl, HBF.out⟩
    · obtain ⟨b2, q2, C3, c3, rfl, hk2, hb2l, hq2l⟩ := hkv2.2 hr2
      have S := sgS_iff.1 (cgB_iff.1 hr).sg
      have hFE := fi_ag hr hr2
      have HBF := HB2.out.alloc HB2.out.size (.cells #[.map (some b2), .slice C3 zs.length c3, .map (some q2)] 91)
      have hb3 := ((Below.refl _ w2).alloc (Nat.le_refl _) (.cells #[.map (some b2), .slice C3 zs.length c3, .map (some q2)] 91))
      have hkA := HK2.out.below hb3
      have hkB := hk2.below hb3
      have hqq : b2 ≠ q := fun e => by omega
      have d0 := (HBX2.out.alloc (.cells #[.map (some b2), .slice C3 zs.length c3, .map (some q2)] 91)).cell 0
      have hag := agreesI_any b q (ent zs 0).length zs.length c2 85 #[.agg #[.map (some b2), .slice C3 zs.length c3, .map (some q2)]] #[] C2 zs cs (kC zs ds) rfl (by have := S.most; omega) S.ch S.srt HW.out
        (fun L hL => kc_wf S.srt ((cgB_iff.1 hr2).len) HW2.out hL) _ (enters_of Tryz.func85 (by kernel_rfl) rfl)
        (fun L hL V hV => classI_any b2 (ent zs 0).length zs.length c3 (some q2) C3 zs ds L V rfl S.ch S.srt hL (hkB.sem.kept hV (fun e => hqq (by cases e; rfl))) (ri_kept hkB.cls hV hkA.row)) hkA
      rw [hFE] at hag
      have HBG : Hid (∀ W, (w2.alloc (.cells #[.map (some b2), .slice C3 zs.length c3, .map (some q2)] 91)).grownBy W (some q) → Below w.heap.size w W) := fun W hg => HBF.grown hg HBF.size (fun k e => by cases e; omega)
      have e0 : (w2.alloc (.cells #[.map (some b2), .slice C3 zs.length c3, .map (some q2)] 91)).cell? ⟨w1.heap.size, 0, none⟩ = some (.map (some b)) := (HBX2.out.alloc _).cell 0
      have e1 : (w2.alloc (.cells #[.map (some b2), .slice C3 zs.length c3, .map (some q2)] 91)).cell? ⟨w1.heap.size, 1, none⟩ = some (.slice C2 zs.length c2) := (HBX2.out.alloc _).cell 1
      have e2 : (w2.alloc (.cells #[.map (some b2), .slice C3 zs.length c3, .map (some q2)] 91)).cell? ⟨w1.heap.size, 2, none⟩ = some (.map (some q)) := (HBX2.out.alloc _).cell 2
      have hlx := HBX2.out.lt
      clear hkv2 hr2 hr HK2 hk2 hkA hkB S hFE HBF hb3 HBX2 d0 HB2 hb
      go_wp2_with fail
      refine hag.mono ?_
      rintro e w3 ⟨rfl, _, hg3⟩
      have HB3 := Lib.hid (HBG.out _ hg3)
      clear hag hg3
      go_wp2
      go_ret
      exact ⟨rfl, HB3.out⟩
end

end Go.Proofs.YtmknjifmmmnjjaaGreatDoor
