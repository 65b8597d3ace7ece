/-
  Kl.
-/
import Derived.Test.YtmknjifmmmnjjaaGreatDoorKE
import Derived.Test.YtmknjifmmmnjjaaGreatDoorKL
namespace Go.Proofs.YtmknjifmmmnjjaaGreatDoor
set_option maxRecDepth 100000
set_option linter.unusedVariables false
set_option linter.unusedSimpArgs false
set_option linter.unusedSectionVars false

/-! impl.congruenceFrom, CongruenceIn. -/
section
open Go.RowKit Go.Maps

set_option maxHeartbeats 1000000 in
theorem cgf1_any (x0 y0 b m n c : Nat) (C : Option Addr) (zs : List (List Int)) (cl L : List Int) (w : World) (hn : zs.length = n) (hz : ∀ L ∈ zs, isC L = true ∧ L.length = m) (hs : Srt zs) (hL : L ∈ zs)
    (hown : w.ownsMap Tryz.prog 61 (plainElem (H := Unit) Tryz.prog 3) b n (mapP klL zs n)) (hC : RI w C n cl) (hx : w.cell? ⟨x0, 0, none⟩ = some (.slice C n c)) (hy : w.cell? ⟨y0, 0, none⟩ = some (.map (some b))) (hxl : x0 < w.heap.size) (hyl : y0 < w.heap.size) :
    Calls Tryz.prog 127 #[.agg #[.int .i64 ((m : Int)), .int .i64 (ofL L 0), .int .i64 (ofL L 1), .int .i64 (ofL L 2), .int .i64 (ofL L 3), .int .i64 (ofL L 4), .int .i64 (ofL L 5)], .pointer (some ⟨x0, 0, none⟩), .pointer (some ⟨y0, 0, none⟩)] w fun e w' => e = .returned (.int .i64 (kC zs cl L)) ∧ Below w.heap.size w w' := by
  obtain ⟨hi, _, _⟩ := ixP_mem hs hL
  rw [hn] at hi
  have hat := mapP_ix (H := Unit) hz hs hn hL (.lit (.int .i64 0))
  obtain ⟨kv, hkv⟩ : ∃ kv, kC zs cl L = kv := ⟨_, rfl⟩
  have HKV := Lib.hid hkv
  obtain ⟨ac, rfl, hab, hc⟩ := hC.at_ hi
  rw [show cl[ixP zs L]?.getD 0 = kC zs cl L from rfl, hkv] at hc
  clear hkv
  have hkey : keyOf Tryz.prog 61 (.agg #[.int .i64 ((m : Int)), .int .i64 (ofL L 0), .int .i64 (ofL L 1), .int .i64 (ofL L 2), .int .i64 (ofL L 3), .int .i64 (ofL L 4), .int .i64 (ofL L 5)]) = some (klL L) := by have := keyOf_L (hz L hL).1; rw [(hz L hL).2] at this; exact this
  have hB : Below w.heap.size w (w.alloc (.cells #[.int .i64 ((m : Int)), .int .i64 (ofL L 0), .int .i64 (ofL L 1), .int .i64 (ofL L 2), .int .i64 (ofL L 3), .int .i64 (ofL L 4), .int .i64 (ofL L 5)] 61)) := (Below.refl _ w).alloc (Nat.le_refl _) _
  have hown1 := hown.alloc (.cells #[.int .i64 ((m : Int)), .int .i64 (ofL L 0), .int .i64 (ofL L 1), .int .i64 (ofL L 2), .int .i64 (ofL L 3), .int .i64 (ofL L 4), .int .i64 (ofL L 5)] 61)
  have hch := Cb.new w (m : Int) (ofL L)
  have hcc := (hB.cell (p := ac.add (ixP zs L)) (by rw [block_of_add]; exact hab)).trans hc
  have hx1 := (hB.cell (p := ⟨x0, 0, none⟩) hxl).trans hx
  have hy1 := (hB.cell (p := ⟨y0, 0, none⟩) hyl).trans hy
  clear hC hc hab hown hz hs hL hn hx hy hxl hyl
  go_enter Tryz.func127, Tryz.ntmps127
  go_wp2
  generalize w.alloc (.cells #[.int .i64 ((m : Int)), .int .i64 (ofL L 0), .int .i64 (ofL L 1), .int .i64 (ofL L 2), .int .i64 (ofL L 3), .int .i64 (ofL L 4), .int .i64 (ofL L 5)] 61) = W0 at *
  have hrun : ∀ j, (Instr.lookup 75 (.map (some b)) (.agg #[.int .i64 ((m : Int)), .int .i64 (ofL L 0), .int .i64 (ofL L 1), .int .i64 (ofL L 2), .int .i64 (ofL L 3), .int .i64 (ofL L 4), .int .i64 (ofL L 5)]) false).run Tryz.prog (W0.drewN j) = .ok (.int .i64 (ixP zs L : Nat)) (W0.drewN j) := fun j => by
    have hz0 : (zeroValue 3).run Tryz.prog (W0.drewN j) = .ok (.int .i64 0) (W0.drewN j) := by kernel_rfl
    obtain ⟨z, hr, ha, _⟩ := World.ownsMap.lookup_int (w := W0.drewN j) hown1 ch_keyed Tryz.underlying75 Tryz.underlying3 hz0 hkey
    rw [hat] at ha
    injection ha with ha
    injection ha with _ ha
    rw [ha]; exact hr
  obtain ⟨a0, a1, a2, a3, a4, a5, a6⟩ := hch.all
  have hii : ((ixP zs L : Nat) : Int) < (n : Int) := by omega
  generalize ixP zs L = p at *
  go_quiet (fail)
  all_goals go_wp2
  go_ret
  exact ⟨by rw [HKV.out]; try rfl, below_drewN hB _⟩
/-- what a told congruence is in memory, or the zero one -/
def CgV (zs : List (List Int)) (cs : List Int) (w w' : World) (kv : Value) : Prop :=
  (cgB zs cs = false → kv = .agg #[.map none, .slice none 0 0, .map none]) ∧
  (cgB zs cs = true → ∃ b q C c, kv = .agg #[.map (some b), .slice C zs.length c, .map (some q)] ∧ KgI w' b q zs.length C zs cs ∧ w.heap.size ≤ b ∧ w.heap.size ≤ q)
theorem map_kC {zs : List (List Int)} {cs : List Int} (hs : Srt zs) (hl : cs.length = zs.length) : zs.map (kC zs cs) = cs := by
  apply List.ext_getElem?
  intro i
  by_cases hi : i < zs.length
  · rw [List.getElem?_map, List.getElem?_eq_getElem hi]
    have e : zs[i] = ent zs i := by unfold ent; rw [List.getElem?_eq_getElem hi]; rfl
    have e2 : kC zs cs (ent zs i) = ofL cs i := by unfold kC; rw [ixP_at hs hi]
    show some (kC zs cs zs[i]) = _
    rw [e, e2]
    unfold ofL
    rw [List.getElem?_eq_getElem (by omega)]; rfl
  · rw [List.getElem?_eq_none (by simp; omega), List.getElem?_eq_none (by omega)]
theorem ri_set {w : World} {A : Option Addr} {n : Nat} {zs : List Int} (h : RI w A n zs) {p : Addr} (hp : ∀ ad, A = some ad → ad.block ≠ p.block) (v : Value) : RI (w.setCell p v) A n zs := by
  refine ⟨h.1, h.2.1, fun h0 => ?_⟩
  obtain ⟨ad, e, hb, hc⟩ := h.2.2 h0
  refine ⟨ad, e, by simpa [World.setCell] using hb, fun j u hu => ?_⟩
  rw [World.cell?_setCell_other]
  · exact hc j u hu
  · intro e2
    exact hp ad e (by rw [e2, block_of_add])
theorem KgI.set_ {w : World} {b q n : Nat} {C : Option Addr} {zs : List (List Int)} {cl : List Int} (h : KgI w b q n C zs cl) {p : Addr} (h1 : b ≠ p.block) (h2 : q ≠ p.block) (hp : ∀ ad, C = some ad → ad.block ≠ p.block) (v : Value) : KgI (w.setCell p v) b q n C zs cl := by
  obtain ⟨nn, D, hm⟩ := h.mkd
  exact ⟨h.sem.setCell h1 v, ⟨nn, D, hm.setCell h2 v⟩, ri_set h.cls hp v, h.ne⟩
/-- what lies in memory while a told congruence is looked at -/
structure CfW (V W : World) (x0 z0 r0 b q n c m d : Nat) (C2 C : Option Addr) (zs : List (List Int)) (cs : List Int) : Prop where
  bx : Blk W z0 91 #[.map (some b), .slice C2 n c, .map (some q)]
  cx : Blk W x0 24 #[.slice C m d]
  br : Blk W r0 91 #[.map none, .slice none 0 0, .map none]
  kg : KgI W b q n C2 zs cs
  rc : RI W C m cs
  gr : V.grownBy W (some q)
section
variable {V W W' : World} {x0 z0 r0 b q n c m d : Nat} {C2 C : Option Addr} {zs : List (List Int)} {cs : List Int}
theorem CfW.below (h : CfW V W x0 z0 r0 b q n c m d C2 C zs cs) (hb : Below W.heap.size W W') : CfW V W' x0 z0 r0 b q n c m d C2 C zs cs := ⟨h.bx.below hb h.bx.lt, h.cx.below hb h.cx.lt, h.br.below hb h.br.lt, h.kg.below hb, h.rc.below hb, gbTr h.gr (gb_of hb _)⟩
theorem CfW.kept (h : CfW V W x0 z0 r0 b q n c m d C2 C zs cs) (hg : W.grownBy W' (some q)) (hm : ∃ nn D, W'.ownsMap Tryz.prog 3 (plainElem (H := Unit) Tryz.prog 3) q nn D) : CfW V W' x0 z0 r0 b q n c m d C2 C zs cs :=
  ⟨blk_kept h.bx hg h.kg.row, blk_kept h.cx hg h.kg.row, blk_kept h.br hg h.kg.row, h.kg.kept hg hm, ri_kept h.rc hg h.kg.row, gbTr h.gr hg⟩
theorem CfW.drew (h : CfW V W x0 z0 r0 b q n c m d C2 C zs cs) : CfW V W.drew x0 z0 r0 b q n c m d C2 C zs cs := h.below (below_drewN (Below.refl _ _) 1)
theorem CfW.c0 (h : CfW V W x0 z0 r0 b q n c m d C2 C zs cs) : W.cell? ⟨z0, 0, none⟩ = some (.map (some b)) := h.bx.cell 0
theorem CfW.c1 (h : CfW V W x0 z0 r0 b q n c m d C2 C zs cs) : W.cell? ⟨z0, 1, none⟩ = some (.slice C2 n c) := h.bx.cell 1
theorem CfW.c2 (h : CfW V W x0 z0 r0 b q n c m d C2 C zs cs) : W.cell? ⟨z0, 2, none⟩ = some (.map (some q)) := h.bx.cell 2
theorem CfW.cc (h : CfW V W x0 z0 r0 b q n c m d C2 C zs cs) : W.cell? ⟨x0, 0, none⟩ = some (.slice C m d) := h.cx.cell 0
theorem CfW.r_ (h : CfW V W x0 z0 r0 b q n c m d C2 C zs cs) : W.cell? ⟨r0, 0, none⟩ = some (.map none) ∧ W.cell? ⟨r0, 1, none⟩ = some (.slice none 0 0) ∧ W.cell? ⟨r0, 2, none⟩ = some (.map none) ∧ W.frozen? ⟨r0, 0, none⟩ = false ∧ W.frozen? ⟨r0, 1, none⟩ = false ∧ W.frozen? ⟨r0, 2, none⟩ = false := ⟨h.br.cell 0, h.br.cell 1, h.br.cell 2, h.br.frozen 0, h.br.frozen 1, h.br.frozen 2⟩
end
set_option maxHeartbeats 2000000 in
theorem cgFrom_any (A C : Option Addr) (n c m d : Nat) (zs : List (List Int)) (cs : List Int) (w : World) (h : RSS w A n zs) (h' : RI w C m cs) (hw : ∀ x ∈ cs, wfI x) (hg : EtAt w) :
    Calls Tryz.prog 77 #[.slice A n c, .slice C m d] w fun e w' => ∃ kv, e = .returned (.tuple #[kv, .bool (cgB zs cs)]) ∧ CgV zs cs w w' kv ∧ Below w.heap.size w w' := by
  have hB0 : Below w.heap.size w ((w.alloc (.cells #[.slice C m d] 24)).alloc (.cells #[.map none, .slice none 0 0, .map none] 91)) := ((Below.refl _ w).alloc (Nat.le_refl _) _).alloc (by simp) _
  have HBC := Lib.hid ((Blk.new w 24 #[.slice C m d]).alloc (.cells #[.map none, .slice none 0 0, .map none] 91))
  have hbr := Blk.new (w.alloc (.cells #[.slice C m d] 24)) 91 #[.map none, .slice none 0 0, .map none]
  rw [World.size_alloc] at hbr
  have HBR := Lib.hid hbr
  have HRC := Lib.hid h'
  have HL := Lib.hid h.len
  have HL' := Lib.hid h'.len
  have HWF := Lib.hid hw
  have htd := told_any A n c zs _ (h.below hB0) (hg.below hB0)
  clear h h' hw hg hbr
  go_enter Tryz.func77, Tryz.ntmps77
  go_wp2_with fail
  generalize (w.alloc (.cells #[.slice C m d] 24)).alloc (.cells #[.map none, .slice none 0 0, .map none] 91) = W0 at *
  have HB0 := Lib.hid hB0
  clear hB0
  refine htd.mono ?_
  rintro e w1 ⟨sv, rfl, hy, hno, hb1⟩
  have HBC1 := Lib.hid (HBC.out.below hb1 HBC.out.lt)
  have HBR1 := Lib.hid (HBR.out.below hb1 HBR.out.lt)
  have HB1 := Lib.hid (HB0.out.trans (hb1.mono HB0.out.size))
  cases hS : sgS zs
  · obtain rfl := hno hS
    have HF : Hid ((∀ W, CgV zs cs w W (.agg #[.map none, .slice none 0 0, .map none])) ∧ cgB zs cs = false) := ⟨fun _ => ⟨fun _ => rfl, fun e => (by rw [cg_nsg hS] at e; cases e)⟩, cg_nsg hS⟩
    have r0 : w1.cell? ⟨w.heap.size + 1, 0, none⟩ = some (.map none) := HBR1.out.cell 0
    have r1 : w1.cell? ⟨w.heap.size + 1, 1, none⟩ = some (.slice none 0 0) := HBR1.out.cell 1
    have r2 : w1.cell? ⟨w.heap.size + 1, 2, none⟩ = some (.map none) := HBR1.out.cell 2
    have f0 := HBR1.out.frozen 0
    have f1 := HBR1.out.frozen 1
    have f2 := HBR1.out.frozen 2
    have hlr := HBR1.out.lt
    have hb2 := ((HB1.out.setCell (p := ⟨w.heap.size + 1, 0, none⟩) (Nat.le_succ _) (.map none)).setCell (p := ⟨w.heap.size + 1, 1, none⟩) (Nat.le_succ _) (.slice none 0 0)).setCell (p := ⟨w.heap.size + 1, 2, none⟩) (Nat.le_succ _) (.map none)
    have HBF := Lib.hid (hb2.alloc hb2.size (.cells #[.map none] 75))
    clear hy hno hb1 htd hb2
    go_wp2
    exact bodyPost_ret (v := .tuple #[.agg #[.map none, .slice none 0 0, .map none], .bool false]) (by simp [results, Tryz.results77, go_sem, r0, r1, r2, hlr]) rfl ⟨_, by rw [HF.out.2], HF.out.1 _, HBF.out⟩
  · obtain ⟨b, rfl, hbl, hown⟩ := hy hS
    rw [HL.out] at hown
    have S := sgS_iff.1 hS
    have HSS := Lib.hid S
    have HS := Lib.hid hS
    have hn6 : n ≤ 1048576 := by have := S.most; have := HL.out; omega
    have hown2 := hown.alloc (.cells #[.map (some b)] 75)
    have hlen := hown2.len Tryz.underlying75
    rw [show Maps.size (mapP (H := Unit) klL zs n) = n by rw [← HL.out]; exact mapP_size S.ch S.srt zs.length (Nat.le_refl _)] at hlen
    have cc : (w1.alloc (.cells #[.map (some b)] 75)).cell? ⟨w.heap.size, 0, none⟩ = some (.slice C m d) := (HBC1.out.alloc _).cell 0
    have hcl := HBC1.out.lt
    have hBw := hb1.size
    have hw01 : w.heap.size + 1 < W0.heap.size := HBR.out.lt
    clear hy hno hb1 htd S hS hown
    by_cases hmn : m = n
    · subst hmn
      have hne : ((m : Int) != (m : Int)) = false := by simp
      have HB2 := Lib.hid (HB1.out.alloc HB1.out.size (.cells #[.map (some b)] 75))
      have HBC2 := Lib.hid (HBC1.out.alloc (.cells #[.map (some b)] 75))
      have HBR2 := Lib.hid (HBR1.out.alloc (.cells #[.map (some b)] 75))
      have HBS2 := Lib.hid (Blk.new w1 75 #[.map (some b)])
      have HMK := Lib.hid (map_kC (cs := cs) HSS.out.srt (HL'.out.trans HL.out.symm))
      have hof := cgOfI_any b (ent zs 0).length m 127 #[] #[.pointer (some ⟨w.heap.size, 0, none⟩), .pointer (some ⟨w1.heap.size, 0, none⟩)] zs HL.out hn6 HSS.out.ch HSS.out.srt (kC zs cs) (w1.alloc (.cells #[.map (some b)] 75)) (enters_of Tryz.func127 (by kernel_rfl) rfl)
        (fun L hL V hV => cgf1_any w.heap.size w1.heap.size b (ent zs 0).length m d C zs cs L V HL.out HSS.out.ch HSS.out.srt hL (ownsMap_same hown2 (hV.block b hown2.lt)) (HRC.out.below (HB2.out.trans (hV.mono HB2.out.size))) ((HBC2.out.below hV HBC2.out.lt).cell 0) ((HBS2.out.below hV HBS2.out.lt).cell 0) (HBC2.out.below hV HBC2.out.lt).lt (HBS2.out.below hV HBS2.out.lt).lt) hown2
      rw [HMK.out] at hof
      have hs12 : w.heap.size + 1 < (w1.alloc (.cells #[.map (some b)] 75)).heap.size := HBR2.out.lt
      go_wp2_with fail
      clear hlen cc hne
      generalize w1.alloc (.cells #[.map (some b)] 75) = w2 at *
      refine hof.mono ?_
      rintro e w3 ⟨C2, c2, q, rfl, hql, hkg, hlo, hb3⟩
      have hB3 := HB2.out.trans (hb3.mono HB2.out.size)
      have hb4 : Below w3.heap.size w3 (w3.alloc (.cells #[.map (some b), .slice C2 m c2, .map (some q)] 91)) := (Below.refl _ _).alloc (Nat.le_refl _) _
      have hB4 := hB3.trans (hb4.mono hB3.size)
      have hA : CfW (w3.alloc (.cells #[.map (some b), .slice C2 m c2, .map (some q)] 91)) (w3.alloc (.cells #[.map (some b), .slice C2 m c2, .map (some q)] 91)) w.heap.size w3.heap.size (w.heap.size + 1) b q m c2 m d C2 C zs cs :=
        ⟨Blk.new w3 _ _, (HBC2.out.below hb3 HBC2.out.lt).alloc _, (HBR2.out.below hb3 HBR2.out.lt).alloc _, hkg.below hb4, HRC.out.below hB4, World.grownBy.refl _ _⟩
      have HFB : Hid (∀ W, (w3.alloc (.cells #[.map (some b), .slice C2 m c2, .map (some q)] 91)).grownBy W (some q) → Below w.heap.size w W) := fun W hg => hB4.grown hg hB4.size (fun k e => by cases e; omega)
      have HLOW : Hid (∀ ad, C2 = some ad → ad.block ≠ w.heap.size + 1) := fun ad e h => by have := hlo ad e; omega
      have hqr : q ≠ w.heap.size + 1 := by omega
      have hbr : b ≠ w.heap.size + 1 := by omega
      have HNU := Lib.hid (fun (W : World) (nn : Nat) (D : DataW Unit) (hC : RI W C2 m cs) (hm : W.ownsMap Tryz.prog 3 (plainElem (H := Unit) Tryz.prog 3) q nn D) => numbersI_any (some b) q nn m c2 C2 cs D W hn6 HWF.out hC hm)
      have HKP := Lib.hid (fun (W : World) (hK : KgI W b q m C2 zs cs) => keepsI_any b q (ent zs 0).length m c2 C2 zs cs HL.out hn6 HSS.out.ch HSS.out.srt HSS.out.ti HWF.out W hK)
      have HCG : Hid (nuL (ofL cs) m = cs → cpB zs cs = true → cgB zs cs = true) := fun h1 h2 => cgB_iff.2 ⟨HS.out, HL'.out.trans HL.out.symm, by rw [HL.out]; exact h1, cpB_iff.1 h2⟩
      have HCN : Hid (nuL (ofL cs) m ≠ cs → cgB zs cs = false) := fun h1 => cg_nnu (by rw [HL.out]; exact h1)
      have HCP : Hid (cpB zs cs = false → cgB zs cs = false) := fun h1 => by unfold cgB; rw [h1]; simp
      have HZV : Hid (cgB zs cs = false → ∀ W, CgV zs cs w W (.agg #[.map none, .slice none 0 0, .map none])) := fun h0 W => ⟨fun _ => rfl, fun e => (by rw [h0] at e; cases e)⟩
      have HYV : Hid (cgB zs cs = true → ∀ W, KgI W b q m C2 zs cs → CgV zs cs w W (.agg #[.map (some b), .slice C2 m c2, .map (some q)])) := fun h0 W hk => ⟨fun e => (by rw [h0] at e; cases e), fun _ => ⟨b, q, C2, c2, by rw [HL.out], by rw [HL.out]; exact hk, by omega, by omega⟩⟩
      have hA1 := hA.drew
      have d0 := hA.c0
      have d1 := hA.c1
      have d2 := hA.c2
      have cc := hA.cc
      clear hof hown2 hkg hlo hb3 hB3 hb4 hB4 hA HBC2 HBR2 HBS2 HMK HBC HBR HB0 HBC1 HBR1 HB1 HB2
      by_cases hnu : nuL (ofL cs) m = cs
      · have hdn : decide (nuL (ofL cs) m = cs) = true := decide_eq_true hnu
        have HNE := Lib.hid hnu
        clear hnu
        cases hcp : cpB zs cs
        · have HC0 := Lib.hid (HCP.out hcp)
          rw [hcp] at HKP
          clear hcp
          go_wp2
          go_region_law (first
            | (go_simp
               go_at_call 71
               obtain ⟨nn5, D5, hm5⟩ := hA1.kg.mkd
               refine (HNU.out _ nn5 D5 hA1.kg.cls hm5).mono ?_
               rintro e w5 ⟨v5, rfl, hown5, hmm5, hg5⟩
               have hA1 := hA1.kept hg5 hmm5
               have d0 := hA1.c0
               have d1 := hA1.c1
               have d2 := hA1.c2
               have cc := hA1.cc
               obtain ⟨A5, c5, rfl⟩ := own_slice hown5
               have hr5 := RI.of_own hown5)
            | (go_simp
               go_at_call 128
               refine (slEq8_any A5 C m m c5 d (nuL (ofL cs) m) cs _ hr5 hA1.rc hn6).mono ?_
               rw [hdn]
               rintro e w6 ⟨rfl, hb6⟩
               have hA1 := hA1.below hb6
               have d0 := hA1.c0
               have d1 := hA1.c1
               have d2 := hA1.c2)
            | (go_simp
               go_at_call 129
               refine (HKP.out _ hA1.kg).mono ?_
               rintro e w7 ⟨rfl, hmm7, hg7⟩
               have hA1 := hA1.kept hg7 hmm7))
          all_goals
            (try simp only [List.getElem_toArray, List.getElem_cons_succ, List.getElem_cons_zero, Act.put, List.setIfInBounds_toArray, List.set_cons_zero, List.set_cons_succ])
            obtain ⟨r0, r1, r2, f0, f1, f2⟩ := hA1.r_
            have hlr := hA1.br.lt
            have HBF := Lib.hid ((((HFB.out _ hA1.gr).setCell (p := ⟨w.heap.size + 1, 0, none⟩) (Nat.le_succ _) (.map none)).setCell (p := ⟨w.heap.size + 1, 1, none⟩) (Nat.le_succ _) (.slice none 0 0)).setCell (p := ⟨w.heap.size + 1, 2, none⟩) (Nat.le_succ _) (.map none))
            clear hA1
            go_wp2
            exact bodyPost_ret (v := .tuple #[.agg #[.map none, .slice none 0 0, .map none], .bool false]) (by simp [results, Tryz.results77, go_sem, r0, r1, r2, hlr]) rfl ⟨_, by rw [HC0.out], HZV.out HC0.out _, HBF.out⟩
        · have HC0 := Lib.hid (HCG.out HNE.out hcp)
          rw [hcp] at HKP
          clear hcp
          go_wp2
          go_region_law (first
            | (go_simp
               go_at_call 71
               obtain ⟨nn5, D5, hm5⟩ := hA1.kg.mkd
               refine (HNU.out _ nn5 D5 hA1.kg.cls hm5).mono ?_
               rintro e w5 ⟨v5, rfl, hown5, hmm5, hg5⟩
               have hA1 := hA1.kept hg5 hmm5
               have d0 := hA1.c0
               have d1 := hA1.c1
               have d2 := hA1.c2
               have cc := hA1.cc
               obtain ⟨A5, c5, rfl⟩ := own_slice hown5
               have hr5 := RI.of_own hown5)
            | (go_simp
               go_at_call 128
               refine (slEq8_any A5 C m m c5 d (nuL (ofL cs) m) cs _ hr5 hA1.rc hn6).mono ?_
               rw [hdn]
               rintro e w6 ⟨rfl, hb6⟩
               have hA1 := hA1.below hb6
               have d0 := hA1.c0
               have d1 := hA1.c1
               have d2 := hA1.c2)
            | (go_simp
               go_at_call 129
               refine (HKP.out _ hA1.kg).mono ?_
               rintro e w7 ⟨rfl, hmm7, hg7⟩
               have hA1 := hA1.kept hg7 hmm7))
          all_goals
            (try simp only [List.getElem_toArray, List.getElem_cons_succ, List.getElem_cons_zero, Act.put, List.setIfInBounds_toArray, List.set_cons_zero, List.set_cons_succ])
            obtain ⟨r0, r1, r2, f0, f1, f2⟩ := hA1.r_
            have hlr := hA1.br.lt
            have HBF := Lib.hid ((((HFB.out _ hA1.gr).setCell (p := ⟨w.heap.size + 1, 0, none⟩) (Nat.le_succ _) (.map (some b))).setCell (p := ⟨w.heap.size + 1, 1, none⟩) (Nat.le_succ _) (.slice C2 m c2)).setCell (p := ⟨w.heap.size + 1, 2, none⟩) (Nat.le_succ _) (.map (some q)))
            have HKF := Lib.hid (((hA1.kg.set_ (p := ⟨w.heap.size + 1, 0, none⟩) hbr hqr HLOW.out (.map (some b))).set_ (p := ⟨w.heap.size + 1, 1, none⟩) hbr hqr HLOW.out (.slice C2 m c2)).set_ (p := ⟨w.heap.size + 1, 2, none⟩) hbr hqr HLOW.out (.map (some q)))
            have d0 := hA1.c0
            have d1 := hA1.c1
            have d2 := hA1.c2
            clear hA1
            go_wp2
            exact bodyPost_ret (v := .tuple #[.agg #[.map (some b), .slice C2 m c2, .map (some q)], .bool true]) (by simp [results, Tryz.results77, go_sem, r0, r1, r2, hlr]) rfl ⟨_, by rw [HC0.out], HYV.out HC0.out _ HKF.out, HBF.out⟩
      · have hdn : decide (nuL (ofL cs) m = cs) = false := decide_eq_false hnu
        have HC0 := Lib.hid (HCN.out hnu)
        clear hnu
        go_wp2
        go_region_law (first
          | (go_simp
             go_at_call 71
             obtain ⟨nn5, D5, hm5⟩ := hA1.kg.mkd
             refine (HNU.out _ nn5 D5 hA1.kg.cls hm5).mono ?_
             rintro e w5 ⟨v5, rfl, hown5, hmm5, hg5⟩
             have hA1 := hA1.kept hg5 hmm5
             have d0 := hA1.c0
             have d1 := hA1.c1
             have d2 := hA1.c2
             have cc := hA1.cc
             obtain ⟨A5, c5, rfl⟩ := own_slice hown5
             have hr5 := RI.of_own hown5)
          | (go_simp
             go_at_call 128
             refine (slEq8_any A5 C m m c5 d (nuL (ofL cs) m) cs _ hr5 hA1.rc hn6).mono ?_
             rw [hdn]
             rintro e w6 ⟨rfl, hb6⟩
             have hA1 := hA1.below hb6
             have d0 := hA1.c0
             have d1 := hA1.c1
             have d2 := hA1.c2))
        all_goals
          (try simp only [List.getElem_toArray, List.getElem_cons_succ, List.getElem_cons_zero, Act.put, List.setIfInBounds_toArray, List.set_cons_zero, List.set_cons_succ])
          obtain ⟨r0, r1, r2, f0, f1, f2⟩ := hA1.r_
          have hlr := hA1.br.lt
          have HBF := Lib.hid ((((HFB.out _ hA1.gr).setCell (p := ⟨w.heap.size + 1, 0, none⟩) (Nat.le_succ _) (.map none)).setCell (p := ⟨w.heap.size + 1, 1, none⟩) (Nat.le_succ _) (.slice none 0 0)).setCell (p := ⟨w.heap.size + 1, 2, none⟩) (Nat.le_succ _) (.map none))
          clear hA1
          go_wp2
          exact bodyPost_ret (v := .tuple #[.agg #[.map none, .slice none 0 0, .map none], .bool false]) (by simp [results, Tryz.results77, go_sem, r0, r1, r2, hlr]) rfl ⟨_, by rw [HC0.out], HZV.out HC0.out _, HBF.out⟩
    · have hne : ((m : Int) != (n : Int)) = true := by simp; omega
      have HF : Hid ((∀ W, CgV zs cs w W (.agg #[.map none, .slice none 0 0, .map none])) ∧ cgB zs cs = false) := by
        have h0 : cgB zs cs = false := cg_nlen (by rw [HL.out, HL'.out]; exact hmn)
        exact ⟨fun _ => ⟨fun _ => rfl, fun e => (by rw [h0] at e; cases e)⟩, h0⟩
      have r0 : w1.cell? ⟨w.heap.size + 1, 0, none⟩ = some (.map none) := HBR1.out.cell 0
      have r1 : w1.cell? ⟨w.heap.size + 1, 1, none⟩ = some (.slice none 0 0) := HBR1.out.cell 1
      have r2 : w1.cell? ⟨w.heap.size + 1, 2, none⟩ = some (.map none) := HBR1.out.cell 2
      have f0 := HBR1.out.frozen 0
      have f1 := HBR1.out.frozen 1
      have f2 := HBR1.out.frozen 2
      have hlr := HBR1.out.lt
      have hb2 := ((HB1.out.setCell (p := ⟨w.heap.size + 1, 0, none⟩) (Nat.le_succ _) (.map none)).setCell (p := ⟨w.heap.size + 1, 1, none⟩) (Nat.le_succ _) (.slice none 0 0)).setCell (p := ⟨w.heap.size + 1, 2, none⟩) (Nat.le_succ _) (.map none)
      have HBF := Lib.hid (hb2.alloc hb2.size (.cells #[.map (some b)] 75))
      clear hb2 hown2
      go_wp2
      exact bodyPost_ret (v := .tuple #[.agg #[.map none, .slice none 0 0, .map none], .bool false]) (by simp [results, Tryz.results77, go_sem, r0, r1, r2, hlr]) rfl ⟨_, by rw [HF.out.2], HF.out.1 _, HBF.out⟩
end

end Go.Proofs.YtmknjifmmmnjjaaGreatDoor
