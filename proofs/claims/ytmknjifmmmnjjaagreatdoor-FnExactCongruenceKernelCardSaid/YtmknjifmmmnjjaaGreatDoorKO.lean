/-
  Ko.
-/
import Derived.Test.YtmknjifmmmnjjaaGreatDoorKN
namespace Go.Proofs.YtmknjifmmmnjjaaGreatDoor
set_option maxRecDepth 100000
set_option linter.unusedVariables false
set_option linter.unusedSimpArgs false
set_option linter.unusedSectionVars false

/-! (impl.congruence[int]).markAll, splits; CongruenceSplits, CongruenceSize. -/
section
open Go.RowKit Go.Maps

theorem own_nmap {w : World} {lo size n q nn : Nat} {e K : TypeId} {v : Value} {xs : List Value} {R : Value → Option (DataW Unit × List MemPlace)} {D : DataW Unit} (h : w.ownsRow lo e size v n xs) (hm : w.ownsMap Tryz.prog K R q nn D) : v.ownBlock ≠ some q := fun e2 => by
  rcases h.2 with ⟨rfl, _⟩ | ⟨g, cap, cur, rfl, _, hh, _⟩
  · cases e2
  · cases e2
    obtain ⟨es, clock, hb, _⟩ := hm
    rw [hb] at hh
    cases hh
/-- the class of the i-th of some charts -/
def cAt (zs : List (List Int)) (cl : List Int) (Ls : List (List Int)) (i : Nat) : Int := kC zs cl (ent Ls i)
structure MaS (w wr : World) (b q n c lo k : Nat) (C : Option Addr) (zs : List (List Int)) (cl : List Int) (m : Nat) (Ls : List (List Int)) (v : Value) : Prop where
  row : wr.ownsRow lo 61 7 v Ls.length (cwc m Ls)
  mkd : wr.ownsMap Tryz.prog 3 (plainElem (H := Unit) Tryz.prog 3) q k (mrD (cAt zs cl Ls) kfI (fun i => (i : Int)) k)
  bx : Blk wr w.heap.size 91 #[.map (some b), .slice C n c, .map (some q)]
  sem : wr.ownsMap Tryz.prog 61 (plainElem (H := Unit) Tryz.prog 3) b n (mapP klL zs n)
  cls : RI wr C n cl
  gr : w.grownBy wr (some q)
set_option maxHeartbeats 2000000 in
theorem markAllI_any (b q m n c lo : Nat) (C : Option Addr) (zs : List (List Int)) (cl : List Int) (Ls : List (List Int)) (v : Value) (hn : zs.length = n) (hn6 : n ≤ 1048576) (hr6 : Ls.length ≤ 1048576) (hz : ∀ L ∈ zs, isC L = true ∧ L.length = m) (hs : Srt zs) (hw : ∀ x ∈ cl, wfI x) (hLs : ∀ L ∈ Ls, L ∈ zs) (w : World)
    (hrow : w.ownsRow lo 61 7 v Ls.length (cwc m Ls)) (hK : KgI w b q n C zs cl) :
    Calls Tryz.prog 82 #[.agg #[.map (some b), .slice C n c, .map (some q)], v] w fun e w' => e = .returned (.int .i64 (frC (cAt zs cl Ls) Ls.length : Nat)) ∧ (∃ nn D, w'.ownsMap Tryz.prog 3 (plainElem (H := Unit) Tryz.prog 3) q nn D ∧ ∀ x, Maps.has D x = true ↔ ∃ i, i < Ls.length ∧ kfI (cAt zs cl Ls i) = x) ∧ w.grownBy w' (some q) := by
  obtain ⟨A, cp, rfl⟩ := own_shape hrow
  obtain ⟨nn0, D0, hmk⟩ := hK.mkd
  have hbq := hK.ne
  have hown1 := hmk.alloc (.cells #[.map (some b), .slice C n c, .map (some q)] 91)
  have hsem1 := hK.sem.alloc (.cells #[.map (some b), .slice C n c, .map (some q)] 91)
  have hrow1 := hrow.alloc (.cells #[.map (some b), .slice C n c, .map (some q)] 91)
  have hbx0 := Blk.new w 91 #[.map (some b), .slice C n c, .map (some q)]
  have hg0 := gb_al0 w (.cells #[.map (some b), .slice C n c, .map (some q)] 91) (some q)
  obtain ⟨w1, hrun, hm1, hg1⟩ := clear_run (t := 89) _ Tryz.underlying89 hown1 0
  have hgr1 := gbTr hg0 hg1
  have HS0 : Hid (MaS w w1 b q n c lo 0 C zs cl m Ls (.slice A Ls.length cp)) := ⟨hrow1.kept hg1 (.inr (own_nmap hrow1 hown1)), hm1, blk_kept hbx0 hg1 (row_map hown1), hsem1.kept hg1 (fun e => hbq (by cases e; rfl)), ri_kept hK.cls hgr1 hK.row, hgr1⟩
  have k2 := hbx0.cell 2
  have HLS := Lib.hid hLs
  have HZ := Lib.hid hz
  have HWC := Lib.hid (fun (L : List Int) (hL : L ∈ zs) => kc_wf hs (hK.cls.len.trans hn.symm) hw hL)
  have HCC := Lib.hid (fun (V W : World) (nn : Nat) (D : DataW Unit) (L : List Int) (y0 : Nat) (hL : L ∈ zs) (hA : AgW V W w.heap.size b q n c nn C zs cl D m L y0) => classI_any b m n c (some q) C zs cl L W hn hz hs hL hA.sem hA.cls)
  clear hown1 hsem1 hrow1 hbx0 hg0 hg1 hmk hgr1 hm1 hLs hz hs hw hn hK hrow
  go_enter Tryz.func82, Tryz.ntmps82
  go_wp2
  go_loopw [5, 6, 11] (fun _ _ s wr => ∃ k : Nat, k ≤ Ls.length ∧ s = .int .i64 (k : Int) ∧ Hid (MaS w wr b q n c lo k C zs cl m Ls (.slice A Ls.length cp))) (fun _ _ s _ => Ls.length - (intOf s).toNat)
  case atStart => exact ⟨0, Nat.zero_le _, rfl, HS0.out⟩
  case round =>
    clear HS0 hrun k2
    obtain ⟨k, hkn, rfl, HN⟩ := hrel
    by_cases hlt : k < Ls.length
    · have hkk : (k : Int) < (Ls.length : Int) := by omega
      obtain ⟨L, hL⟩ : ∃ L, Ls[k]? = some L := ⟨_, List.getElem?_eq_getElem hlt⟩
      have hLz := HLS.out L (List.mem_of_getElem? hL)
      obtain ⟨g1, cp1, hv, _, hg1⟩ := HN.out.row.form (by omega)
      injection hv with hv1 _ hv3
      subst hv1
      subst hv3
      have hC1 : Chs wr g1 m Ls := Chs.of_own HN.out.row
      obtain ⟨a0, a1, a2, a3, a4, a5, a6⟩ := hC1.all hL
      have hE : cAt zs cl Ls k = kC zs cl L := by unfold cAt ent; rw [hL]; rfl
      have hAW0 : AgW wr (wr.alloc (.cells #[.int .i64 ((m : Int)), .int .i64 (ofL L 0), .int .i64 (ofL L 1), .int .i64 (ofL L 2), .int .i64 (ofL L 3), .int .i64 (ofL L 4), .int .i64 (ofL L 5)] 61)) w.heap.size b q n c k C zs cl (mrD (cAt zs cl Ls) kfI (fun i => (i : Int)) k) m L wr.heap.size :=
        ⟨HN.out.bx.alloc _, Cb.new wr _ _, HN.out.sem.alloc _, HN.out.mkd.alloc _, HN.out.cls.below ((Below.refl _ _).alloc (Nat.le_refl _) _), gb_al0 wr _ _⟩
      have hwv : wfI (k : Int) := WalkArith.wf_i64 (by omega)
      have HMC := Lib.hid (fun (W : World) (hA : AgW wr W w.heap.size b q n c k C zs cl (mrD (cAt zs cl Ls) kfI (fun i => (i : Int)) k) m L wr.heap.size) => markI_any (some b) q k n c C (kC zs cl L) (k : Int) _ W hA.mkd (HWC.out L hLz) hwv (by unfold maxLen; omega))
      have HC2 := Lib.hid (fun (W : World) hA => HCC.out wr W k (mrD (cAt zs cl Ls) kfI (fun i => (i : Int)) k) L wr.heap.size hLz hA)
      have HMS : Hid (mrk (mrD (H := Unit) (cAt zs cl Ls) kfI (fun i => (i : Int)) k) (.int .i64 (kC zs cl L)) (k : Int) = mrD (cAt zs cl Ls) kfI (fun i => (i : Int)) (k + 1)) := by
        show _ = _
        rw [← hE]; rfl
      have hrow2 := HN.out.row
      have hng := own_nmap hrow2 HN.out.mkd
      have HROW : Hid (∀ W, wr.grownBy W (some q) → W.ownsRow lo 61 7 (.slice (some ⟨g1, 0, none⟩) Ls.length cp) Ls.length (cwc m Ls)) := fun W hg => hrow2.kept hg (.inr hng)
      have HGR := Lib.hid (fun (W : World) (hg : wr.grownBy W (some q)) => gbTr HN.out.gr hg)
      have hA1 := hAW0.drew
      have d0 := hAW0.c0
      have d1 := hAW0.c1
      have d2 := hAW0.c2
      obtain ⟨e0, e1, e2, e3, e4, e5, e6⟩ := hAW0.cx.all
      clear hL hLz hC1 hAW0 HN hrow2 hng hE hwv
      generalize kC zs cl L = kv at *
      generalize mrD (H := Unit) (cAt zs cl Ls) kfI (fun i => (i : Int)) k = Dk at *
      go_wp2
      go_region_law (first
        | (go_simp
           go_at_call 85
           refine (HC2.out _ hA1).mono ?_
           rintro e w5 ⟨rfl, hb5⟩
           have hA1 := hA1.below hb5
           have d0 := hA1.c0
           have d1 := hA1.c1
           have d2 := hA1.c2)
        | (go_simp
           go_at_call 120
           refine (HMC.out _ hA1).mono ?_
           rintro e w6 ⟨z, rfl, hz6, hm6, hg6⟩))
      all_goals
        (try simp only [List.getElem_toArray, List.getElem_cons_succ, List.getElem_cons_zero, Act.put, List.setIfInBounds_toArray, List.set_cons_zero, List.set_cons_succ])
        rw [HMS.out] at hm6
        have hgf := gbTr hA1.gr hg6
        have HN6 : Hid (MaS w w6 b q n c lo (k + 1) C zs cl m Ls (.slice (some ⟨g1, 0, none⟩) Ls.length cp)) := ⟨HROW.out _ hgf, hm6, blk_kept hA1.bx hg6 (row_map hA1.mkd), hA1.sem.kept hg6 (fun e => hbq (by cases e; rfl)), ri_kept hA1.cls hg6 (row_map hA1.mkd), HGR.out _ hgf⟩
        clear hA1 hb5 hg6 hgf hm6 hz6
        go_wp2
        go_roundw
        case rel => exact ⟨k + 1, by omega, by go_num, HN6.out⟩
        case measure => simp [intOf]; omega
    · obtain rfl : k = Ls.length := by omega
      have hkk : ¬ (Ls.length : Int) < (Ls.length : Int) := by omega
      have hinj : ∀ i j, i < Ls.length → j < Ls.length → kfI (cAt zs cl Ls i) = kfI (cAt zs cl Ls j) → cAt zs cl Ls i = cAt zs cl Ls j := fun i j _ _ h => kfI_inj h
      have hlen := HN.out.mkd.len Tryz.underlying89
      rw [mrD_size (n := Ls.length) kfI_key hinj Ls.length (Nat.le_refl _)] at hlen
      have HH : Hid (∀ x, Maps.has (mrD (H := Unit) (cAt zs cl Ls) kfI (fun i => (i : Int)) Ls.length) x = true ↔ ∃ i, i < Ls.length ∧ kfI (cAt zs cl Ls i) = x) := fun x => mrD_has kfI_key Ls.length
      have d2 : wr.cell? ⟨w.heap.size, 2, none⟩ = some (.map (some q)) := HN.out.bx.cell 2
      clear hinj
      go_wp2
      go_ret
      exact ⟨by try rfl, ⟨_, _, HN.out.mkd, HH.out⟩, HN.out.gr⟩
set_option maxHeartbeats 1000000 in
theorem markAllI_none (w : World) (S : Option Addr) :
    Calls Tryz.prog 82 #[.agg #[.map none, .slice none 0 0, .map none], .slice S 0 0] w fun e w' => e = .returned (.int .i64 0) ∧ Below w.heap.size w w' := by
  have hB := (Below.refl _ w).alloc (Nat.le_refl _) (.cells #[.map none, .slice none 0 0, .map none] 91)
  have hlen := fun (W : World) => Maps.len_nil (w := W) (P := Tryz.prog) Tryz.underlying89
  have hcl : ∀ W : World, (Builtin.clear_ #[89] 0 #[.map none]).run Tryz.prog W = .ok (.tuple #[]) W := fun W => by
    simp [Builtin.clear_, run_underlying Tryz.underlying89]
  have k2 := (Blk.new w 91 #[.map none, .slice none 0 0, .map none]).cell 2
  go_enter Tryz.func82, Tryz.ntmps82
  go_wp2
  go_loopw [5, 6, 11] (fun _ _ s wr => s = .int .i64 0 ∧ wr = w.alloc (.cells #[.map none, .slice none 0 0, .map none] 91)) (fun _ _ _ _ => 0)
  case atStart => exact ⟨rfl, rfl⟩
  case round =>
    obtain ⟨rfl, rfl⟩ := hrel
    go_wp2
    go_ret
    exact ⟨by try rfl, hB⟩
theorem fr_full {α : Type} [DecidableEq α] {c : Nat → α} : ∀ {n : Nat}, frC c n = n ↔ ∀ i, i < n → ∀ j, j < i → c j ≠ c i
  | 0 => by simp [frC]
  | n + 1 => by
    have hle := frC_le c n
    constructor
    · intro h
      by_cases hf : fsE c n = n
      · rw [frC_next hf] at h
        have ih := (fr_full (c := c) (n := n)).1 (by omega)
        intro i hi j hj
        rcases Nat.lt_or_ge i n with g | g
        · exact ih i g j hj
        · obtain rfl : i = n := by omega
          exact fsE_none c i j (by omega)
      · rw [frC_same hf] at h; omega
    · intro h
      have hf : fsE c n = n := fsE_is (Nat.le_refl _) rfl (fun j hj => h n (by omega) j hj)
      rw [frC_next hf, (fr_full (c := c) (n := n)).2 (fun i hi j hj => h i (by omega) j hj)]
theorem srt_inj {zs : List (List Int)} (hs : Srt zs) {i j : Nat} (hi : i < zs.length) (hj : j < zs.length) (e : ent zs i = ent zs j) : i = j := by
  rcases Nat.lt_trichotomy i j with g | g | g
  · have := hs i j g hj; rw [e, lexB_irrefl] at this; cases this
  · exact g
  · have := hs j i g hi; rw [e, lexB_irrefl] at this; cases this
theorem srt_nodup8 {zs : List (List Int)} (hs : Srt zs) : zs.Nodup := by
  rw [List.Nodup, List.pairwise_iff_getElem]
  intro i j hi hj hij e
  have e1 : ent zs i = zs[i] := by unfold ent; rw [List.getElem?_eq_getElem hi]; rfl
  have e2 : ent zs j = zs[j] := by unfold ent; rw [List.getElem?_eq_getElem hj]; rfl
  have := srt_inj hs hi hj (by rw [e1, e2, e])
  omega
theorem nodup_ent {l : List (List Int)} (h : l.Nodup) {i j : Nat} (hi : i < l.length) (hj : j < l.length) (e : ent l i = ent l j) : i = j := by
  have e1 : ent l i = l[i] := by unfold ent; rw [List.getElem?_eq_getElem hi]; rfl
  have e2 : ent l j = l[j] := by unfold ent; rw [List.getElem?_eq_getElem hj]; rfl
  rw [e1, e2] at e
  exact (List.getElem_inj h).1 e
theorem cAt_all {zs : List (List Int)} {cl : List Int} (hs : Srt zs) {i : Nat} (hi : i < zs.length) : cAt zs cl zs i = ofL cl i := by unfold cAt kC; rw [ixP_at hs hi]
theorem size_is {zs : List (List Int)} {cs : List Int} (hc : cgB zs cs = true) : frC (cAt zs cs zs) zs.length = szN zs cs := by
  have S := sgS_iff.1 (cgB_iff.1 hc).sg
  unfold szN
  rw [if_pos hc]
  exact fr_same (fun i j hi hj => by rw [cAt_all S.srt hi, cAt_all S.srt hj]) _ (Nat.le_refl _)
theorem splits_is {zs : List (List Int)} {cs : List Int} (hc : cgB zs cs = true) : frC (cAt zs cs (zs.filter idB)) (zs.filter idB).length = (zs.filter idB).length ↔ spB zs cs = true := by
  have S := sgS_iff.1 (cgB_iff.1 hc).sg
  have hnd : (zs.filter idB).Nodup := List.Pairwise.filter _ (srt_nodup8 S.srt)
  have hk : ∀ i, i < zs.length → kC zs cs (ent zs i) = ofL cs i := fun i hi => by unfold kC; rw [ixP_at S.srt hi]
  have hsp : ∀ i k, spP zs cs i k = true ↔ ¬ (ofL cs i = ofL cs k ∧ idB (ent zs i) = true ∧ idB (ent zs k) = true) := fun i k => by
    unfold spP
    rw [Bool.not_eq_true', Bool.and_eq_false_iff, Bool.and_eq_false_iff, decide_eq_false_iff_not]
    constructor
    · rintro ((h | h) | h) ⟨h1, h2, h3⟩
      · exact h h1
      · rw [h2] at h; cases h
      · rw [h3] at h; cases h
    · intro h
      by_cases h1 : ofL cs i = ofL cs k
      · cases h2 : idB (ent zs i)
        · exact .inl (.inr rfl)
        · cases h3 : idB (ent zs k)
          · exact .inr rfl
          · exact absurd ⟨h1, h2, h3⟩ h
      · exact .inl (.inl h1)
  unfold spB
  rw [hc, Bool.true_and, dbB_iff, fr_full]
  constructor
  · intro h i hi k hki
    rw [hsp]
    rintro ⟨e, h1, h2⟩
    have hk' : k < zs.length := by omega
    obtain ⟨p, hp, ep⟩ := mem_ent (List.mem_filter.2 ⟨ent_mem hi, h1⟩)
    obtain ⟨r, hr, er⟩ := mem_ent (List.mem_filter.2 ⟨ent_mem hk', h2⟩)
    have hce : cAt zs cs (zs.filter idB) p = cAt zs cs (zs.filter idB) r := by unfold cAt; rw [ep, er, hk i hi, hk k hk']; exact e
    rcases Nat.lt_trichotomy p r with g | g | g
    · exact h r hr p g hce
    · subst g
      have := srt_inj S.srt hi hk' (ep.symm.trans er)
      omega
    · exact h p hp r g hce.symm
  · intro h p hp r hr e
    have m1 := List.mem_filter.1 (ent_mem hp)
    have m2 := List.mem_filter.1 (ent_mem (show r < (zs.filter idB).length by omega))
    obtain ⟨i, hi, ei⟩ := mem_ent m1.1
    obtain ⟨k, hk', ek⟩ := mem_ent m2.1
    unfold cAt at e
    rw [← ei, ← ek, hk i hi, hk k hk'] at e
    rw [← ei] at m1
    rw [← ek] at m2
    rcases Nat.lt_trichotomy i k with g | g | g
    · exact (hsp k i).1 (h k hk' i g) ⟨e, m2.2, m1.2⟩
    · subst g
      have := nodup_ent hnd hp (by omega) (ei.symm.trans ek)
      omega
    · exact (hsp i k).1 (h i hi k g) ⟨e.symm, m1.2, m2.2⟩
end

end Go.Proofs.YtmknjifmmmnjjaaGreatDoor
