/-
  Kj.
-/
import Derived.Deep.RegionLaw
import Derived.Test.YtmknjifmmmnjjaaGreatDoorNW
import Derived.Test.YtmknjifmmmnjjaaGreatDoorKJ
namespace Go.Proofs.YtmknjifmmmnjjaaGreatDoor
set_option maxRecDepth 100000
set_option linter.unusedVariables false
set_option linter.unusedSimpArgs false
set_option linter.unusedSectionVars false

/-! (impl.congruence[int]).agrees. -/
section
open Go.RowKit Go.Maps

/-- charts of one class have one number -/
def agB (zs : List (List Int)) (cl : List Int) (num : List Int → Int) : Bool := zs.all (fun L => zs.all (fun M => !decide (kC zs cl L = kC zs cl M) || decide (num L = num M)))
theorem agB_iff {zs : List (List Int)} {cl : List Int} {num : List Int → Int} : agB zs cl num = true ↔ ∀ L ∈ zs, ∀ M ∈ zs, kC zs cl L = kC zs cl M → num L = num M := by
  unfold agB
  simp only [List.all_eq_true, Bool.or_eq_true, Bool.not_eq_true', decide_eq_false_iff_not, decide_eq_true_eq]
  constructor
  · intro h L hL M hM e
    rcases h L hL M hM with h | h
    · exact absurd e h
    · exact h
  · intro h L hL M hM
    by_cases e : kC zs cl L = kC zs cl M
    · exact .inr (h L hL M hM e)
    · exact .inl e
theorem agB_no {zs : List (List Int)} {cl : List Int} {num : List Int → Int} {L M : List Int} (hL : L ∈ zs) (hM : M ∈ zs) (e : kC zs cl L = kC zs cl M) (hne : num L ≠ num M) : agB zs cl num = false := by
  cases h : agB zs cl num
  · rfl
  · exact absurd (agB_iff.1 h L hL M hM e) hne

/-- the marks of the charts that are done -/
structure AgD (zs : List (List Int)) (cl : List Int) (num : List Int → Int) (left : Lit → Bool) (D : DataW Unit) : Prop where
  old : ∀ x, Maps.has D x = true → ∃ L, L ∈ zs ∧ left (klL L) = false ∧ kfI (kC zs cl L) = x
  at_ : ∀ L ∈ zs, left (klL L) = false → Maps.has D (kfI (kC zs cl L)) = true ∧ D.atKey (kfI (kC zs cl L)) (.lit (.int .i64 0)) = .lit (.int .i64 (num L))
theorem AgD.step {zs : List (List Int)} {cl : List Int} {num : List Int → Int} {left : Lit → Bool} {D : DataW Unit} (h : AgD zs cl num left D) (ht : Maps.Tidy D) (hz : ∀ L ∈ zs, isC L = true) {L : List Int} (hL : L ∈ zs) {z : Int} (hv : mrkV D (kfI (kC zs cl L)) (num L) z) :
    (z = num L → AgD zs cl num (fun x => left x && !x.sameKey (klL L)) (mrk D (kfI (kC zs cl L)) (num L))) ∧ (z ≠ num L → agB zs cl num = false) := by
  have hnew := mrk_new ht (kfI_key _) hv
  constructor
  · intro e
    subst e
    constructor
    · intro x hx
      rcases (mrk_has ht (kfI_key _) _ _).1 hx with h1 | h1
      · obtain ⟨M, hM, hl, e⟩ := h.old x h1
        exact ⟨M, hM, by rw [hl]; rfl, e⟩
      · refine ⟨L, hL, ?_, h1.symm⟩
        rw [sameKey_self (klL_key L)]; simp
    · intro M hM hl
      by_cases hlm : left (klL M) = false
      · obtain ⟨h1, h2⟩ := h.at_ M hM hlm
        exact ⟨(mrk_has ht (kfI_key _) _ _).2 (.inl h1), by rw [mrk_old _ h1]; exact h2⟩
      · have hlm : left (klL M) = true := by cases e : left (klL M) <;> simp_all
        rw [hlm, Bool.true_and] at hl
        have hsk : (klL M).sameKey (klL L) = true := by cases e : (klL M).sameKey (klL L) <;> simp_all
        have := klL_inj M L (hz M hM) (hz L hL) (same_key hsk)
        subst this
        exact ⟨(mrk_has ht (kfI_key _) _ _).2 (.inr rfl), hnew⟩
  · intro hne
    cases hh : Maps.has D (kfI (kC zs cl L)) with
    | false => exact absurd (hv.2 hh) hne
    | true =>
      obtain ⟨M, hM, hl, e⟩ := h.old _ hh
      have h2 := (h.at_ M hM hl).2
      rw [e, hv.1 hh] at h2
      injection h2 with h2
      injection h2 with _ h2
      exact agB_no hM hL (kfI_inj e) (by rw [← h2]; exact hne)
theorem AgD.done {zs : List (List Int)} {cl : List Int} {num : List Int → Int} {left : Lit → Bool} {D : DataW Unit} (h : AgD zs cl num left D) (hl : ∀ x, left x = false) : agB zs cl num = true := agB_iff.2 (fun L hL M hM e => by
  have h1 := (h.at_ L hL (hl _)).2
  have h2 := (h.at_ M hM (hl _)).2
  rw [e, h2] at h1
  injection h1 with h1
  injection h1 with _ h1
  exact h1.symm)
/-- what lies in memory while one chart is asked about -/
structure AgW (V W : World) (x0 b q n c nn : Nat) (C : Option Addr) (zs : List (List Int)) (cl : List Int) (D : DataW Unit) (m : Nat) (L : List Int) (y0 : Nat) : Prop where
  bx : Blk W x0 91 #[.map (some b), .slice C n c, .map (some q)]
  cx : Cb W y0 (m : Int) (ofL L)
  sem : W.ownsMap Tryz.prog 61 (plainElem (H := Unit) Tryz.prog 3) b n (mapP klL zs n)
  mkd : W.ownsMap Tryz.prog 3 (plainElem (H := Unit) Tryz.prog 3) q nn D
  cls : RI W C n cl
  gr : V.grownBy W (some q)
section
variable {V W W' : World} {x0 b q n c nn : Nat} {C : Option Addr} {zs : List (List Int)} {cl : List Int} {D : DataW Unit} {m : Nat} {L : List Int} {y0 : Nat}
theorem AgW.below (h : AgW V W x0 b q n c nn C zs cl D m L y0) (hb : Below W.heap.size W W') : AgW V W' x0 b q n c nn C zs cl D m L y0 :=
  ⟨h.bx.below hb h.bx.lt, h.cx.below hb h.cx.lt, ownsMap_same h.sem (hb.block b h.sem.lt), ownsMap_same h.mkd (hb.block q h.mkd.lt), h.cls.below hb, gbTr h.gr (gb_of hb _)⟩
theorem AgW.drew (h : AgW V W x0 b q n c nn C zs cl D m L y0) : AgW V W.drew x0 b q n c nn C zs cl D m L y0 := h.below (below_drewN (Below.refl _ _) 1)
theorem AgW.c0 (h : AgW V W x0 b q n c nn C zs cl D m L y0) : W.cell? ⟨x0, 0, none⟩ = some (.map (some b)) := h.bx.cell 0
theorem AgW.c1 (h : AgW V W x0 b q n c nn C zs cl D m L y0) : W.cell? ⟨x0, 1, none⟩ = some (.slice C n c) := h.bx.cell 1
theorem AgW.c2 (h : AgW V W x0 b q n c nn C zs cl D m L y0) : W.cell? ⟨x0, 2, none⟩ = some (.map (some q)) := h.bx.cell 2
end
set_option maxHeartbeats 2000000 in
theorem agreesI_any (b q m n c gf : Nat) (ca cb : Array Value) (C : Option Addr) (zs : List (List Int)) (cl : List Int) (num : List Int → Int) (hn : zs.length = n) (hn6 : n ≤ 1048576) (hz : ∀ L ∈ zs, isC L = true ∧ L.length = m) (hs : Srt zs) (hw : ∀ x ∈ cl, wfI x) (hnum : ∀ L ∈ zs, wfI (num L)) (w : World)
    (eg : ∀ args w, (callFunc gf args).run Tryz.prog w = .ok (.enter gf args) w)
    (hp : ∀ L ∈ zs, ∀ W, w.grownBy W (some q) → Calls Tryz.prog gf (ca ++ #[.agg #[.int .i64 ((m : Int)), .int .i64 (ofL L 0), .int .i64 (ofL L 1), .int .i64 (ofL L 2), .int .i64 (ofL L 3), .int .i64 (ofL L 4), .int .i64 (ofL L 5)]] ++ cb) W fun e W' => e = .returned (.int .i64 (num L)) ∧ Below W.heap.size W W')
    (hK : KgI w b q n C zs cl) :
    Calls Tryz.prog 84 #[.agg #[.map (some b), .slice C n c, .map (some q)], .func (.func gf) ca cb] w fun e w' => e = .returned (.bool (agB zs cl num)) ∧ (∃ nn D, w'.ownsMap Tryz.prog 3 (plainElem (H := Unit) Tryz.prog 3) q nn D) ∧ w.grownBy w' (some q) := by
  obtain ⟨nn0, D0, hmk⟩ := hK.mkd
  have hbq := hK.ne
  have hql := hmk.lt
  have hbl := hK.sem.lt
  have hown1 := hmk.alloc (.cells #[.map (some b), .slice C n c, .map (some q)] 91)
  have hsem1 := hK.sem.alloc (.cells #[.map (some b), .slice C n c, .map (some q)] 91)
  have hbx0 := Blk.new w 91 #[.map (some b), .slice C n c, .map (some q)]
  have hg0 := gb_al0 w (.cells #[.map (some b), .slice C n c, .map (some q)] 91) (some q)
  obtain ⟨w1, hrun, hm1, hg1⟩ := clear_run (t := 89) _ Tryz.underlying89 hown1 0
  have hbx1 := blk_kept hbx0 hg1 (row_map hown1)
  have hsem2 := hsem1.kept hg1 (fun e => hbq (by cases e; rfl))
  have hgr1 := gbTr hg0 hg1
  have HCLS := Lib.hid (fun (W : World) (hg : w.grownBy W (some q)) => ri_kept hK.cls hg hK.row)
  have HD : Hid (∀ x, Maps.has (mapP (H := Unit) klL zs n) x = true ↔ ∃ L, L ∈ zs ∧ klL L = x) := fun x => by subst hn; exact mapP_iff x
  have HSZ : Hid (Maps.size (mapP (H := Unit) klL zs n) = n) := by subst hn; exact mapP_size hz hs zs.length (Nat.le_refl _)
  have HN := Lib.hid hn
  have HZ := Lib.hid hz
  have HS := Lib.hid hs
  have HP := Lib.hid hp
  have HW := Lib.hid hw
  have HNU := Lib.hid hnum
  have HCL := Lib.hid hK.cls.len
  have k0 := hbx0.cell 2
  have k1 := hbx1.cell 0
  have HBX1 := Lib.hid hbx1
  have HGR1 := Lib.hid hgr1
  clear hn hz hs hp hw hnum hown1 hsem1 hbx0 hg0 hg1 hmk hbx1 hgr1 hK
  go_enter Tryz.func84, Tryz.ntmps84
  go_wp2_with (first | (at_range; refine wpList_range_own _ rfl _ 75 rfl 61 3 ch_keyed Tryz.underlying75 _ b n (mapP klL zs n) rfl hsem2 ?_; intro w2 hrg0 hg2 hs2) | go_in)
  try go_frame
  have hm2 := hm1.kept hg2 (by simp)
  have HBX2 := Lib.hid (HBX1.out.grown hg2 (by simp))
  have HGR2 := Lib.hid (HGR1.out.andThen hg2 (fun j e => by cases e))
  rw [HSZ.out] at hrg0
  have HRW : Hid (w.heap.size < w1.heap.size) := HBX1.out.lt
  clear hg2 hs2 hm1 hsem2 k0 k1 HBX1 HGR1 hrun
  generalize w1.heap.size = R at *
  go_loopw [5, 6] (fun _ _ wr => ∃ left cnt nn D, wr.ranges Tryz.prog 61 (plainElem Tryz.prog 3) b R n (mapP klL zs n) left cnt ∧ wr.ownsMap Tryz.prog 3 (plainElem (H := Unit) Tryz.prog 3) q nn D ∧ nn + cnt ≤ n ∧ Hid (∀ x, left x = true → Maps.has (mapP (H := Unit) klL zs n) x = true) ∧ Hid (AgD zs cl num left D) ∧ Hid (Blk wr w.heap.size 91 #[.map (some b), .slice C n c, .map (some q)]) ∧ Hid (w.grownBy wr (some q))) (fun _ _ wr => wr.rangeLeft b R)
  case atStart => exact ⟨_, _, _, _, hrg0, hm2, by simp, Lib.hid (fun x h => h), Lib.hid ⟨fun x hx => (by simp [Maps.has] at hx), fun L hL h => (by rw [(HD.out _).2 ⟨L, hL, rfl⟩] at h; cases h)⟩, HBX2.out, HGR2.out⟩
  case round =>
    clear hrg0 hm2 HBX2 HGR2
    obtain ⟨left, cnt, nn, D, hrg, hmp, hcn, P1, P2, HBX, HGR⟩ := hrel
    have hrl := hrg.lt
    go_wp2_with (first | (at_next; refine wpList_next_ranges _ rfl _ rfl 61 ch_keyed (plainElem Tryz.prog 3) mkCh (Value.int .i64) mkCh_inv plain_inv b R n _ _ _ rfl hrg ?_ ?_) | go_in)
    · intro hc0 hl0
      have HT := Lib.hid (P2.out.done hl0)
      go_wp2
      go_ret
      exact ⟨by rw [HT.out]; try rfl, ⟨_, _, hmp⟩, HGR.out⟩
    · intro xn xT cc kl yd yp w3 cnt2 hkey hlk hv hat hrg2 hlt hg3 hs3 hen
      obtain ⟨L, hL, hkl, hx⟩ := ch_of_key HZ.out hkey ((HD.out kl).1 (P1.out kl hlk))
      rw [hx] at hen
      rw [hx]
      subst hkl
      have hLz := HZ.out L hL
      have hqR : q ≠ R := by have := HRW.out; omega
      have hgr3 := HGR.out.andThen hg3 (fun j e => .inl (by cases e; have := HRW.out; omega))
      have hmp3 := hmp.kept hg3 (fun e => hqR (by cases e; rfl))
      have hbx3 := HBX.out.grown hg3 (fun e => by have := HRW.out; cases e; omega)
      have HAW0 : Hid (AgW w3 (w3.alloc (.cells #[.int .i64 ((m : Int)), .int .i64 (ofL L 0), .int .i64 (ofL L 1), .int .i64 (ofL L 2), .int .i64 (ofL L 3), .int .i64 (ofL L 4), .int .i64 (ofL L 5)] 61)) w.heap.size b q n c nn C zs cl D m L w3.heap.size) :=
        ⟨hbx3.alloc _, Cb.new w3 _ _, hrg2.owns.alloc _, hmp3.alloc _, HCLS.out _ (gbTr hgr3 (gb_al0 w3 _ _)), gb_al0 w3 _ _⟩
      have HRG := Lib.hid (fun (W : World) (hg : w3.grownBy W (some q)) => hrg2.kept hg (fun e => hbq (by cases e; rfl)) (fun e => hqR (by cases e; rfl)))
      have HGW := Lib.hid (fun (W : World) (hg : w3.grownBy W (some q)) => gbTr hgr3 hg)
      have P1' : Hid (∀ x, (left x && !x.sameKey (klL L)) = true → Maps.has (mapP (H := Unit) klL zs n) x = true) := fun x h => P1.out x (by rw [Bool.and_eq_true] at h; exact h.1)
      have HST := Lib.hid (fun (z : Int) hz => P2.out.step (hmp.tidy (int_keyed Tryz.underlying3)) (fun L hL => (HZ.out L hL).1) hL (z := z) hz)
      have hcall := HP.out L hL _ (HGW.out _ HAW0.out.gr)
      have hnn : nn < maxLen := by unfold maxLen; omega
      have hwk : wfI (kC zs cl L) := by
        have hi := (ixP_mem HS.out hL).1
        unfold kC ofL; rw [List.getElem?_eq_getElem (by rw [HCL.out, ← HN.out]; exact hi)]
        exact HW.out _ (List.getElem_mem _)
      have HCC := Lib.hid (fun (W : World) (hA : AgW w3 W w.heap.size b q n c nn C zs cl D m L w3.heap.size) => classI_any b m n c (some q) C zs cl L W HN.out HZ.out HS.out hL hA.sem hA.cls)
      have HMC := Lib.hid (fun (W : World) (hA : AgW w3 W w.heap.size b q n c nn C zs cl D m L w3.heap.size) => markI_any (some b) q nn n c C (kC zs cl L) (num L) D W hA.mkd hwk (HNU.out L hL) hnn)
      obtain ⟨a0, a1, a2, a3, a4, a5, a6⟩ := (Cb.new w3 (m : Int) (ofL L)).all
      have hlt2 : cnt2 < cnt := hlt
      clear hs3 hkey hx hv hat hlk P1 P2 hrg2 hmp3 hbx3 hg3 hmp hgr3 hwk
      generalize hkk : kC zs cl L = kv at *
      generalize hnn2 : num L = nv at *
      clear hkk hnn2
      go_wp2_with fail
      refine hcall.mono ?_
      rintro e w4 ⟨rfl, hb4⟩
      have hA := HAW0.out.below hb4
      have hA1 := hA.drew
      have d0 := hA.c0
      have d1 := hA.c1
      have d2 := hA.c2
      obtain ⟨a0, a1, a2, a3, a4, a5, a6⟩ := hA.cx.all
      clear hcall hb4 HAW0 hA
      go_wp2
      go_region_law (first
        | (go_simp
           go_at_call 85
           refine (HCC.out _ hA1).mono ?_
           rintro e w5 ⟨rfl, hb5⟩
           have hA1 := hA1.below hb5
           have d0 := hA1.c0
           have d1 := hA1.c1
           have d2 := hA1.c2)
        | (go_simp
           go_at_call 120
           refine (HMC.out _ hA1).mono ?_
           rintro e w6 ⟨z, rfl, hz6, hm6, hg6⟩))
      all_goals
        (try simp only [List.getElem_toArray, List.getElem_cons_succ, List.getElem_cons_zero, Act.put, List.setIfInBounds_toArray, List.set_cons_zero, List.set_cons_succ])
        have hgf := gbTr hA1.gr hg6
        have HG6 := Lib.hid (HGW.out _ hgf)
        have hrg6 := HRG.out _ hgf
        have HBX6 := Lib.hid (blk_kept hA1.bx hg6 (row_map hA1.mkd))
        clear hA1 hb5 hg6 hgf d0 d1 d2 a0 a1 a2 a3 a4 a5 a6
        by_cases hzn : z = nv
        · have hbe : ((z : Int) != nv) = false := by simp [hzn]
          have HD2 := Lib.hid ((HST.out z hz6).1 hzn)
          clear hzn hz6
          go_wp2
          go_roundw
          case rel => exact ⟨_, cnt2, nn + 1, _, hrg6, hm6, by omega, P1', HD2.out, HBX6, HG6⟩
          case measure => rw [hrg6.left_eq, hrg.left_eq]; exact hlt2
        · have hbe : ((z : Int) != nv) = true := by simp [hzn]
          have HF := Lib.hid ((HST.out z hz6).2 hzn)
          clear hzn hz6
          go_wp2
          go_ret
          exact ⟨by rw [HF.out]; try rfl, ⟨_, _, hm6⟩, HG6.out⟩
end

end Go.Proofs.YtmknjifmmmnjjaaGreatDoor
