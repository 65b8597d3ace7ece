/-
  Kk.
-/
import Derived.Test.YtmknjifmmmnjjaaGreatDoorKK
namespace Go.Proofs.YtmknjifmmmnjjaaGreatDoor
set_option maxRecDepth 100000
set_option linter.unusedVariables false
set_option linter.unusedSimpArgs false
set_option linter.unusedSectionVars false

/-! slices.Equal of numbers; impl.keepsProducts. -/
section
open Go.RowKit Go.Maps

theorem RI.get8 {w : World} {A : Option Addr} {n : Nat} {zs : List Int} (h : RI w A n zs) {k : Nat} (hk : k < n) : ∃ (ad : Addr) (z : Int), A = some ad ∧ ad.block < w.heap.size ∧ zs[k]? = some z ∧ w.cell? (ad.add k) = some (.int .i64 z) := by
  obtain ⟨ad, e, hb, hc⟩ := h.at_ hk
  have hl : k < zs.length := by rw [h.len]; exact hk
  exact ⟨ad, _, e, hb, List.getElem?_eq_getElem hl, by rw [hc, List.getElem?_eq_getElem hl]; rfl⟩
theorem take_int8 {zs : List Int} {k : Nat} {z : Int} (h : zs[k]? = some z) : zs.take (k + 1) = zs.take k ++ [z] := by
  have hk := (List.getElem?_eq_some_iff.1 h)
  rw [List.take_succ_eq_append_getElem hk.1, hk.2]
set_option maxHeartbeats 1000000 in
theorem slEq8_any (A B : Option Addr) (n m c d : Nat) (zs ys : List Int) (w : World) (h : RI w A n zs) (h' : RI w B m ys) (hn : n ≤ 1048576) :
    Calls Tryz.prog 128 #[.slice A n c, .slice B m d] w fun e w' => e = .returned (.bool (decide (zs = ys))) ∧ Below w.heap.size w w' := by
  by_cases hnm : n = m
  · subst hnm
    have HL := Lib.hid h.len
    have HL' := Lib.hid h'.len
    go_enter Tryz.func128, Tryz.ntmps128
    go_wp2
    go_loopw [13] (fun i wr => ∃ k : Nat, k ≤ n ∧ i = .int .i64 k ∧ Hid (zs.take k = ys.take k) ∧ Below w.heap.size w wr) (fun i _ => n - (intOf i).toNat)
    case atStart => exact ⟨0, Nat.zero_le _, rfl, Lib.hid rfl, Below.refl _ _⟩
    case round =>
      obtain ⟨k, hk, rfl, HT, hbel⟩ := hrel
      by_cases hlt : k < n
      · obtain ⟨ad, s, rfl, hab, hs, hc⟩ := h.get8 hlt
        obtain ⟨ad', s', rfl, hab', hs', hc'⟩ := h'.get8 hlt
        have g := (hbel.cell (p := ad.add k) (by rw [block_of_add]; exact hab)).trans hc
        have g' := (hbel.cell (p := ad'.add k) (by rw [block_of_add]; exact hab')).trans hc'
        have HS := Lib.hid hs
        have HS' := Lib.hid hs'
        have hki : (k : Int) < (n : Int) := by omega
        clear hc hc' h h' hs hs'
        by_cases he : s = s'
        · have ht : (s != s') = false := by rw [he]; simp
          have HE := Lib.hid he
          clear he
          go_wp2
          go_quiet (fail)
          all_goals go_wp2
          go_roundw
          case rel =>
            refine ⟨k + 1, by omega, by go_num, ?_, below_drewN hbel _⟩
            show zs.take (k + 1) = ys.take (k + 1)
            rw [take_int8 HS.out, take_int8 HS'.out, HT.out, HE.out]
          case measure => simp [intOf]; omega
        · have ht : (s != s') = true := by rw [bne_iff_ne]; exact he
          have HE := Lib.hid he
          clear he
          go_wp2
          go_quiet (fail)
          all_goals go_wp2
          go_ret
          refine ⟨?_, below_drewN hbel _⟩
          rw [decide_eq_false (fun e => HE.out (by
            have h1 := HS.out
            have h2 := HS'.out
            rw [e] at h1
            exact Option.some.inj (h1.symm.trans h2)))]
          rfl
      · obtain rfl : k = n := by omega
        have hki : ¬ (k : Int) < (k : Int) := by omega
        go_wp2
        go_ret
        refine ⟨?_, hbel⟩
        have e : zs = ys := by
          have h := HT.out
          rwa [List.take_of_length_le (by have := HL.out; omega), List.take_of_length_le (by have := HL'.out; omega)] at h
        rw [decide_eq_true e]
        rfl
  · have hb : ((n : Int) != (m : Int)) = true := by rw [bne_iff_ne]; omega
    have HL := Lib.hid h.len
    have HL' := Lib.hid h'.len
    clear h h'
    go_enter Tryz.func128, Tryz.ntmps128
    go_wp2
    go_ret
    refine ⟨?_, Below.refl _ _⟩
    rw [decide_eq_false (fun e => hnm (by rw [← HL.out, ← HL'.out, e]))]
    rfl
theorem cb_kept {w w' : World} {y0 : Nat} {n : Int} {T : Nat → Int} {row : Option Nat} (h : Cb w y0 n T) (hg : w.grownBy w' row) (hm : ∀ r, row = some r → ∃ o : Obj, w.heap[r]? = some o ∧ o.isCells = false) : Cb w' y0 n T := by
  obtain ⟨o, ho, hc⟩ := cells_of_cell h.head
  exact World.rowIs.of_block h (grownBy_keeps_cells hg hm ho hc)
structure KpW (W : World) (x0 b q n c : Nat) (C : Option Addr) (zs : List (List Int)) (cl : List Int) (m : Nat) (K : List Int) (y0 : Nat) : Prop where
  bx : Blk W x0 91 #[.map (some b), .slice C n c, .map (some q)]
  cx : Cb W y0 (m : Int) (ofL K)
  sem : W.ownsMap Tryz.prog 61 (plainElem (H := Unit) Tryz.prog 3) b n (mapP klL zs n)
  cls : RI W C n cl
  ne : b ≠ q
section
variable {W W' : World} {x0 b q n c : Nat} {C : Option Addr} {zs : List (List Int)} {cl : List Int} {m : Nat} {K : List Int} {y0 : Nat}
theorem KpW.below (h : KpW W x0 b q n c C zs cl m K y0) (hb : Below W.heap.size W W') : KpW W' x0 b q n c C zs cl m K y0 := ⟨h.bx.below hb h.bx.lt, h.cx.below hb h.cx.lt, ownsMap_same h.sem (hb.block b h.sem.lt), h.cls.below hb, h.ne⟩
theorem KpW.kept (h : KpW W x0 b q n c C zs cl m K y0) (hg : W.grownBy W' (some q)) (hm : ∀ r, some q = some r → ∃ o : Obj, W.heap[r]? = some o ∧ o.isCells = false) : KpW W' x0 b q n c C zs cl m K y0 :=
  ⟨blk_kept h.bx hg hm, cb_kept h.cx hg hm, h.sem.kept hg (fun e => h.ne (by cases e; rfl)), ri_kept h.cls hg hm, h.ne⟩
theorem KpW.drew (h : KpW W x0 b q n c C zs cl m K y0) : KpW W.drew x0 b q n c C zs cl m K y0 := h.below (below_drewN (Below.refl _ _) 1)
theorem KpW.c0 (h : KpW W x0 b q n c C zs cl m K y0) : W.cell? ⟨x0, 0, none⟩ = some (.map (some b)) := h.bx.cell 0
theorem KpW.c1 (h : KpW W x0 b q n c C zs cl m K y0) : W.cell? ⟨x0, 1, none⟩ = some (.slice C n c) := h.bx.cell 1
theorem KpW.c2 (h : KpW W x0 b q n c C zs cl m K y0) : W.cell? ⟨x0, 2, none⟩ = some (.map (some q)) := h.bx.cell 2
end
set_option maxHeartbeats 2000000 in
theorem kp1_any (x0 b q m n c y0 : Nat) (C : Option Addr) (zs : List (List Int)) (cl L K : List Int) (hn : zs.length = n) (hz : ∀ L ∈ zs, isC L = true ∧ L.length = m) (hs : Srt zs) (hL : L ∈ zs) (hK : K ∈ zs) (hT : tiL L K ∈ zs) (w : World) (hA : KpW w x0 b q n c C zs cl m K y0) :
    Calls Tryz.prog 164 #[.agg #[.int .i64 ((m : Int)), .int .i64 (ofL L 0), .int .i64 (ofL L 1), .int .i64 (ofL L 2), .int .i64 (ofL L 3), .int .i64 (ofL L 4), .int .i64 (ofL L 5)], .pointer (some ⟨x0, 0, none⟩), .pointer (some ⟨y0, 0, none⟩)] w fun e w' => e = .returned (.int .i64 (kC zs cl (tiL L K))) ∧ Below w.heap.size w w' := by
  have hB0 := (Below.refl _ w).alloc (Nat.le_refl _) (.cells #[.int .i64 ((m : Int)), .int .i64 (ofL L 0), .int .i64 (ofL L 1), .int .i64 (ofL L 2), .int .i64 (ofL L 3), .int .i64 (ofL L 4), .int .i64 (ofL L 5)] 61)
  have hA0 := hA.below hB0
  have hx := (Cb.new w (m : Int) (ofL L))
  have HTI := Lib.hid (fun (W : World) => times_c m L K (hz L hL).1 (hz K hK).1 (hz L hL).2 (hz K hK).2 W)
  have HCC := Lib.hid (fun (W : World) (hA : KpW W x0 b q n c C zs cl m K y0) => classI_any b m n c (some q) C zs cl (tiL L K) W hn hz hs hT hA.sem hA.cls)
  obtain ⟨kv, hkv⟩ : ∃ kv, kC zs cl (tiL L K) = kv := ⟨_, rfl⟩
  rw [hkv] at HCC ⊢
  clear hkv hA hn hz hs hL hK hT
  go_enter Tryz.func164, Tryz.ntmps164
  go_wp2_with fail
  generalize w.alloc (.cells #[.int .i64 ((m : Int)), .int .i64 (ofL L 0), .int .i64 (ofL L 1), .int .i64 (ofL L 2), .int .i64 (ofL L 3), .int .i64 (ofL L 4), .int .i64 (ofL L 5)] 61) = W0 at *
  have hA1 := hA0.drew
  have hx1 := hx.drew
  have hB1 := hB0.drew
  obtain ⟨a0, a1, a2, a3, a4, a5, a6⟩ := hx.all
  obtain ⟨e0, e1, e2, e3, e4, e5, e6⟩ := hA0.cx.all
  have d0 := hA0.c0
  have d1 := hA0.c1
  have d2 := hA0.c2
  go_region_law (first
    | (go_simp
       go_at_call 125
       refine (HTI.out _).mono ?_
       rintro e w5 ⟨rfl, hb5⟩
       have hA1 := hA1.below hb5
       have hB1 := hB1.trans (hb5.mono hB1.size)
       have d0 := hA1.c0
       have d1 := hA1.c1
       have d2 := hA1.c2)
    | (go_simp
       go_at_call 85
       refine (HCC.out _ hA1).mono ?_
       rintro e w6 ⟨rfl, hb6⟩
       have hB2 := hB1.trans (hb6.mono hB1.size)))
  all_goals
    go_wp2
    go_ret
    exact ⟨rfl, hB2⟩
set_option maxHeartbeats 2000000 in
theorem kp2_any (x0 b q m n c y0 : Nat) (C : Option Addr) (zs : List (List Int)) (cl L K : List Int) (hn : zs.length = n) (hz : ∀ L ∈ zs, isC L = true ∧ L.length = m) (hs : Srt zs) (hL : L ∈ zs) (hK : K ∈ zs) (hT : tiL K L ∈ zs) (w : World) (hA : KpW w x0 b q n c C zs cl m K y0) :
    Calls Tryz.prog 165 #[.agg #[.int .i64 ((m : Int)), .int .i64 (ofL L 0), .int .i64 (ofL L 1), .int .i64 (ofL L 2), .int .i64 (ofL L 3), .int .i64 (ofL L 4), .int .i64 (ofL L 5)], .pointer (some ⟨x0, 0, none⟩), .pointer (some ⟨y0, 0, none⟩)] w fun e w' => e = .returned (.int .i64 (kC zs cl (tiL K L))) ∧ Below w.heap.size w w' := by
  have hB0 := (Below.refl _ w).alloc (Nat.le_refl _) (.cells #[.int .i64 ((m : Int)), .int .i64 (ofL L 0), .int .i64 (ofL L 1), .int .i64 (ofL L 2), .int .i64 (ofL L 3), .int .i64 (ofL L 4), .int .i64 (ofL L 5)] 61)
  have hA0 := hA.below hB0
  have hx := (Cb.new w (m : Int) (ofL L))
  have HTI := Lib.hid (fun (W : World) => times_c m K L (hz K hK).1 (hz L hL).1 (hz K hK).2 (hz L hL).2 W)
  have HCC := Lib.hid (fun (W : World) (hA : KpW W x0 b q n c C zs cl m K y0) => classI_any b m n c (some q) C zs cl (tiL K L) W hn hz hs hT hA.sem hA.cls)
  obtain ⟨kv, hkv⟩ : ∃ kv, kC zs cl (tiL K L) = kv := ⟨_, rfl⟩
  rw [hkv] at HCC ⊢
  clear hkv hA hn hz hs hL hK hT
  go_enter Tryz.func165, Tryz.ntmps165
  go_wp2_with fail
  generalize w.alloc (.cells #[.int .i64 ((m : Int)), .int .i64 (ofL L 0), .int .i64 (ofL L 1), .int .i64 (ofL L 2), .int .i64 (ofL L 3), .int .i64 (ofL L 4), .int .i64 (ofL L 5)] 61) = W0 at *
  have hA1 := hA0.drew
  have hx1 := hx.drew
  have hB1 := hB0.drew
  obtain ⟨a0, a1, a2, a3, a4, a5, a6⟩ := hx.all
  obtain ⟨e0, e1, e2, e3, e4, e5, e6⟩ := hA0.cx.all
  have d0 := hA0.c0
  have d1 := hA0.c1
  have d2 := hA0.c2
  go_region_law (first
    | (go_simp
       go_at_call 125
       refine (HTI.out _).mono ?_
       rintro e w5 ⟨rfl, hb5⟩
       have hA1 := hA1.below hb5
       have hB1 := hB1.trans (hb5.mono hB1.size)
       have d0 := hA1.c0
       have d1 := hA1.c1
       have d2 := hA1.c2)
    | (go_simp
       go_at_call 85
       refine (HCC.out _ hA1).mono ?_
       rintro e w6 ⟨rfl, hb6⟩
       have hB2 := hB1.trans (hb6.mono hB1.size)))
  all_goals
    go_wp2
    go_ret
    exact ⟨rfl, hB2⟩
theorem cp_ag {zs : List (List Int)} {cl : List Int} : (∀ K ∈ zs, agB zs cl (fun L => kC zs cl (tiL L K)) = true ∧ agB zs cl (fun L => kC zs cl (tiL K L)) = true) ↔ cpB zs cl = true := by
  rw [cpB_iff]
  constructor
  · intro h L hL M hM e K hK
    exact ⟨agB_iff.1 (h K hK).1 L hL M hM e, agB_iff.1 (h K hK).2 L hL M hM e⟩
  · intro h K hK
    exact ⟨agB_iff.2 (fun L hL M hM e => (h L hL M hM e K hK).1), agB_iff.2 (fun L hL M hM e => (h L hL M hM e K hK).2)⟩
theorem cp_no {zs : List (List Int)} {cl : List Int} {K : List Int} (hK : K ∈ zs) (h : agB zs cl (fun L => kC zs cl (tiL L K)) = false ∨ agB zs cl (fun L => kC zs cl (tiL K L)) = false) : cpB zs cl = false := by
  cases e : cpB zs cl
  · rfl
  · have := cp_ag.2 e K hK
    rcases h with h | h
    · rw [this.1] at h; cases h
    · rw [this.2] at h; cases h
theorem kc_wf {zs : List (List Int)} {cl : List Int} (hs : Srt zs) (hl : cl.length = zs.length) (hw : ∀ x ∈ cl, wfI x) {L : List Int} (hL : L ∈ zs) : wfI (kC zs cl L) := by
  have hi := (ixP_mem hs hL).1
  unfold kC ofL; rw [List.getElem?_eq_getElem (by rw [hl]; exact hi)]
  exact hw _ (List.getElem_mem _)
set_option maxHeartbeats 2000000 in
theorem keepsI_any (b q m n c : Nat) (C : Option Addr) (zs : List (List Int)) (cl : List Int) (hn : zs.length = n) (hn6 : n ≤ 1048576) (hz : ∀ L ∈ zs, isC L = true ∧ L.length = m) (hs : Srt zs) (hti : ∀ L ∈ zs, ∀ M ∈ zs, tiL L M ∈ zs) (hw : ∀ x ∈ cl, wfI x) (w : World) (hK : KgI w b q n C zs cl) :
    Calls Tryz.prog 129 #[.agg #[.map (some b), .slice C n c, .map (some q)]] w fun e w' => e = .returned (.bool (cpB zs cl)) ∧ (∃ nn D, w'.ownsMap Tryz.prog 3 (plainElem (H := Unit) Tryz.prog 3) q nn D) ∧ w.grownBy w' (some q) := by
  have hbq := hK.ne
  have hql := hK.q_lt
  have hsem1 := hK.sem.alloc (.cells #[.map (some b), .slice C n c, .map (some q)] 91)
  have HBX1 := Lib.hid (Blk.new w 91 #[.map (some b), .slice C n c, .map (some q)])
  have hg0 := gb_al0 w (.cells #[.map (some b), .slice C n c, .map (some q)] 91) (some q)
  have HCLS := Lib.hid (fun (W : World) (hg : w.grownBy W (some q)) => ri_kept hK.cls hg hK.row)
  have HD : Hid (∀ x, Maps.has (mapP (H := Unit) klL zs n) x = true ↔ ∃ L, L ∈ zs ∧ klL L = x) := fun x => by subst hn; exact mapP_iff x
  have HZ := Lib.hid hz
  have HMK : Hid (∃ nn D, (w.alloc (.cells #[.map (some b), .slice C n c, .map (some q)] 91)).ownsMap Tryz.prog 3 (plainElem (H := Unit) Tryz.prog 3) q nn D) := by
    obtain ⟨nn, D, h⟩ := hK.mkd
    exact ⟨nn, D, h.alloc _⟩
  have HK1 := Lib.hid (fun (x0 y0 : Nat) (L K : List Int) (hL : L ∈ zs) (hK : K ∈ zs) (W : World) (hA : KpW W x0 b q n c C zs cl m K y0) => kp1_any x0 b q m n c y0 C zs cl L K hn hz hs hL hK (hti L hL K hK) W hA)
  have HK2 := Lib.hid (fun (x0 y0 : Nat) (L K : List Int) (hL : L ∈ zs) (hK : K ∈ zs) (W : World) (hA : KpW W x0 b q n c C zs cl m K y0) => kp2_any x0 b q m n c y0 C zs cl L K hn hz hs hL hK (hti K hK L hL) W hA)
  have HWF := Lib.hid (fun (L : List Int) (hL : L ∈ zs) => kc_wf hs (hK.cls.len.trans hn.symm) hw hL)
  have HTI := Lib.hid hti
  have HAG := Lib.hid (fun (gf : Nat) (cb : Array Value) (num : List Int → Int) (hnum : ∀ L ∈ zs, wfI (num L)) (W : World) (eg : ∀ args w, (callFunc gf args).run Tryz.prog w = .ok (.enter gf args) w) (hp) (hK : KgI W b q n C zs cl) => agreesI_any b q m n c gf #[] cb C zs cl num hn hn6 hz hs hw hnum W eg hp hK)
  have k0 := HBX1.out.cell 0
  clear hn hz hs hti hw hK
  go_enter Tryz.func129, Tryz.ntmps129
  go_wp2_with (first | (at_range; refine wpList_range_own _ rfl _ 75 rfl 61 3 ch_keyed Tryz.underlying75 _ b n (mapP klL zs n) rfl hsem1 ?_; intro w2 hrg0 hg2 hs2) | go_in)
  try go_frame
  have HBX2 := Lib.hid (HBX1.out.grown hg2 (by simp))
  have HGR2 := Lib.hid (hg0.andThen hg2 (fun j e => by cases e))
  have HMK2 : Hid (∃ nn D, w2.ownsMap Tryz.prog 3 (plainElem (H := Unit) Tryz.prog 3) q nn D) := by
    obtain ⟨nn, D, h⟩ := HMK.out
    exact ⟨nn, D, h.kept hg2 (by simp)⟩
  have HRW : Hid (w.heap.size < (w.alloc (.cells #[.map (some b), .slice C n c, .map (some q)] 91)).heap.size) := HBX1.out.lt
  clear hg2 hs2 hsem1 k0 HBX1 hg0 HMK
  generalize (w.alloc (.cells #[.map (some b), .slice C n c, .map (some q)] 91)).heap.size = R at *
  go_loopw [3] (fun _ wr => ∃ left cnt, wr.ranges Tryz.prog 61 (plainElem Tryz.prog 3) b R n (mapP klL zs n) left cnt ∧ Hid (∃ nn D, wr.ownsMap Tryz.prog 3 (plainElem (H := Unit) Tryz.prog 3) q nn D) ∧ Hid (∀ x, left x = true → Maps.has (mapP (H := Unit) klL zs n) x = true) ∧ Hid (∀ K ∈ zs, left (klL K) = false → agB zs cl (fun L => kC zs cl (tiL L K)) = true ∧ agB zs cl (fun L => kC zs cl (tiL K L)) = true) ∧ Hid (Blk wr w.heap.size 91 #[.map (some b), .slice C n c, .map (some q)]) ∧ Hid (w.grownBy wr (some q))) (fun _ wr => wr.rangeLeft b R)
  case atStart => exact ⟨_, _, hrg0, HMK2.out, Lib.hid (fun x h => h), Lib.hid (fun L hL h => (by rw [(HD.out _).2 ⟨L, hL, rfl⟩] at h; cases h)), HBX2.out, HGR2.out⟩
  case round =>
    clear hrg0 HMK2 HBX2 HGR2
    obtain ⟨left, cnt, hrg, HMK, P1, P2, HBX, HGR⟩ := hrel
    have hrl := hrg.lt
    go_wp2_with (first | (at_next; refine wpList_next_ranges _ rfl _ rfl 61 ch_keyed (plainElem Tryz.prog 3) mkCh (Value.int .i64) mkCh_inv plain_inv b R n _ _ _ rfl hrg ?_ ?_) | go_in)
    · intro hc0 hl0
      have HT := Lib.hid (cp_ag.1 (fun K hK => P2.out K hK (hl0 _)))
      go_wp2
      go_ret
      exact ⟨by rw [HT.out]; try rfl, HMK.out, HGR.out⟩
    · intro xn xT cc kl yd yp w3 cnt2 hkey hlk hv hat hrg2 hlt hg3 hs3 hen
      obtain ⟨K, hK, hkl, hx⟩ := ch_of_key HZ.out hkey ((HD.out kl).1 (P1.out kl hlk))
      rw [hx] at hen
      rw [hx]
      subst hkl
      have hqR : q ≠ R := by have := HRW.out; omega
      have hgr3 := HGR.out.andThen hg3 (fun j e => .inl (by cases e; have := HRW.out; omega))
      have hmp3 : ∃ nn D, (w3.alloc (.cells #[.int .i64 ((m : Int)), .int .i64 (ofL K 0), .int .i64 (ofL K 1), .int .i64 (ofL K 2), .int .i64 (ofL K 3), .int .i64 (ofL K 4), .int .i64 (ofL K 5)] 61)).ownsMap Tryz.prog 3 (plainElem (H := Unit) Tryz.prog 3) q nn D := by
        obtain ⟨nn, D, h⟩ := HMK.out
        exact ⟨nn, D, (h.kept hg3 (fun e => hqR (by cases e; rfl))).alloc _⟩
      have hbx3 := HBX.out.grown hg3 (fun e => by have := HRW.out; cases e; omega)
      have hA := (⟨hbx3.alloc _, Cb.new w3 _ _, hrg2.owns.alloc _, HCLS.out _ (gbTr hgr3 (gb_al0 w3 _ _)), hbq⟩ : KpW (w3.alloc (.cells #[.int .i64 ((m : Int)), .int .i64 (ofL K 0), .int .i64 (ofL K 1), .int .i64 (ofL K 2), .int .i64 (ofL K 3), .int .i64 (ofL K 4), .int .i64 (ofL K 5)] 61)) w.heap.size b q n c C zs cl m K w3.heap.size)
      have HA := Lib.hid hA
      have HRG := Lib.hid (fun (W : World) (hg : (w3.alloc (.cells #[.int .i64 ((m : Int)), .int .i64 (ofL K 0), .int .i64 (ofL K 1), .int .i64 (ofL K 2), .int .i64 (ofL K 3), .int .i64 (ofL K 4), .int .i64 (ofL K 5)] 61)).grownBy W (some q)) => hrg2.kept (gbTr (gb_al0 w3 _ (some q)) hg) (fun e => hbq (by cases e; rfl)) (fun e => hqR (by cases e; rfl)))
      have HGW := Lib.hid (fun (W : World) (hg : (w3.alloc (.cells #[.int .i64 ((m : Int)), .int .i64 (ofL K 0), .int .i64 (ofL K 1), .int .i64 (ofL K 2), .int .i64 (ofL K 3), .int .i64 (ofL K 4), .int .i64 (ofL K 5)] 61)).grownBy W (some q)) => gbTr hgr3 (gbTr (gb_al0 w3 _ (some q)) hg))
      have P1' : Hid (∀ x, (left x && !x.sameKey (klL K)) = true → Maps.has (mapP (H := Unit) klL zs n) x = true) := fun x h => P1.out x (by rw [Bool.and_eq_true] at h; exact h.1)
      have P2' : Hid (agB zs cl (fun L => kC zs cl (tiL L K)) = true → agB zs cl (fun L => kC zs cl (tiL K L)) = true → ∀ M ∈ zs, (left (klL M) && !(klL M).sameKey (klL K)) = false → agB zs cl (fun L => kC zs cl (tiL L M)) = true ∧ agB zs cl (fun L => kC zs cl (tiL M L)) = true) := fun h1 h2 M hM hl => by
        by_cases hlm : left (klL M) = false
        · exact P2.out M hM hlm
        · have hlm : left (klL M) = true := by cases e : left (klL M) <;> simp_all
          rw [hlm, Bool.true_and] at hl
          have hsk : (klL M).sameKey (klL K) = true := by cases e : (klL M).sameKey (klL K) <;> simp_all
          have := klL_inj M K (HZ.out M hM).1 (HZ.out K hK).1 (same_key hsk)
          subst this
          exact ⟨h1, h2⟩
      have HNO := Lib.hid (fun h => cp_no (cl := cl) hK h)
      have HC1 := Lib.hid (fun (W : World) (hW : KpW W w.heap.size b q n c C zs cl m K w3.heap.size) (hm : ∃ nn D, W.ownsMap Tryz.prog 3 (plainElem (H := Unit) Tryz.prog 3) q nn D) => HAG.out 164 #[.pointer (some ⟨w.heap.size, 0, none⟩), .pointer (some ⟨w3.heap.size, 0, none⟩)] (fun L => kC zs cl (tiL L K)) (fun L hL => HWF.out _ (HTI.out L hL K hK)) W (enters_of Tryz.func164 (by kernel_rfl) rfl) (fun L hL V hV => HK1.out w.heap.size w3.heap.size L K hL hK V (hW.kept hV (by obtain ⟨nn, D, h⟩ := hm; exact row_map h))) ⟨hW.sem, hm, hW.cls, hW.ne⟩)
      have HC2 := Lib.hid (fun (W : World) (hW : KpW W w.heap.size b q n c C zs cl m K w3.heap.size) (hm : ∃ nn D, W.ownsMap Tryz.prog 3 (plainElem (H := Unit) Tryz.prog 3) q nn D) => HAG.out 165 #[.pointer (some ⟨w.heap.size, 0, none⟩), .pointer (some ⟨w3.heap.size, 0, none⟩)] (fun L => kC zs cl (tiL K L)) (fun L hL => HWF.out _ (HTI.out K hK L hL)) W (enters_of Tryz.func165 (by kernel_rfl) rfl) (fun L hL V hV => HK2.out w.heap.size w3.heap.size L K hL hK V (hW.kept hV (by obtain ⟨nn, D, h⟩ := hm; exact row_map h))) ⟨hW.sem, hm, hW.cls, hW.ne⟩)
      have d0 := hA.c0
      have d1 := hA.c1
      have d2 := hA.c2
      have hc1 := HC1.out _ hA hmp3
      have HM3 := Lib.hid hmp3
      have HHK := Lib.hid hK
      clear hs3 hkey hx hv hat hlk P1 P2 hrg2 hbx3 hg3 hgr3 hmp3 hA HMK HBX HGR HC1 hK
      generalize hr1 : agB zs cl (fun L => kC zs cl (tiL L K)) = r1 at *
      generalize hr2 : agB zs cl (fun L => kC zs cl (tiL K L)) = r2 at *
      clear hr1 hr2
      go_wp2_with fail
      refine hc1.mono ?_
      rintro e w4 ⟨rfl, hm4, hg4⟩
      have hA4 := HA.out.kept hg4 (by obtain ⟨nn, D, h⟩ := HM3.out; exact row_map h)
      have HM4 := Lib.hid hm4
      cases r1 with
      | false =>
        have HF := Lib.hid (HNO.out (.inl rfl))
        have HG4 := Lib.hid (HGW.out _ hg4)
        clear hc1 hg4 hm4
        go_wp2
        go_ret
        exact ⟨by rw [HF.out]; try rfl, HM4.out, HG4.out⟩
      | true =>
        have hc2 := HC2.out _ hA4 hm4
        have d0 := hA4.c0
        have d1 := hA4.c1
        have d2 := hA4.c2
        have HG40 := Lib.hid hg4
        have HBX4 := Lib.hid hA4.bx
        have HRM4 : Hid (∀ r, some q = some r → ∃ o : Obj, w4.heap[r]? = some o ∧ o.isCells = false) := by obtain ⟨nn, D, h⟩ := hm4; exact row_map h
        clear hc1 hg4 hm4 HC2 hA4
        go_wp2_with fail
        refine hc2.mono ?_
        rintro e w5 ⟨rfl, hm5, hg5⟩
        have HM5 := Lib.hid hm5
        have hgf := gbTr HG40.out hg5
        have HG5 := Lib.hid (HGW.out _ hgf)
        have hrg5 := HRG.out _ hgf
        have HBX5 := Lib.hid (blk_kept HBX4.out hg5 HRM4.out)
        clear hc2 hm5 hg5 hgf d0 d1 d2
        cases r2 with
        | false =>
          have HF := Lib.hid (HNO.out (.inr rfl))
          go_wp2
          go_ret
          exact ⟨by rw [HF.out]; try rfl, HM5.out, HG5.out⟩
        | true =>
          have HP := Lib.hid (P2'.out (by first | rfl | trivial) (by first | rfl | trivial))
          go_wp2
          go_roundw
          case rel => exact ⟨_, cnt2, hrg5, HM5.out, P1', HP.out, HBX5, HG5⟩
          case measure => rw [hrg5.left_eq, hrg.left_eq]; exact hlt
end

end Go.Proofs.YtmknjifmmmnjjaaGreatDoor
