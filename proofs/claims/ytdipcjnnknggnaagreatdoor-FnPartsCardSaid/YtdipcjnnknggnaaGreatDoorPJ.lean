/-
  Al7.
-/
import Derived.Test.YtdipcjnnknggnaaGreatDoorPI
namespace Go.Proofs.YtdipcjnnknggnaaGreatDoor
set_option maxRecDepth 100000
set_option linter.unusedVariables false
set_option linter.unusedSimpArgs false
set_option linter.unusedSectionVars false

/-! spec.l7Object, ArrowLocal, l7From, ArrowFrom. -/
section
open Go.RowKit Go.Maps

theorem frL_le (zs : List (List Int)) (a b : Int) : (frL zs a b).length ≤ 400 ∧ totL (frL zs a b) ≤ 2400 ∧ ∀ L ∈ frL zs a b, L.length ≤ 1048576 := by
  cases h : sgS zs
  · have : frL zs a b = [] := by unfold frL; rw [sgl_no h]; rfl
    rw [this]; exact nil_le
  · exact sub_le h (Nat.le_trans (List.length_filter_le _ _) (by rw [sgl_yes h]; exact Nat.le_refl _)) (fun L hL => by have := (List.mem_filter.1 hL).1; rwa [sgl_yes h] at this)
theorem obB_no {zs : List (List Int)} {a : Int} (h : sgS zs = false) : obB zs a = false := by unfold obB; rw [sgl_no h]; rfl
theorem frL_none {zs : List (List Int)} {a b : Int} (h : obB zs a = false) : frL zs a b = [] := by
  unfold frL
  rw [List.filter_eq_nil_iff]
  intro L hL h2
  unfold btB at h2
  rw [Bool.and_eq_true, decide_eq_true_eq] at h2
  have : obB zs a = true := List.any_eq_true.2 ⟨L, hL, decide_eq_true h2.1⟩
  rw [h] at this; cases this
set_option maxHeartbeats 1000000 in
theorem l7Object_any (A : Option Addr) (n c : Nat) (zs : List (List Int)) (a : Int) (w : World) (h : RSS w A n zs) (hn : n ≤ 1048576) (hl : ∀ L ∈ zs, L.length ≤ 1048576) :
    Calls Tryz.prog 42 #[.slice A n c, .int .i64 a] w fun e w' => e = .returned (.bool (obB zs a)) ∧ Below w.heap.size w w' := by
  have hO := specObj_any A n c zs w h hn hl
  have hq := objI_len zs
  clear h hl
  go_enter Tryz.func42, Tryz.ntmps42
  go_wp2_with fail
  refine hO.mono ?_
  rintro e w1 ⟨v, rfl, ho, hb⟩
  obtain ⟨A1, c1, rfl⟩ := own_slice ho
  have HR := Lib.hid (RI.of_own ho)
  have HOB : Hid (obB zs a = true ↔ a ∈ objI zs) := obB_mem
  have HSB : Hid (a ∈ objI zs → sgS zs = true) := fun hm => by
    cases e : sgS zs
    · rw [objI_no e] at hm; cases hm
    · rfl
  have HB := Lib.hid hb
  clear ho hb hO
  generalize hS : sgS zs = sg at *
  have HSG := Lib.hid hS
  clear hS
  generalize objI zs = os at *
  go_wp2
  go_loopw [7] (fun i wr => ∃ k : Nat, k ≤ os.length ∧ i = .int .i64 (k : Int) ∧ Hid (∀ j, j < k → os[j]?.getD 0 ≠ a) ∧ Hid (wr = w1)) (fun i _ => os.length - (intOf i).toNat)
  case atStart => exact ⟨0, Nat.zero_le _, rfl, fun j hj => absurd hj (Nat.not_lt_zero j), rfl⟩
  case round =>
    obtain ⟨k, hk, rfl, HN, HW⟩ := hrel
    obtain rfl := HW.out
    clear HW
    by_cases hlt : k < os.length
    · obtain ⟨ad, rfl, -, hc⟩ := HR.out.at_ hlt
      have hki : (k : Int) < (os.length : Int) := by omega
      generalize hz : os[k]?.getD 0 = z at hc
      have HZ := Lib.hid hz
      clear hz
      by_cases he : z = a
      · have hcmp : (z == a) = true := by simp [he]
        have HM : Hid (a ∈ os) := by
          have h1 := HZ.out
          rw [List.getElem?_eq_getElem hlt] at h1
          have h2 : os[k] = z := h1
          show _ ∈ _
          rw [← he, ← h2]; exact List.getElem_mem hlt
        have HF : Hid (obB zs a = true) := HOB.out.2 HM.out
        have HT : Hid (sg = true) := HSB.out HM.out
        clear he hlt
        go_wp2
        go_ret
        exact ⟨by rw [HF.out]; show Ending.returned (.bool sg) = _; rw [HT.out], HB.out⟩
      · have hcmp : (z == a) = false := by simp [he]
        have HN2 : Hid (∀ j, j < k + 1 → os[j]?.getD 0 ≠ a) := fun j hj => by
          rcases Nat.lt_or_ge j k with h' | h'
          · exact HN.out j h'
          · obtain rfl : j = k := by omega
            rw [HZ.out]; exact he
        clear he
        go_wp2
        go_roundw
        case rel => exact ⟨k + 1, by omega, by go_num, HN2, trivial⟩
        case measure => simp [intOf]; omega
    · obtain rfl : k = os.length := by omega
      have HF : Hid (obB zs a = false) := by
        show _ = _
        cases e : obB zs a
        · rfl
        · obtain ⟨j, hj, ej⟩ := List.mem_iff_getElem.1 (HOB.out.1 e)
          exact absurd (by rw [List.getElem?_eq_getElem hj]; exact ej) (HN.out j hj)
      go_wp2
      go_ret
      exact ⟨by rw [HF.out]; rfl, HB.out⟩
theorem l1Ra_any (A : Option Addr) (n c : Nat) (L : List Int) (w : World) (h : RI w A n L) (hC : isC L = true) :
    Calls Tryz.prog 71 #[.slice A n c] w fun e w' => ∃ g c', e = .returned (.slice (some ⟨g, 0, none⟩) n c') ∧ RI w' (some ⟨g, 0, none⟩) n (tuL L) ∧ Below w.heap.size w w' := by
  have hl := h.len
  have h1 := (isC_len hC).1
  refine (l1Tu_any A n c L w h hC).mono ?_
  rintro e w' ⟨v, rfl, ho, hb⟩
  rw [tuL_len hC, hl] at ho
  obtain ⟨g, c', rfl, _, _⟩ := ho.form (by omega)
  exact ⟨g, c', rfl, RI.of_own ho, hb⟩
set_option maxHeartbeats 4000000 in
theorem l7From_any (A : Option Addr) (n c : Nat) (zs : List (List Int)) (x y : Int) (w : World) (h : RSS w A n zs) (hn : n ≤ 1048576) (hz : ∀ L ∈ zs, isC L = true) :
    Calls Tryz.prog 37 #[.slice A n c, .int .i64 x, .int .i64 y] w fun e w' => ∃ v, e = .returned v ∧ OSS w' w.heap.size w'.heap.size v (zs.filter (btB x y)) ∧ Below w.heap.size w w' := by
  obtain ⟨i0, hi, hz0, hz1, hz2⟩ := info_parts info_int
  obtain ⟨i1, hj, hj0, hj1, hj2⟩ := info_parts info_partsS
  have HL := Lib.hid h.len
  have HZ := Lib.hid hz
  have HH := Lib.hid h
  clear hz h
  go_enter Tryz.func37, Tryz.ntmps37
  go_wp2
  have hL0 : (w.alloc (.cells #[] 30)).ownsRow w.heap.size 30 1 (.slice (some ⟨w.heap.size, 0, none⟩) 0 0) 0 [] := World.ownsRow_lit (base := w.heap.size) (e := 30) (size := 1) w #[] 0 (Nat.le_refl _) (by simp [maxLen]) rfl
  have hB0 : Below w.heap.size w (w.alloc (.cells #[] 30)) := (Below.refl _ w).alloc (Nat.le_refl _) _
  go_loopw [7, 8] (fun v i wr => ∃ (k : Nat) (vs : List Value), k ≤ n ∧ i = .int .i64 (k : Int) ∧ OV wr w.heap.size v vs ((zs.take k).filter (btB x y)) ∧ Below w.heap.size w wr) (fun _ i _ => n - (intOf i).toNat)
  case atStart => exact ⟨0, [], Nat.zero_le _, rfl, ⟨hL0, Inn.nil⟩, hB0⟩
  case round =>
    clear hL0 hB0
    obtain ⟨k, vs, hk, rfl, hov, hB⟩ := hrel
    by_cases hlt : k < n
    · have hkl : k < zs.length := by have := HL.out; omega
      obtain ⟨ad, Ai, ci, rfl, hab, hc, hri⟩ := (HH.out.below hB).at_ hlt
      have hent : zs[k]?.getD [] = ent zs k := rfl
      rw [hent] at hc hri
      have hLz := HZ.out _ (ent_mem hkl)
      have hD := l1Do_any Ai _ ci (ent zs k) wr hri hLz
      have HBT : Hid (btB x y (ent zs k) = ((((doN (ent zs k) : Nat) : Int) == x) && (((raN (ent zs k) : Nat) : Int) == y))) := by show _ = _; rw [eqI_dec, eqI_dec]; rfl
      have HFN := Lib.hid (filt_no (p := btB x y) hkl)
      have HFY := Lib.hid (filt_yes (p := btB x y) hkl)
      clear hent
      cases h1 : (((doN (ent zs k) : Nat) : Int) == x)
      · have HT := Lib.hid (HFN.out (by rw [HBT.out, h1]; rfl))
        clear hri
        generalize doN (ent zs k) = dk at *
        go_wp2_with fail
        refine hD.mono ?_
        rintro e w2 ⟨rfl, rfl⟩
        clear hD
        go_wp2
        go_roundw
        case rel => exact ⟨k + 1, vs, by omega, by go_num, by rw [HT.out]; exact hov, hB⟩
        case measure => simp [intOf]; omega
      · have hT := l1Ra_any Ai _ ci (ent zs k) wr hri hLz
        have h6 := isC_len hLz
        have HB2 : Hid (btB x y (ent zs k) = (((raN (ent zs k) : Nat) : Int) == y)) := by show _ = _; rw [HBT.out, h1]; rfl
        have HTC := Lib.hid (tuL_isC hLz)
        have HTR := Lib.hid (raN_tu hLz)
        have hab1 : (ad.add k).block < wr.heap.size := by rw [block_of_add]; exact hab
        obtain ⟨ai, rfl, hai, hcl⟩ := isRI_some hri (by omega)
        have HCL := Lib.hid hcl
        have HRL : Hid ((ent zs k).length = (ent zs k).length) := rfl
        clear hri HBT hcl
        generalize hdk : doN (ent zs k) = dk at *
        clear hdk
        go_wp2_with fail
        refine hD.mono ?_
        rintro e w2 ⟨rfl, rfl⟩
        clear hD
        go_wp2_with fail
        refine hT.mono ?_
        rintro e w3 ⟨g3, c3, rfl, hr3, hb3⟩
        have hD3 := l1Do_any (some ⟨g3, 0, none⟩) _ c3 (tuL (ent zs k)) w3 hr3 HTC.out
        rw [← HTR.out] at hD3
        have hov3 := hov.below hb3
        have hB3 := hB.trans (hb3.mono hB.size)
        have hc3 : w3.cell? (ad.add k) = some (.slice (some ai) (ent zs k).length ci) := (hb3.cell hab1).trans hc
        have hai3 : ai.block < w3.heap.size := by have := hb3.size; omega
        have hab3 : ad.block < w3.heap.size := by have := hb3.size; omega
        have HC3 : Hid (∀ j u, (ivs (ent zs k))[j]? = some u → w3.cell? (ai.add j) = some u) := fun j u hu => (hb3.cell (by rw [block_of_add]; exact hai)).trans (HCL.out j u hu)
        clear hT hr3 hov hB hc hb3 hai hab1
        cases h2 : (((raN (ent zs k) : Nat) : Int) == y)
        · have HT := Lib.hid (HFN.out (by rw [HB2.out, h2]))
          generalize raN (ent zs k) = rk at *
          go_wp2_with fail
          refine hD3.mono ?_
          rintro e w4 ⟨rfl, rfl⟩
          clear hD3
          go_wp2
          go_roundw
          case rel => exact ⟨k + 1, vs, by omega, by go_num, by rw [HT.out]; exact hov3, hB3⟩
          case measure => simp [intOf]; omega
        · have HT := Lib.hid (HFY.out (by rw [HB2.out, h2]))
          have hfl : ((zs.take k).filter (btB x y)).length ≤ k := Nat.le_trans (List.length_filter_le _ _) (by rw [List.length_take]; omega)
          have hs := hB3.size
          have hL0 := own_lit0 w3
          have hc2 := (World.cell?_alloc_lt w3 (.cells #[] 3) (ad.add k) (by rw [block_of_add]; exact hab3)).trans hc3
          have hc1 : ∀ j u, (ivs (ent zs k))[j]? = some u → (w3.alloc (.cells #[] 3)).cell? (ai.add j) = some u := fun j u hu => (World.cell?_alloc_lt _ _ _ (by rw [block_of_add]; exact hai3)).trans (HC3.out j u hu)
          have hone : ∀ u ∈ ivs (ent zs k), u.oneCell' = true := fun u hu => by
            simp only [ivs, List.mem_map] at hu
            obtain ⟨z, _, rfl⟩ := hu
            simp [Value.oneCell']
          have q1 : 0 + (ent zs k).length ≤ maxLen := by unfold maxLen; omega
          have q2 : (0 + (ent zs k).length) * 8 ≤ 140737488355328 := by omega
          have q3 : w3.heap.size ≤ (w3.alloc (.cells #[] 3)).heap.size := by simp
          have q4 : ((zs.take k).filter (btB x y)).length + 1 ≤ maxLen := by unfold maxLen; omega
          have q5 : (((zs.take k).filter (btB x y)).length + 1) * 24 ≤ 140737488355328 := by omega
          have hlen := Lib.hid h6.1
          have HH2 := Lib.hid h2
          clear HFN HFY HB2 h1 HC3 HTC HTR HCL hLz
          generalize raN (ent zs k) = rk at *
          generalize (zs.take k).filter (btB x y) = Ls at *
          generalize hE : ent zs k = L at *
          clear hkl h6 hE HRL
          have h2 := HH2.out
          go_wp2_with fail
          refine hD3.mono ?_
          rintro e w4 ⟨rfl, rfl⟩
          clear hD3
          go_wp2_with (at_builtin
                       first
                       | (refine wpList_append_own _ rfl _ _ 30 rfl w4.heap.size 3 i0 (.int .i64 0) 1 8 Tryz.underlying30 hi hz0 hz1 hz2 rfl (by decide) _ _ _ rfl hL0 ai L.length ci (ivs L) rfl (by simp [ivs]) hc1 hone q1 q2 q3 ?_
                          intro v1 w1 hown1 hgrow1 _
                          have hB1 : Below w4.heap.size w4 w1 := ((Below.refl _ w4).alloc (Nat.le_refl _) _).grown hgrow1 q3 (fun k e => (hL0.lt k e).1)
                          have hown2 : w1.ownsRow w4.heap.size 3 1 v1 L.length (ivs L) := by simpa [ivs] using hown1
                          obtain ⟨g1, c1, rfl, hge, hlt1⟩ := hown2.form (by have := hlen.out; omega)
                          have hov1 := hov3.below hB1
                          have hs1 := hB1.size
                          have q6 : ∀ o : Obj, w.heap.size ≤ (w1.alloc o).heap.size := fun o => by simp; omega)
                       | (refine wpList_append_own _ rfl _ _ 23 rfl w.heap.size 30 i1 (.slice none 0 0) 1 24 Tryz.underlying23 hj hj0 hj1 hj2 rfl (by decide) _ _ _ rfl (hov1.row.alloc _) ⟨w1.heap.size, 0, none⟩ 1 1 [.slice (some ⟨g1, 0, none⟩) L.length c1] rfl rfl (cell_one_new _ _ _) (by simp [Value.oneCell']) q4 q5 (q6 _) ?_
                          intro v2 w2 hown4 hgrow2 _))
          have hin := inn_app hov1.row hov1.inn ((OI.of hown2).less hs) (fresh_apart hov3.inn (Nat.le_refl _) hown2) hgrow2
          have hB2 := below_app (hB3.trans (hB1.mono hs)) hov1.row (Nat.le_refl _) hgrow2
          have HO : Hid (OV w2 w.heap.size v2 (vs ++ [.slice (some ⟨g1, 0, none⟩) L.length c1]) (Ls ++ [L])) := ⟨by rw [List.length_append]; exact hown4, hin⟩
          clear hin hown1 hown2 hown4 hgrow1 hgrow2 hov1 hov3 hL0 hc1 hone
          go_wp2
          go_roundw
          case rel => exact ⟨k + 1, _, by omega, by go_num, by rw [HT.out]; exact HO.out, hB2⟩
          case measure => simp [intOf]; omega
    · obtain rfl : k = n := by omega
      have e : zs.take k = zs := List.take_of_length_le (by have := HL.out; omega)
      rw [e] at hov
      go_wp2
      go_ret
      exact ⟨_, rfl, hov.oss, hB⟩
end

end Go.Proofs.YtdipcjnnknggnaaGreatDoor
