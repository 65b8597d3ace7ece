/-
  Kf.
-/
import Derived.Test.YtmknjifmmmnjjaaGreatDoorKF
namespace Go.Proofs.YtmknjifmmmnjjaaGreatDoor
set_option maxRecDepth 100000
set_option linter.unusedVariables false
set_option linter.unusedSimpArgs false
set_option linter.unusedSectionVars false

/-! spec.CongruenceSplits, CongruenceKernel. -/
section
open Go.RowKit

set_option maxHeartbeats 2000000 in
theorem specCgSplits_any (A C : Option Addr) (n c m d : Nat) (zs : List (List Int)) (cs : List Int) (w : World) (h : RSS w A n zs) (h' : RI w C m cs) (hn : n ≤ 1048576) (hl : ∀ L ∈ zs, L.length ≤ 1048576) (hm : m ≤ 1048576) :
    Calls Tryz.prog 34 #[.slice A n c, .slice C m d] w fun e w' => e = .returned (.bool (spB zs cs)) ∧ Below w.heap.size w w' := by
  have hcg := specCgIn_any A C n c m d zs cs w h h' hn hl hm
  cases hC : cgB zs cs
  · have HF : Hid (spB zs cs = false) := by show _ = _; unfold spB; rw [hC]; rfl
    rw [hC] at hcg
    clear h h' hl hC
    go_enter Tryz.func34, Tryz.ntmps34
    go_wp2_with fail
    refine hcg.mono ?_
    rintro e w1 ⟨rfl, hb⟩
    go_wp2
    go_ret
    exact ⟨by rw [HF.out]; try rfl, hb⟩
  · have HL := Lib.hid h.len
    have HR := Lib.hid h
    have HR' := Lib.hid h'
    have S := sgS_iff.1 (cgB_iff.1 hC).sg
    have HCH := Lib.hid S.ch
    have HFD : Hid (spB zs cs = dbB n (spP zs cs)) := by show _ = _; unfold spB; rw [hC, h.len]; rfl
    obtain rfl : m = n := by rw [← h.len, ← h'.len]; exact (cgB_iff.1 hC).len
    rw [hC] at hcg
    clear h h' hl hC S
    go_enter Tryz.func34, Tryz.ntmps34
    go_wp2_with fail
    refine hcg.mono ?_
    rintro e w1 ⟨rfl, hb⟩
    have hB2 := Lib.hid hb
    clear hcg hb
    go_wp2
    go_loopw [5] (fun s wr => ∃ i : Nat, i ≤ m ∧ s = .int .i64 (i : Int) ∧ Hid (∀ i', i' < i → ∀ k, k < i' → spP zs cs i' k = true) ∧ ∃ q, wr = w1.drewN q) (fun s _ => m - (intOf s).toNat)
    case atStart => exact ⟨0, Nat.zero_le _, rfl, Lib.hid (fun j hj => absurd hj (Nat.not_lt_zero _)), 0, rfl⟩
    case round =>
      obtain ⟨i, him, rfl, HI, q, hw⟩ := hrel
      by_cases hlt : i < m
      · have hii : (i : Int) < (m : Int) := by omega
        have HW := Lib.hid hw
        clear hw
        go_wp2
        go_loopw [6] (fun s wq => ∃ k : Nat, k ≤ i ∧ s = .int .i64 (k : Int) ∧ Hid (∀ k', k' < k → spP zs cs i k' = true) ∧ ∃ q, wq = w1.drewN q) (fun s _ => i - (intOf s).toNat)
        case atStart => exact ⟨0, Nat.zero_le _, rfl, Lib.hid (fun j hj => absurd hj (Nat.not_lt_zero _)), _, HW.out⟩
        case round =>
          clear HW q
          obtain ⟨k, hk1, rfl, HK, q, hw⟩ := hrel
          by_cases hki : k < i
          · have hkk : (k : Int) < (i : Int) := by omega
            have hkm : (k : Int) < (m : Int) := by omega
            have hil : i < zs.length := by have := HL.out; omega
            have hkl : k < zs.length := by have := HL.out; omega
            have hBq := below_drewN hB2.out q
            rw [← hw] at hBq
            obtain ⟨ac, rfl, _, a1⟩ := (HR'.out.below hBq).at_ hlt
            obtain ⟨ac', e1, _, a2⟩ := (HR'.out.below hBq).at_ (show k < m by omega)
            obtain rfl := Option.some.inj e1
            have hR := HR.out.below hBq
            obtain ⟨ad, Ai, ci, rfl, _, hci, hri⟩ := hR.at_ hlt
            obtain ⟨ad', Ak, ck, he, _, hck, hrk⟩ := hR.at_ (show k < m by omega)
            obtain rfl := Option.some.inj he
            have z1 := HCH.out _ (ent_mem hil)
            have z2 := HCH.out _ (ent_mem hkl)
            rw [show zs[i]?.getD [] = ent zs i from rfl, z1.2] at hci hri
            rw [show zs[k]?.getD [] = ent zs k from rfl, z2.2] at hck hrk
            have HC0 : Hid (∀ j, Calls Tryz.prog 76 #[.slice Ai (ent zs 0).length ci] (wr.drewN j) fun e w' => e = .returned (.bool (idB (ent zs i))) ∧ ∃ m, w' = wr.drewN m) := fun j => (l1Idem_c _ _ _ _ _ (hri.drawn j) z1.1).mono fun e w' h => ⟨h.1, by obtain ⟨q, hq⟩ := h.2; exact ⟨j + q, by rw [hq]; exact World.drewN_drewN _ _ _⟩⟩
            have HC2 : Hid (∀ j, Calls Tryz.prog 76 #[.slice Ak (ent zs 0).length ck] (wr.drewN j) fun e w' => e = .returned (.bool (idB (ent zs k))) ∧ ∃ m, w' = wr.drewN m) := fun j => (l1Idem_c _ _ _ _ _ (hrk.drawn j) z2.1).mono fun e w' h => ⟨h.1, by obtain ⟨q, hq⟩ := h.2; exact ⟨j + q, by rw [hq]; exact World.drewN_drewN _ _ _⟩⟩
            have HP : Hid (spP zs cs i k = !(decide (cs[i]?.getD 0 = cs[k]?.getD 0) && idB (ent zs i) && idB (ent zs k))) := rfl
            have HNO : Hid (spP zs cs i k = false → spB zs cs = false) := fun hf => by rw [HFD.out]; exact dbB_no hlt hki hf
            have HST : Hid (spP zs cs i k = true → ∀ k', k' < k + 1 → spP zs cs i k' = true) := fun hp => upto_step HK.out hp
            have HW := Lib.hid hw
            have HBQ := Lib.hid hBq
            clear hw hBq e1 he z1 z2 hri hrk hR
            generalize (ent zs 0).length = l0 at *
            generalize cs[i]?.getD 0 = x1 at *
            generalize cs[k]?.getD 0 = x2 at *
            generalize idB (ent zs i) = r0 at *
            generalize idB (ent zs k) = r2 at *
            by_cases hx : x1 = x2
            · have c1 : ((x1 : Int) == x2) = true := by simp [hx]
              rw [decide_eq_true hx] at HP
              clear hx
              cases r0
              · have HK2 := Lib.hid (HST.out (by rw [HP.out]; rfl))
                go_wp2
                go_quiet (with_reducible first | exact HC0.out _ | exact HC2.out _)
                all_goals go_wp2
                all_goals go_roundw
                case rel => exact ⟨k + 1, by omega, by go_num, HK2, drawn_on HW.out _⟩
                case measure => simp [intOf]; omega
              · cases r2
                · have HK2 := Lib.hid (HST.out (by rw [HP.out]; rfl))
                  go_wp2
                  go_quiet (with_reducible first | exact HC0.out _ | exact HC2.out _)
                  all_goals go_wp2
                  all_goals go_roundw
                  case rel => exact ⟨k + 1, by omega, by go_num, HK2, drawn_on HW.out _⟩
                  case measure => simp [intOf]; omega
                · have HF := Lib.hid (HNO.out (by rw [HP.out]; rfl))
                  go_wp2
                  go_quiet (with_reducible first | exact HC0.out _ | exact HC2.out _)
                  all_goals go_wp2
                  all_goals go_ret
                  all_goals exact ⟨by rw [HF.out]; try rfl, below_drewN HBQ.out _⟩
            · have c1 : ((x1 : Int) == x2) = false := by simp [hx]
              have HK2 := Lib.hid (HST.out (by rw [HP.out, decide_eq_false hx]; rfl))
              clear hx
              go_wp2
              go_quiet (with_reducible first | exact HC0.out _ | exact HC2.out _)
              all_goals go_wp2
              all_goals go_roundw
              case rel => exact ⟨k + 1, by omega, by go_num, HK2, drawn_on HW.out _⟩
              case measure => simp [intOf]; omega
          · have hkk : ¬ (k : Int) < (i : Int) := by omega
            obtain rfl : k = i := by omega
            have HI2 : Hid (∀ i', i' < k + 1 → ∀ j, j < i' → spP zs cs i' j = true) := upto_step (P := fun i' => ∀ j, j < i' → spP zs cs i' j = true) HI.out HK.out
            have HW := Lib.hid hw
            clear hw
            go_wp2
            go_roundw
            case rel => exact ⟨k + 1, by omega, by go_num, HI2, _, HW.out⟩
            case measure => simp [intOf]; omega
      · have hii : ¬ (i : Int) < (m : Int) := by omega
        obtain rfl : i = m := by omega
        have HT : Hid (spB zs cs = true) := by show _ = _; rw [HFD.out]; exact dbB_iff.2 HI.out
        have hBq := below_drewN hB2.out q
        rw [← hw] at hBq
        clear hw
        go_wp2
        go_ret
        exact ⟨by rw [HT.out]; try rfl, hBq⟩

/-! ### kernels -/
def mkB (zs : List (List Int)) (cs : List Int) (i : Nat) (x : Int) : Bool := (List.range i).any (fun j => idB (ent zs j) && decide (ofL cs j = x))
theorem mkB_succ (zs : List (List Int)) (cs : List Int) (i : Nat) (x : Int) : mkB zs cs (i + 1) x = (mkB zs cs i x || (idB (ent zs i) && decide (ofL cs i = x))) := by
  unfold mkB; rw [List.range_succ, List.any_append]; simp
def mkRow (zs : List (List Int)) (cs : List Int) (n i : Nat) : List Value := bvs ((List.range n).map (fun x : Nat => mkB zs cs i (x : Int)))
theorem mkRow_len (zs : List (List Int)) (cs : List Int) (n i : Nat) : (mkRow zs cs n i).length = n := by unfold mkRow bvs; simp
theorem mkRow_get (zs : List (List Int)) (cs : List Int) {n i x : Nat} (hx : x < n) : (mkRow zs cs n i)[x]? = some (.bool (mkB zs cs i (x : Int))) := by unfold mkRow bvs; simp [hx]
theorem mkRow_no {zs : List (List Int)} {cs : List Int} {n i : Nat} (h : idB (ent zs i) = false) : mkRow zs cs n (i + 1) = mkRow zs cs n i := by
  unfold mkRow
  congr 1
  refine List.map_congr_left (fun x _ => ?_)
  rw [mkB_succ, h]; simp
theorem mkRow_yes {zs : List (List Int)} {cs : List Int} {n i x : Nat} (h : idB (ent zs i) = true) (hx : ofL cs i = (x : Int)) (hxn : x < n) : (mkRow zs cs n i).set x (.bool true) = mkRow zs cs n (i + 1) := by
  apply List.ext_getElem?
  intro y
  by_cases hy : y < n
  · rw [mkRow_get _ _ hy, mkB_succ, h, hx, Bool.true_and, List.getElem?_set, mkRow_len]
    by_cases e : x = y
    · subst e; simp [hxn]
    · rw [if_neg e, mkRow_get _ _ hy]
      have : ¬ ((x : Int) = (y : Int)) := by omega
      simp [this]
  · rw [List.getElem?_eq_none (by rw [List.length_set, mkRow_len]; omega), List.getElem?_eq_none (by rw [mkRow_len]; omega)]
theorem mkRow_zero (zs : List (List Int)) (cs : List Int) (n : Nat) : mkRow zs cs n 0 = List.replicate n (.bool false) := by
  unfold mkRow bvs mkB
  simp [List.map_const']
/-- the charts that are equal to one that moves no point to another one -/
def krP (zs : List (List Int)) (cs : List Int) (L : List Int) : Bool := mkB zs cs zs.length (kC zs cs L)
def krL (zs : List (List Int)) (cs : List Int) : List (List Int) := if cgB zs cs = true then zs.filter (krP zs cs) else []
theorem krP_at {zs : List (List Int)} {cs : List Int} (hs : Srt zs) {i : Nat} (hi : i < zs.length) : krP zs cs (ent zs i) = mkB zs cs zs.length (ofL cs i) := by unfold krP kC; rw [ixP_at hs hi]
theorem map_snocB {zs : List (List Int)} {i : Nat} (p : List Int → Bool) (hi : i < zs.length) : (zs.take (i + 1)).map p = (zs.take i).map p ++ [p (ent zs i)] := by
  rw [List.take_succ_eq_append_getElem hi, List.map_append]
  have : ent zs i = zs[i] := by unfold ent; rw [List.getElem?_eq_getElem hi]; rfl
  rw [this]; rfl

set_option maxHeartbeats 2000000 in
theorem specCgKernel_any (A C : Option Addr) (n c m d : Nat) (zs : List (List Int)) (cs : List Int) (w : World) (h : RSS w A n zs) (h' : RI w C m cs) (hn : n ≤ 1048576) (hl : ∀ L ∈ zs, L.length ≤ 1048576) (hm : m ≤ 1048576) :
    Calls Tryz.prog 36 #[.slice A n c, .slice C m d] w fun e w' => ∃ v, e = .returned (.tuple #[v, .bool (cgB zs cs)]) ∧ OSS w' w.heap.size w'.heap.size v (krL zs cs) ∧ Below w.heap.size w w' := by
  have hcg := specCgIn_any A C n c m d zs cs w h h' hn hl hm
  cases hC : cgB zs cs
  · have HF : Hid (krL zs cs = []) := by show _ = _; unfold krL; rw [hC]; rfl
    rw [hC] at hcg
    clear h h' hl hC
    go_enter Tryz.func36, Tryz.ntmps36
    go_wp2_with fail
    refine hcg.mono ?_
    rintro e w1 ⟨rfl, hb⟩
    have hL0 : (w1.alloc (.cells #[] 24)).ownsRow w.heap.size 24 1 (.slice (some ⟨w1.heap.size, 0, none⟩) 0 0) 0 [] := World.ownsRow_lit (base := w.heap.size) (e := 24) (size := 1) w1 #[] 0 hb.size (by simp [maxLen]) rfl
    have hB := hb.alloc hb.size (.cells #[] 24)
    go_wp2
    go_ret2
    exact ⟨_, by try rfl, by rw [HF.out]; exact OV.oss ⟨hL0, Inn.nil⟩, hB⟩
  · have HL := Lib.hid h.len
    have HR := Lib.hid h
    have HR' := Lib.hid h'
    have S := sgS_iff.1 (cgB_iff.1 hC).sg
    have HCH := Lib.hid S.ch
    have HKA := Lib.hid (fun (i : Nat) (hi : i < zs.length) => krP_at (cs := cs) S.srt hi)
    have HV := Lib.hid (fun (i : Nat) (hi : i < zs.length) => cg_val hC hi)
    have HFK : Hid (krL zs cs = zs.filter (krP zs cs)) := by show _ = _; unfold krL; rw [hC]; rfl
    obtain rfl : m = n := by rw [← h.len, ← h'.len]; exact (cgB_iff.1 hC).len
    have h0 : 0 < m := by rw [← h.len]; exact S.one
    have hm4 : m ≤ 400 := by rw [← h.len]; exact S.most
    rw [hC] at hcg
    obtain ⟨i0, hi, hz0, hz1, hz2⟩ := info_parts info_bool
    have hb8 : i0.bytes * m ≤ 281474976710656 := by rw [hz2]; omega
    have hmx : m ≤ maxLen := by unfold maxLen; omega
    clear h h' hl hC S
    go_enter Tryz.func36, Tryz.ntmps36
    go_wp2_with fail
    refine hcg.mono ?_
    rintro e w1 ⟨rfl, hb⟩
    have hs1 := hb.size
    clear hcg
    go_wp2_with (at_make; refine wpList_make_full _ rfl _ _ _ rfl w1.heap.size 4 i0 _ 1 Tryz.underlying104 hi hz0 hz1 _ _ _ _ m rfl rfl rfl rfl hb8 hmx (Nat.le_refl _) ?_; intro w2 hown hg)
    have hB2 : Below w.heap.size w w2 := hb.grown hg hs1 (fun k e => by cases e)
    have hr0 : w2.ownsRow w1.heap.size 4 1 (.slice (some ⟨w1.heap.size, 0, none⟩) m m) m (mkRow zs cs m 0) := by
      have e : (madeCells (Value.bool false).cells (m * 1)).toList = mkRow zs cs m 0 := by
        show (madeCells #[Value.bool false] (m * 1)).toList = _
        rw [toList_madeCells_one, mkRow_zero, Nat.mul_one]
      rw [← e]; exact hown
    clear hown hg hb8 hb
    generalize w1.heap.size = G at *
    go_loopw [7] (fun s wr => ∃ i : Nat, i ≤ m ∧ s = .int .i64 (i : Int) ∧ wr.ownsRow G 4 1 (.slice (some ⟨G, 0, none⟩) m m) m (mkRow zs cs m i) ∧ Below w.heap.size w wr) (fun s _ => m - (intOf s).toNat)
    case atStart => exact ⟨0, Nat.zero_le _, rfl, hr0, hB2⟩
    case round =>
      clear hr0 hB2
      obtain ⟨i, him, rfl, hrow, hB⟩ := hrel
      by_cases hlt : i < m
      · have hii : (i : Int) < (m : Int) := by omega
        have hil : i < zs.length := by have := HL.out; omega
        obtain ⟨ac, rfl, _, a1⟩ := (HR'.out.below hB).at_ hlt
        obtain ⟨ad, Ai, ci, rfl, _, hci, hri⟩ := (HR.out.below hB).at_ hlt
        have z1 := HCH.out _ (ent_mem hil)
        rw [show zs[i]?.getD [] = ent zs i from rfl, z1.2] at hci hri
        rw [show cs[i]?.getD 0 = ofL cs i from rfl, HV.out i hil] at a1
        have hxm : nuE (ofL cs) i < m := by have := nu_lt (ofL cs) (show i < i + 1 by omega); have := frC_le (ofL cs) (i + 1); omega
        have HID := Lib.hid (l1Idem_c Ai _ ci (ent zs i) wr hri z1.1)
        have HNO := Lib.hid (mkRow_no (zs := zs) (cs := cs) (n := m) (i := i))
        have HYE : Hid (∀ x : Nat, x = nuE (ofL cs) i → idB (ent zs i) = true → (mkRow zs cs m i).set x (.bool true) = mkRow zs cs m (i + 1)) := fun x hx hid => mkRow_yes hid (by rw [HV.out i hil, hx]) (by omega)
        have hxi : ((nuE (ofL cs) i : Nat) : Int) < (m : Int) := by omega
        have hcell := hrow.cellAt (nuE (ofL cs) i) (by omega)
        rw [mkRow_get _ _ hxm] at hcell
        have hfz := hrow.frozenAt (nuE (ofL cs) i)
        have hst := hrow.stored (nuE (ofL cs) i) (.bool true)
        have HST := Lib.hid hst.1
        have HBS := Lib.hid (hB.setCell (p := ⟨G, nuE (ofL cs) i, none⟩) hs1 (.bool true))
        have HYY := Lib.hid (HYE.out _ rfl)
        clear hri z1 hst HYE
        generalize nuE (ofL cs) i = x at *
        generalize (ent zs 0).length = l0 at *
        generalize idB (ent zs i) = r at *
        generalize mkB zs cs i (x : Int) = ob at *
        go_wp2_with fail
        refine HID.out.mono ?_
        rintro e w3 ⟨rfl, q3, rfl⟩
        cases r
        · have hrow2 := own_below hrow (below_drewN (Below.refl _ _) q3)
          have hB3 := below_drewN hB q3
          have HN := Lib.hid (HNO.out rfl)
          go_wp2
          go_roundw
          case rel => exact ⟨i + 1, by omega, by go_num, by rw [HN.out]; exact hrow2, hB3⟩
          case measure => simp [intOf]; omega
        · have HY := Lib.hid (HYY.out rfl)
          have hrow2 := own_below hrow (below_drewN (Below.refl _ _) q3)
          have hB3 := below_drewN hB q3
          have hst := (hrow2.stored x (.bool true)).1
          rw [HY.out] at hst
          have HST2 := Lib.hid hst
          have HB2 := Lib.hid (hB3.setCell (p := ⟨G, x, none⟩) hs1 (.bool true))
          have hfz2 : (wr.drewN q3).frozen? ⟨G, x, none⟩ = false := hfz
          have hcell2 : (wr.drewN q3).cell? ⟨G, x, none⟩ = some (.bool ob) := hcell
          have a12 : (wr.drewN q3).cell? (ac.add i) = some (.int .i64 (x : Int)) := a1
          clear hst HBS HST hfz hcell
          go_wp2
          go_roundw
          case rel => exact ⟨i + 1, by omega, by go_num, HST2.out, HB2.out⟩
          case measure => simp [intOf]; omega
      · have hii : ¬ (i : Int) < (m : Int) := by omega
        obtain rfl : i = m := by omega
        have hG : G < wr.heap.size := (hrow.lt G rfl).2
        have hbx := hB.alloc hB.size (.cells #[] 4)
        have hbo : (wr.alloc (.cells #[] 4)).ownsRow wr.heap.size 4 1 (.slice (some ⟨wr.heap.size, 0, none⟩) 0 0) 0 (bvs ((zs.take 0).map (krP zs cs))) := World.ownsRow_lit (base := wr.heap.size) (e := 4) (size := 1) wr #[] 0 (Nat.le_refl _) (by simp [maxLen]) rfl
        have hrow1 := hrow.alloc (.cells #[] 4)
        have hGW := hB.size
        have hsz0 : wr.heap.size ≤ (wr.alloc (.cells #[] 4)).heap.size := by simp
        clear hrow hB
        go_wp2
        generalize wr.heap.size = G2 at *
        go_loopw [8, 9] (fun v s wq => ∃ k : Nat, k ≤ i ∧ s = .int .i64 (k : Int) ∧ wq.ownsRow G2 4 1 v k (bvs ((zs.take k).map (krP zs cs))) ∧ wq.ownsRow G 4 1 (.slice (some ⟨G, 0, none⟩) i i) i (mkRow zs cs i i) ∧ Below w.heap.size w wq ∧ G2 ≤ wq.heap.size) (fun _ s _ => i - (intOf s).toNat)
        case atStart => exact ⟨0, Nat.zero_le _, rfl, hbo, hrow1, hbx, hsz0⟩
        case round =>
          clear hbo hrow1 hbx hsz0
          obtain ⟨k, hki, rfl, hbo, hrow, hB, hsz⟩ := hrel
          by_cases hkl : k < i
          · have hkk : (k : Int) < (i : Int) := by omega
            have hkz : k < zs.length := by have := HL.out; omega
            obtain ⟨ac, rfl, _, a1⟩ := (HR'.out.below hB).at_ hkl
            rw [show cs[k]?.getD 0 = ofL cs k from rfl, HV.out k hkz] at a1
            have hxm : nuE (ofL cs) k < i := by have := nu_lt (ofL cs) (show k < k + 1 by omega); have := frC_le (ofL cs) (k + 1); omega
            have hcell := hrow.cellAt (nuE (ofL cs) k) (by omega)
            have HP : Hid (mkB zs cs i (nuE (ofL cs) k : Nat) = krP zs cs (ent zs k)) := by show _ = _; rw [HKA.out k hkz, HL.out, HV.out k hkz]
            rw [mkRow_get _ _ hxm, HP.out] at hcell
            have hxi : ((nuE (ofL cs) k : Nat) : Int) < (i : Int) := by omega
            have HSN : Hid (bvs ((zs.take k).map (krP zs cs)) ++ [.bool (krP zs cs (ent zs k))] = bvs ((zs.take (k + 1)).map (krP zs cs))) := by show _ = _; rw [map_snocB _ hkz]; simp [bvs]
            clear HP
            generalize nuE (ofL cs) k = x at *
            generalize krP zs cs (ent zs k) = b at *
            have h1 : k + 1 ≤ maxLen := by unfold maxLen; omega
            have h2 : (k + 1) * 1 ≤ 140737488355328 := by omega
            have h3 : ∀ o : Obj, G2 ≤ (wr.alloc o).heap.size := fun o => by simp; omega
            go_wp2_with (at_builtin; refine wpList_append_own _ rfl _ _ 104 rfl G2 4 i0 (.bool false) 1 1 Tryz.underlying104 hi hz0 hz1 hz2 rfl (by decide) _ _ _ rfl (hbo.alloc _) ⟨wr.heap.size, 0, none⟩ 1 1 [.bool b] rfl rfl (cell_one_new _ _ _) (by simp [Value.oneCell']) h1 h2 (h3 _) ?_; intro v' w5 hown' hgrow _)
            rw [HSN.out] at hown'
            have hrow2 := (hrow.alloc (.cells #[.bool b] 4)).kept hgrow (.inr (fun e => by have := (hbo.lt G e.symm).1; omega))
            have hB2 := (hB.alloc hB.size (.cells #[.bool b] 4)).grown hgrow (by have := hB.size; simp; omega) (fun g e => by have := (hbo.lt g e).1; omega)
            have hsz2 : G2 ≤ w5.heap.size := by have := hgrow.size; have := h3 (.cells #[.bool b] 4); omega
            clear hbo hrow hB hgrow hcell h3
            go_roundw
            case rel => exact ⟨k + 1, by omega, by go_num, hown', hrow2, hB2, hsz2⟩
            case measure => simp [intOf]; omega
          · have hkk : ¬ (k : Int) < (i : Int) := by omega
            obtain rfl : k = i := by omega
            obtain ⟨g, cp, rfl, _, _⟩ := hbo.form (by omega)
            rw [List.take_of_length_le (by have := HL.out; omega)] at hbo
            have HKP := Lib.hid (l3Keep_any A k c g cp G2 zs (krP zs cs) wr (HR.out.below hB) (by omega) (fun L hL => (HCH.out L hL).1) hbo)
            rw [← HFK.out] at HKP
            clear hbo hrow
            go_wp2_with fail
            refine HKP.out.mono ?_
            rintro e w6 ⟨v, rfl, hO, hb6⟩
            have hOO := hO.more hB.size (Nat.le_refl _)
            have hB6 := hB.trans (hb6.mono hB.size)
            clear HKP hO hb6
            go_wp2
            go_ret2
            exact ⟨_, by try rfl, hOO, hB6⟩
end

end Go.Proofs.YtmknjifmmmnjjaaGreatDoor
