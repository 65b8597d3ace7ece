/-
  Top.
-/
import Derived.Test.YtigapanfihpgaaaGreatDoorNW
import Derived.Test.YtigapanfihpgaaaGreatDoorNX
namespace Go.Proofs.YtigapanfihpgaaaGreatDoor
set_option maxRecDepth 100000
set_option linter.unusedVariables false
set_option linter.unusedSimpArgs false
set_option linter.unusedSectionVars false

/-! SemigroupTops, both sides. -/
section
open Go.RowKit Go.Maps

theorem setB (bs rs : List Bool) {k : Nat} {b b' : Bool} (hl : bs.length = k) : (bvs (bs ++ [b] ++ rs)).set k (.bool b') = bvs (bs ++ [b'] ++ rs) := by
  subst hl
  unfold bvs
  rw [List.append_assoc, List.map_append, List.set_append_right _ _ (by simp)]
  simp

set_option maxHeartbeats 4000000 in
theorem specTops_any (A : Option Addr) (n c : Nat) (zs : List (List Int)) (w : World) (h : RSS w A n zs) (hn : n ≤ 1048576) (hl : ∀ L ∈ zs, L.length ≤ 1048576) :
    Calls Tryz.prog 36 #[.slice A n c] w fun e w' => ∃ v, e = .returned (.tuple #[v, .bool (sgS zs)]) ∧ OSS w' w.heap.size w'.heap.size v (tpL zs) ∧ Below w.heap.size w w' := by
  have hsg := specSg_any A n c zs w h hn hl
  cases hS : sgS zs
  · have HI : Hid (tpL zs = []) := by show _ = _; unfold tpL; rw [hS]; rfl
    rw [hS] at hsg
    clear hS h hl
    go_enter Tryz.func36, Tryz.ntmps36
    go_wp2_with fail
    refine hsg.mono ?_
    rintro e w1 ⟨rfl, hb⟩
    have hL0 : (w1.alloc (.cells #[] 28)).ownsRow w.heap.size 28 1 (.slice (some ⟨w1.heap.size, 0, none⟩) 0 0) 0 [] := World.ownsRow_lit (base := w.heap.size) (e := 28) (size := 1) w1 #[] 0 hb.size (by simp [maxLen]) rfl
    have hB := hb.alloc hb.size (.cells #[] 28)
    go_wp2
    go_ret2
    exact ⟨_, rfl, by rw [HI.out]; exact OV.oss ⟨hL0, Inn.nil⟩, hB⟩
  · have S := sgS_iff.1 hS
    have HI : Hid (tpL zs = zs.filter (topB zs)) := by show _ = _; unfold tpL; rw [hS]; rfl
    have HCH := Lib.hid S.ch
    have HL := Lib.hid h.len
    have HR := Lib.hid h
    rw [hS] at hsg
    obtain ⟨i0, hi, hz0, hz1, hz2⟩ := info_parts info_bool
    have hb8 : i0.bytes * n ≤ 281474976710656 := by rw [hz2]; omega
    have hmx : n ≤ maxLen := by unfold maxLen; omega
    clear hS h hl S
    go_enter Tryz.func36, Tryz.ntmps36
    go_wp2_with fail
    refine hsg.mono ?_
    rintro e w2 ⟨rfl, hB2⟩
    have hs2 := hB2.size
    clear hsg
    go_wp2_with (at_make; refine wpList_make_full _ rfl _ _ _ rfl w2.heap.size 4 i0 _ 1 Tryz.underlying49 hi hz0 hz1 _ _ _ _ n rfl rfl rfl rfl hb8 hmx (Nat.le_refl _) ?_; intro w3 hown hg)
    have hB3 : Below w.heap.size w w3 := hB2.grown hg hs2 (fun k e => by cases e)
    have hr0 : w3.ownsRow w2.heap.size 4 1 (.slice (some ⟨w2.heap.size, 0, none⟩) n n) n (bvs ((zs.take 0).map (topB zs) ++ List.replicate (n - 0) false)) := by
      have e : (madeCells (Value.bool false).cells (n * 1)).toList = bvs ((zs.take 0).map (topB zs) ++ List.replicate (n - 0) false) := by
        show (madeCells #[Value.bool false] (n * 1)).toList = _
        rw [toList_madeCells_one]; simp [bvs]
      rw [← e]; exact hown
    clear hown hg hi hz0 hz1 hz2 hb8
    go_loopw [5] (fun i wr => ∃ k : Nat, k ≤ n ∧ i = .int .i64 (k : Int) ∧ wr.ownsRow w2.heap.size 4 1 (.slice (some ⟨w2.heap.size, 0, none⟩) n n) n (bvs ((zs.take k).map (topB zs) ++ List.replicate (n - k) false)) ∧ Below w.heap.size w wr) (fun i _ => n - (intOf i).toNat)
    case atStart => exact ⟨0, Nat.zero_le _, rfl, hr0, hB3⟩
    case round =>
      obtain ⟨i, hi, rfl, hrow, hbel⟩ := hrel
      clear hr0 hB3 hB2
      by_cases hlti : i < n
      · have hil : i < zs.length := by have := HL.out; omega
        have HT : Hid ((zs.take (i + 1)).map (topB zs) = (zs.take i).map (topB zs) ++ [topB zs (ent zs i)]) := by
          show _ = _
          rw [List.take_succ_eq_append_getElem hil, List.map_append]
          have : ent zs i = zs[i] := by unfold ent; rw [List.getElem?_eq_getElem hil]; rfl
          rw [this]; rfl
        have HTB := Lib.hid (topB_is (fun L hL => (HCH.out L hL).1) hil)
        have ho := hrow.cellAt i (by omega)
        have hf := hrow.frozenAt i
        obtain ⟨u, hu⟩ : ∃ u, (bvs ((zs.take i).map (topB zs) ++ List.replicate (n - i) false))[i]? = some u := ⟨_, List.getElem?_eq_getElem (by simp [bvs]; omega)⟩
        rw [hu] at ho
        have hst := (hrow.stored i (.bool true)).1
        rw [fillB _ hlti (by simp; omega)] at hst
        have HST := Lib.hid hst
        have HBL := Lib.hid (hbel.setCell (p := ⟨w2.heap.size, i, none⟩) hs2 (.bool true))
        have HTKL : Hid (((zs.take i).map (topB zs)).length = i) := by show _ = _; simp; omega
        generalize (zs.take i).map (topB zs) = bs at *
        clear hst hu hrow hbel
        go_wp2
        go_loopw [6] (fun s wq => ∃ k : Nat, k ≤ n ∧ s = .int .i64 (k : Int) ∧ wq.ownsRow w2.heap.size 4 1 (.slice (some ⟨w2.heap.size, 0, none⟩) n n) n (bvs (bs ++ [tpK zs i k] ++ List.replicate (n - (i + 1)) false)) ∧ Below w.heap.size w wq) (fun s _ => n - (intOf s).toNat)
        case atStart => exact ⟨0, Nat.zero_le _, rfl, HST.out, HBL.out⟩
        case round =>
          obtain ⟨k, hk, rfl, hrow, hbel⟩ := hrel
          clear ho hf
          by_cases hltk : k < n
          · have hkl : k < zs.length := by have := HL.out; omega
            have HKK : Hid (tpK zs i (k + 1) = (tpK zs i k && !(decide (k ≠ i) && beB (ent zs i) (ent zs k)))) := rfl
            by_cases hki : k = i
            · have hbe : ((k : Int) != (i : Int)) = false := by simp [hki]
              have HK1 : Hid (tpK zs i (k + 1) = tpK zs i k) := by show _ = _; rw [HKK.out]; simp [hki]
              have HKI := Lib.hid hki
              clear hki
              go_wp2
              go_quiet (fail)
              all_goals go_wp2
              all_goals go_roundw
              case rel => exact ⟨k + 1, by omega, by go_num, by rw [HK1.out]; exact own_below hrow (below_drewN (Below.refl _ _) _), below_drewN hbel _⟩
              case measure => simp [intOf]; omega
            · have hbe : ((k : Int) != (i : Int)) = true := by simp; omega
              have hR := HR.out.below hbel
              obtain ⟨ad, Ai, ci, rfl, hab, hci, hri⟩ := hR.at_ hlti
              obtain ⟨ad', Ak, ck, he, hab', hck, hrk⟩ := hR.at_ hltk
              obtain rfl := Option.some.inj he
              have hei : zs[i]?.getD [] = ent zs i := rfl
              have hek : zs[k]?.getD [] = ent zs k := rfl
              have e1 := HCH.out _ (ent_mem hil)
              have e2 := HCH.out _ (ent_mem hkl)
              rw [hei, e1.2] at hci hri
              rw [hek, e2.2] at hck hrk
              have HPP := Lib.hid (isP_of e1.1 e2.1 (e1.2.trans e2.2.symm))
              have HC1 : Hid (∀ j, Calls Tryz.prog 76 #[.slice Ai (ent zs 0).length ci, .slice Ak (ent zs 0).length ck] (wr.drewN j) fun e w' => e = .returned (.bool (beB (ent zs i) (ent zs k))) ∧ ∃ m, w' = wr.drewN m) := fun j => (l1Below_c _ _ _ _ _ _ _ _ (hri.drawn j) (hrk.drawn j) HPP.out).mono fun e w' h => ⟨h.1, by obtain ⟨q, hq⟩ := h.2; exact ⟨j + q, by rw [hq]; exact World.drewN_drewN _ _ _⟩⟩
              have HKN := Lib.hid hki
              clear hei hek e1 e2 he hab hab' hkl hR hri hrk HPP hki
              generalize (ent zs 0).length = l0 at *
              cases hr : beB (ent zs i) (ent zs k)
              · have HK1 : Hid (tpK zs i (k + 1) = tpK zs i k) := by show _ = _; rw [HKK.out, hr]; simp
                rw [hr] at HC1
                clear hr
                go_wp2
                go_quiet (with_reducible exact HC1.out _)
                all_goals go_wp2
                all_goals go_roundw
                case rel => exact ⟨k + 1, by omega, by go_num, by rw [HK1.out]; exact own_below hrow (below_drewN (Below.refl _ _) _), below_drewN hbel _⟩
                case measure => simp [intOf]; omega
              · have HK1 : Hid (tpK zs i (k + 1) = false) := by show _ = _; rw [HKK.out, hr, decide_eq_true HKN.out]; simp
                rw [hr] at HC1
                have ho := hrow.cellAt i (by omega)
                have hf := hrow.frozenAt i
                obtain ⟨u, hu⟩ : ∃ u, (bvs (bs ++ [tpK zs i k] ++ List.replicate (n - (i + 1)) false))[i]? = some u := ⟨_, List.getElem?_eq_getElem (by have := HTKL.out; simp [bvs]; omega)⟩
                rw [hu] at ho
                have HRQ : Hid (∀ q, (wr.drewN q).ownsRow w2.heap.size 4 1 (.slice (some ⟨w2.heap.size, 0, none⟩) n n) n (bvs (bs ++ [tpK zs i k] ++ List.replicate (n - (i + 1)) false))) := fun q => own_below hrow (below_drewN (Below.refl _ _) q)
                have HBQ : Hid (∀ q, Below w.heap.size w (wr.drewN q)) := fun q => below_drewN hbel q
                clear hr hu hrow hbel
                go_wp2
                go_quiet (with_reducible exact HC1.out _)
                all_goals
                  have ho2 : (wr.drewN nq).cell? ⟨w2.heap.size, i, none⟩ = some u := ho
                  have hf2 : (wr.drewN nq).frozen? ⟨w2.heap.size, i, none⟩ = false := hf
                  have hst := ((HRQ.out nq).stored i (.bool false)).1
                  have e3 : bs ++ [false] ++ List.replicate (n - (i + 1)) false = bs ++ [tpK zs i (k + 1)] ++ List.replicate (n - (i + 1)) false := by rw [HK1.out]
                  rw [setB _ _ HTKL.out, e3] at hst
                  have HST2 := Lib.hid hst
                  have HBL2 := Lib.hid ((HBQ.out nq).setCell (p := ⟨w2.heap.size, i, none⟩) hs2 (.bool false))
                  clear ho hf hst hci hck
                  go_wp2
                  go_roundw
                case rel => exact ⟨k + 1, by omega, by go_num, HST2.out, HBL2.out⟩
                case measure => simp [intOf]; omega
          · obtain rfl : k = n := by omega
            have HE : Hid (tpK zs i k = topB zs (ent zs i)) := by show _ = _; rw [← HTB.out, HL.out]
            go_wp2
            go_roundw
            case rel => exact ⟨i + 1, by omega, by go_num, by rw [HT.out, ← HE.out]; exact hrow, hbel⟩
            case measure => simp [intOf]; omega
      · obtain rfl : i = n := by omega
        have e : (zs.take i).map (topB zs) ++ List.replicate (i - i) false = zs.map (topB zs) := by rw [Nat.sub_self, List.replicate_zero, List.append_nil, List.take_of_length_le (by have := HL.out; omega)]
        rw [e] at hrow
        go_wp2_with fail
        refine (l3Keep_any A i c w2.heap.size i w2.heap.size zs (topB zs) wr (HR.out.below hbel) hn (fun L hL => (HCH.out L hL).1) hrow).mono ?_
        rintro e w5 ⟨v, rfl, ho, hb5⟩
        have hs5 := hbel.size
        have hB5 := hbel.trans (hb5.mono hs5)
        go_wp2
        go_ret2
        exact ⟨_, rfl, by rw [HI.out]; exact ho.more hs5 (Nat.le_refl _), hB5⟩
set_option maxHeartbeats 1000000 in
theorem tops1_any {H : Type} (b m n P : Nat) (zs : List (List Int)) (hn : zs.length = n) (hn6 : n ≤ 1048576) (hz : ∀ L ∈ zs, isC L = true ∧ L.length = m) (hs : Srt zs) (L : List Int) (hL : isC L = true) (hm : L.length = m) (w : World) (hP : w.cell? ⟨P, 0, none⟩ = some (.map (some b)))
    (hown : w.ownsMap Tryz.prog 53 (plainElem (H := H) Tryz.prog 3) b n (mapP klL zs n)) :
    Calls Tryz.prog 74 #[.agg #[.int .i64 ((m : Int)), .int .i64 (ofL L 0), .int .i64 (ofL L 1), .int .i64 (ofL L 2), .int .i64 (ofL L 3), .int .i64 (ofL L 4), .int .i64 (ofL L 5)], .pointer (some ⟨P, 0, none⟩)] w fun e w' => e = .returned (.bool (topB zs L)) ∧ Below w.heap.size w w' := by
  have hB0 : Below w.heap.size w (w.alloc (.cells #[.int .i64 ((m : Int)), .int .i64 (ofL L 0), .int .i64 (ofL L 1), .int .i64 (ofL L 2), .int .i64 (ofL L 3), .int .i64 (ofL L 4), .int .i64 (ofL L 5)] 53)) := (Below.refl _ w).alloc (Nat.le_refl _) _
  have hP1 := (World.cell?_alloc_lt w (.cells #[.int .i64 ((m : Int)), .int .i64 (ofL L 0), .int .i64 (ofL L 1), .int .i64 (ofL L 2), .int .i64 (ofL L 3), .int .i64 (ofL L 4), .int .i64 (ofL L 5)] 53) ⟨P, 0, none⟩ (block_lt_of_cell hP)).trans hP
  have hab := above_any b m n zs hn hn6 hz hs L hL hm (w.alloc (.cells #[.int .i64 ((m : Int)), .int .i64 (ofL L 0), .int .i64 (ofL L 1), .int .i64 (ofL L 2), .int .i64 (ofL L 3), .int .i64 (ofL L 4), .int .i64 (ofL L 5)] 53)) (hown.alloc _)
  obtain ⟨a0, a1, a2, a3, a4, a5, a6⟩ := (Cb.new w (m : Int) (ofL L)).all
  have HT : Hid (topB zs L = decide ((zs.filter (beB L)).length = 1)) := rfl
  clear hown hz hs hL hm hP
  go_enter Tryz.func74, Tryz.ntmps74
  go_wp2_with fail
  refine hab.mono ?_
  rintro e w1 ⟨v, rfl, ho, hb⟩
  have hB1 := hB0.trans (hb.mono (by simp))
  obtain ⟨A', c', rfl⟩ := own_shape ho
  clear hab ho
  by_cases hq : (zs.filter (beB L)).length = 1
  · have hbe : (((zs.filter (beB L)).length : Int) == 1) = true := by rw [hq]; rfl
    have HQ := Lib.hid hq
    clear hq
    generalize (zs.filter (beB L)).length = q at *
    go_wp2
    go_ret
    exact ⟨by rw [HT.out, decide_eq_true HQ.out]; rfl, hB1⟩
  · have hbe : (((zs.filter (beB L)).length : Int) == 1) = false := by rw [beq_eq_false_iff_ne]; intro e; exact hq (by omega)
    have HQ := Lib.hid hq
    clear hq
    generalize (zs.filter (beB L)).length = q at *
    go_wp2
    go_ret
    exact ⟨by rw [HT.out, decide_eq_false HQ.out]; rfl, hB1⟩
set_option maxHeartbeats 1000000 in
theorem implTops_any (A : Option Addr) (n c : Nat) (zs : List (List Int)) (w : World) (h : RSS w A n zs) (hg : EtAt w) :
    Calls Tryz.prog 23 #[.slice A n c] w fun e w' => ∃ v, e = .returned (.tuple #[v, .bool (sgS zs)]) ∧ OSS w' w.heap.size w'.heap.size v (tpL zs) ∧ Below w.heap.size w w' := by
  have hsg := told_any A n c zs w h hg
  clear h hg
  go_enter Tryz.func23, Tryz.ntmps23
  go_wp2_with fail
  refine hsg.mono ?_
  rintro e w1 ⟨v, rfl, hy, hno, hb⟩
  have hs1 := hb.size
  cases hS : sgS zs
  · obtain rfl := hno hS
    have HSX := Lib.hid hS
    have HI : Hid (tpL zs = []) := by show _ = _; unfold tpL; rw [hS]; rfl
    have hB1 := hb.alloc hs1 (.cells #[.map none] 42)
    clear hy hno hsg hS
    go_wp2_with fail
    refine (part_none _ rfl _).mono ?_
    rintro e w2 ⟨rfl, hb2⟩
    have hB2 := hB1.trans (hb2.mono hB1.size)
    go_wp2_with fail
    refine (listsOf_any 0 0 (.slice none 0 0) [] (fun L h => by cases h) (by simp) w2 (World.ownsRow_nil _ _ _ _)).mono ?_
    rintro e w3 ⟨v', rfl, hO, hb3⟩
    have hs2 := hB2.size
    go_wp2
    go_ret2
    exact ⟨_, by rw [HSX.out]; rfl, by rw [HI.out]; exact hO.more hs2 (Nat.le_refl _), hB2.trans (hb3.mono hs2)⟩
  · obtain ⟨b, rfl, hbl, hown⟩ := hy hS
    have HSX := Lib.hid hS
    have S := sgS_iff.1 hS
    have hB1 := hb.alloc hs1 (.cells #[.map (some b)] 42)
    have hown1 := hown.alloc (.cells #[.map (some b)] 42)
    have hcP : (w1.alloc (.cells #[.map (some b)] 42)).cell? ⟨w1.heap.size, 0, none⟩ = some (.map (some b)) := by
      have := cell_one_new w1 (.map (some b)) 42 0 (.map (some b)) rfl
      exact this
    have hid := part_any b (ent zs 0).length zs.length 74 #[] #[.pointer (some ⟨w1.heap.size, 0, none⟩)] zs rfl (by have := S.most; omega) S.ch S.srt (topB zs) (w1.alloc (.cells #[.map (some b)] 42)) (enters_of Tryz.func74 (by kernel_rfl) rfl)
      (fun L hL W hW => tops1_any b (ent zs 0).length zs.length w1.heap.size zs rfl (by have := S.most; omega) S.ch S.srt L (S.ch L hL).1 (S.ch L hL).2 W ((hW.cell (block_lt_of_cell hcP)).trans hcP) (ownsMap_same hown1 (hW.block b hown1.lt))) hown1
    have HI : Hid (tpL zs = zs.filter (topB zs)) := by show _ = _; unfold tpL; rw [hS]; rfl
    have HZ : Hid (∀ L ∈ zs.filter (topB zs), isC L = true ∧ L.length = (ent zs 0).length) := fun L hL => S.ch L (List.mem_filter.1 hL).1
    have hle : (zs.filter (topB zs)).length ≤ 1048576 := Nat.le_trans (List.length_filter_le _ _) (by have := S.most; omega)
    clear hy hno hsg S hS hown hown1
    go_wp2_with fail
    refine hid.mono ?_
    rintro e w2 ⟨v, rfl, ho, hb2⟩
    have hB2 := hB1.trans (hb2.mono hB1.size)
    clear hid
    go_wp2_with fail
    refine (listsOf_any (ent zs 0).length _ v (zs.filter (topB zs)) HZ.out hle w2 ho).mono ?_
    rintro e w3 ⟨v', rfl, hO, hb3⟩
    have hs2 := hB2.size
    go_wp2
    go_ret2
    exact ⟨_, by rw [HSX.out]; rfl, by rw [HI.out]; exact hO.more hs2 (Nat.le_refl _), hB2.trans (hb3.mono hs2)⟩
end

end Go.Proofs.YtigapanfihpgaaaGreatDoor
