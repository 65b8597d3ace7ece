/-
  UnI.
-/
import Derived.Test.YtkfiehndlgplgaaGreatDoorNT
namespace Go.Proofs.YtkfiehndlgplgaaGreatDoor
set_option maxRecDepth 100000
set_option linter.unusedVariables false
set_option linter.unusedSimpArgs false
set_option linter.unusedSectionVars false

/-! (impl.chart).below as the maps know it, (impl.semigroup).above, unitary, impl.SemigroupUnitary. -/
section
open Go.RowKit Go.Maps

theorem all_no {L : List (List Int)} {P : List Int → Bool} {x : List Int} (hx : x ∈ L) (h : P x = false) : L.all P = false := by
  cases hc : L.all P
  · rfl
  · have := List.all_eq_true.1 hc x hx; rw [h] at this; cases this

theorem isC_En {L : List Int} (h : isC L = true) : En L.length (ofL L) := en_ofL h
theorem below_c (m : Nat) (L M : List Int) (hL : isC L = true) (hM : isC M = true) (hm : L.length = m) (hm' : M.length = m) (w : World) :
    Calls Tryz.prog 131 #[.agg #[.int .i64 ((m : Int)), .int .i64 (ofL L 0), .int .i64 (ofL L 1), .int .i64 (ofL L 2), .int .i64 (ofL L 3), .int .i64 (ofL L 4), .int .i64 (ofL L 5)], .agg #[.int .i64 ((m : Int)), .int .i64 (ofL M 0), .int .i64 (ofL M 1), .int .i64 (ofL M 2), .int .i64 (ofL M 3), .int .i64 (ofL M 4), .int .i64 (ofL M 5)]] w fun e w' => e = .returned (.bool (beB L M)) ∧ Below w.heap.size w w' := by
  subst hm
  have hb := below_any L.length (isC_len hL).2 (ofL L) (ofL M) (isC_En hL) w
  have hP := isP_of hL hM hm'.symm
  rw [eq6_is (isC_len hL).2 (isC_En hL) (fun j h1 h2 => by unfold ofL; rw [List.getElem?_eq_none (by omega)]; rfl)] at hb
  have e : beB L M = blK (ofL L) (ofL M) L.length := by unfold beB; rw [hP, Bool.true_and]
  rw [e]; exact hb
theorem idem_c (m : Nat) (L : List Int) (hL : isC L = true) (hm : L.length = m) (w : World) :
    Calls Tryz.prog 57 #[.agg #[.int .i64 ((m : Int)), .int .i64 (ofL L 0), .int .i64 (ofL L 1), .int .i64 (ofL L 2), .int .i64 (ofL L 3), .int .i64 (ofL L 4), .int .i64 (ofL L 5)]] w fun e w' => e = .returned (.bool (idB L)) ∧ Below w.heap.size w w' := by
  subst hm
  have := idem_any L.length (isC_len hL).2 (ofL L) (isC_Ok hL) w
  rw [idB_of hL] at this
  exact this
set_option maxHeartbeats 1000000 in
theorem above_any {H : Type} (b m n : Nat) (zs : List (List Int)) (hn : zs.length = n) (hn6 : n ≤ 1048576) (hz : ∀ L ∈ zs, isC L = true ∧ L.length = m) (hs : Srt zs) (L : List Int) (hL : isC L = true) (hm : L.length = m) (w : World)
    (hown : w.ownsMap Tryz.prog 58 (plainElem (H := H) Tryz.prog 3) b n (mapP klL zs n)) :
    Calls Tryz.prog 107 #[.map (some b), .agg #[.int .i64 ((m : Int)), .int .i64 (ofL L 0), .int .i64 (ofL L 1), .int .i64 (ofL L 2), .int .i64 (ofL L 3), .int .i64 (ofL L 4), .int .i64 (ofL L 5)]] w fun e w' => ∃ v, e = .returned v ∧ w'.ownsRow w.heap.size 58 7 v (zs.filter (beB L)).length (cwc m (zs.filter (beB L))) ∧ Below w.heap.size w w' := by
  have hB0 : Below w.heap.size w (w.alloc (.cells #[.int .i64 ((m : Int)), .int .i64 (ofL L 0), .int .i64 (ofL L 1), .int .i64 (ofL L 2), .int .i64 (ofL L 3), .int .i64 (ofL L 4), .int .i64 (ofL L 5)] 58)) := (Below.refl _ w).alloc (Nat.le_refl _) _
  have hpt := part_any b m n 131 #[.agg #[.int .i64 ((m : Int)), .int .i64 (ofL L 0), .int .i64 (ofL L 1), .int .i64 (ofL L 2), .int .i64 (ofL L 3), .int .i64 (ofL L 4), .int .i64 (ofL L 5)]] #[] zs hn hn6 hz hs (beB L) (w.alloc (.cells #[.int .i64 ((m : Int)), .int .i64 (ofL L 0), .int .i64 (ofL L 1), .int .i64 (ofL L 2), .int .i64 (ofL L 3), .int .i64 (ofL L 4), .int .i64 (ofL L 5)] 58)) (enters_of Tryz.func131 (by kernel_rfl) rfl) (fun M hM W _ => below_c m L M hL (hz M hM).1 hm (hz M hM).2 W) (hown.alloc _)
  obtain ⟨a0, a1, a2, a3, a4, a5, a6⟩ := (Cb.new w (m : Int) (ofL L)).all
  clear hown hz hs hL hm
  go_enter Tryz.func107, Tryz.ntmps107
  go_wp2_with fail
  refine hpt.mono ?_
  rintro e w1 ⟨v, rfl, ho, hb⟩
  have hs := hb.size
  go_wp2
  go_ret
  exact ⟨_, rfl, own_base ho (by simp), hB0.trans (hb.mono (by simp))⟩
set_option maxHeartbeats 4000000 in
theorem unitary_any {H : Type} (b m n : Nat) (zs : List (List Int)) (hn : zs.length = n) (hn6 : n ≤ 1048576) (hz : ∀ L ∈ zs, isC L = true ∧ L.length = m) (hs : Srt zs) (w : World)
    (hown : w.ownsMap Tryz.prog 58 (plainElem (H := H) Tryz.prog 3) b n (mapP klL zs n)) :
    Calls Tryz.prog 61 #[.map (some b)] w fun e w' => e = .returned (.bool (unB zs)) ∧ Below w.heap.size w w' := by
  have hid := idems_any b m n zs hn hn6 hz hs w hown
  have HN := Lib.hid hn
  have HZ := Lib.hid hz
  have HSR := Lib.hid hs
  have hbl := hown.lt
  have HOW := Lib.hid hown
  have HU : Hid (unB zs = (zs.filter idB).all (unE zs)) := rfl
  have hfl : (zs.filter idB).length ≤ n := by rw [← hn]; exact List.length_filter_le _ _
  have HF1 : Hid (∀ L ∈ zs.filter idB, L ∈ zs) := fun L hL => (List.mem_filter.1 hL).1
  clear hz hs hn hown
  go_enter Tryz.func61, Tryz.ntmps61
  go_wp2_with fail
  refine hid.mono ?_
  rintro e w1 ⟨v1, rfl, hrow, hb1⟩
  generalize zs.filter idB = ls at *
  obtain ⟨A1, c1, rfl⟩ := own_shape hrow
  have HROW := Lib.hid hrow
  clear hid hrow
  go_wp2
  go_loopw [4, 6, 10] (fun _ _ s wr => ∃ i : Nat, i ≤ ls.length ∧ s = .int .i64 (i : Int) ∧ Hid (∀ j, j < i → unE zs (ent ls j) = true) ∧ Below w.heap.size w wr ∧ Below w1.heap.size w1 wr) (fun _ _ s _ => ls.length - (intOf s).toNat)
  case atStart => exact ⟨0, Nat.zero_le _, rfl, Lib.hid (fun j hj => absurd hj (Nat.not_lt_zero _)), hb1, Below.refl _ _⟩
  case round =>
    obtain ⟨i, hi, rfl, HI, hB, hB1⟩ := hrel
    by_cases hlti : i < ls.length
    · obtain ⟨L, hL⟩ : ∃ L, ls[i]? = some L := ⟨_, List.getElem?_eq_getElem hlti⟩
      have hE : ent ls i = L := by unfold ent; rw [hL]; rfl
      have hr1 := own_below HROW.out hB1
      obtain ⟨g1, cp1, hv, _, hg1⟩ := hr1.form (by omega)
      injection hv with hv1 _ hv3
      subst hv1
      have hC1 : Chs wr g1 m ls := Chs.of_own hr1
      obtain ⟨c0, c1', c2, c3, c4, c5, c6⟩ := hC1.all hL
      have hLz := HF1.out L (List.mem_of_getElem? hL)
      have hLL := HZ.out L hLz
      have hB2 := hB.alloc hB.size (.cells #[.int .i64 ((m : Int)), .int .i64 (ofL L 0), .int .i64 (ofL L 1), .int .i64 (ofL L 2), .int .i64 (ofL L 3), .int .i64 (ofL L 4), .int .i64 (ofL L 5)] 58)
      have hB12 := hB1.alloc hB1.size (.cells #[.int .i64 ((m : Int)), .int .i64 (ofL L 0), .int .i64 (ofL L 1), .int .i64 (ofL L 2), .int .i64 (ofL L 3), .int .i64 (ofL L 4), .int .i64 (ofL L 5)] 58)
      have hab := above_any b m n zs HN.out hn6 HZ.out HSR.out L hLL.1 hLL.2 (wr.alloc (.cells #[.int .i64 ((m : Int)), .int .i64 (ofL L 0), .int .i64 (ofL L 1), .int .i64 (ofL L 2), .int .i64 (ofL L 3), .int .i64 (ofL L 4), .int .i64 (ofL L 5)] 58)) (ownsMap_same HOW.out (hB2.block b hbl))
      have HE := Lib.hid hE
      have HMEM := Lib.hid (List.mem_of_getElem? hL)
      have HF2 : Hid (∀ M ∈ zs.filter (beB L), M ∈ zs) := fun M hM => (List.mem_filter.1 hM).1
      have HUE : Hid (unE zs L = (zs.filter (beB L)).all idB) := rfl
      have hfl2 : (zs.filter (beB L)).length ≤ n := by rw [← HN.out]; exact List.length_filter_le _ _
      clear hL hE hr1 hC1 hLz hLL hv3
      go_wp2_with fail
      refine hab.mono ?_
      rintro e w2 ⟨v2, rfl, hrow2, hb2⟩
      have hB3 := hB2.trans (hb2.mono hB2.size)
      have hB13 := hB12.trans (hb2.mono hB12.size)
      generalize zs.filter (beB L) = ms at *
      obtain ⟨A2, c2x, rfl⟩ := own_shape hrow2
      have HROW2 := Lib.hid hrow2
      clear hab hrow2 hb2 c0 c1' c2 c3 c4 c5 c6
      go_wp2
      go_loopw [6, 18] (fun _ s wq => ∃ k : Nat, k ≤ ms.length ∧ s = .int .i64 (k : Int) ∧ Hid (∀ j, j < k → idB (ent ms j) = true) ∧ Below w.heap.size w wq ∧ Below w1.heap.size w1 wq ∧ Below w2.heap.size w2 wq) (fun _ s _ => ms.length - (intOf s).toNat)
      case atStart => exact ⟨0, Nat.zero_le _, rfl, Lib.hid (fun j hj => absurd hj (Nat.not_lt_zero _)), hB3, hB13, Below.refl _ _⟩
      case round =>
        clear hB hB1 hB2 hB12 hB3 hB13
        obtain ⟨k, hk, rfl, HK, hB, hB1, hBx⟩ := hrel
        by_cases hltk : k < ms.length
        · obtain ⟨M, hM⟩ : ∃ M, ms[k]? = some M := ⟨_, List.getElem?_eq_getElem hltk⟩
          have hEM : ent ms k = M := by unfold ent; rw [hM]; rfl
          have hr2 := own_below HROW2.out hBx
          obtain ⟨g2, cp2, hv, _, hg2⟩ := hr2.form (by omega)
          injection hv with hv1 _ hv3
          subst hv1
          have hC2 : Chs wr g2 m ms := Chs.of_own hr2
          obtain ⟨d0, d1, d2, d3, d4, d5, d6⟩ := hC2.all hM
          have hMz := HZ.out M (HF2.out M (List.mem_of_getElem? hM))
          have hB2 := hB.alloc hB.size (.cells #[.int .i64 ((m : Int)), .int .i64 (ofL M 0), .int .i64 (ofL M 1), .int .i64 (ofL M 2), .int .i64 (ofL M 3), .int .i64 (ofL M 4), .int .i64 (ofL M 5)] 58)
          have hB12 := hB1.alloc hB1.size (.cells #[.int .i64 ((m : Int)), .int .i64 (ofL M 0), .int .i64 (ofL M 1), .int .i64 (ofL M 2), .int .i64 (ofL M 3), .int .i64 (ofL M 4), .int .i64 (ofL M 5)] 58)
          have hBx2 := hBx.alloc hBx.size (.cells #[.int .i64 ((m : Int)), .int .i64 (ofL M 0), .int .i64 (ofL M 1), .int .i64 (ofL M 2), .int .i64 (ofL M 3), .int .i64 (ofL M 4), .int .i64 (ofL M 5)] 58)
          have hic := idem_c m M hMz.1 hMz.2 (wr.alloc (.cells #[.int .i64 ((m : Int)), .int .i64 (ofL M 0), .int .i64 (ofL M 1), .int .i64 (ofL M 2), .int .i64 (ofL M 3), .int .i64 (ofL M 4), .int .i64 (ofL M 5)] 58))
          have HMM := Lib.hid (List.mem_of_getElem? hM)
          clear hM hr2 hC2 hMz hv3
          go_wp2_with fail
          refine hic.mono ?_
          rintro e w3 ⟨rfl, hb3⟩
          have hB3 := hB2.trans (hb3.mono hB2.size)
          have hB13 := hB12.trans (hb3.mono hB12.size)
          have hBx3 := hBx2.trans (hb3.mono hBx2.size)
          clear hic hb3 d0 d1 d2 d3 d4 d5 d6
          cases hr : idB M
          · have HNO : Hid (unB zs = false) := by show _ = _; rw [HU.out]; exact all_no HMEM.out (by rw [HUE.out]; exact all_no HMM.out hr)
            clear hr
            go_wp2
            go_ret
            exact ⟨by rw [HNO.out]; rfl, hB3⟩
          · have HK2 : Hid (∀ j, j < k + 1 → idB (ent ms j) = true) := upto_step HK.out (by rw [hEM]; exact hr)
            clear hr
            go_wp2
            go_roundw
            case rel => exact ⟨k + 1, by omega, by go_num, HK2, hB3, hB13, hBx3⟩
            case measure => simp [intOf]; omega
        · have HUL : Hid (unE zs L = true) := by
            show _ = _
            rw [HUE.out]
            refine List.all_eq_true.2 fun M hM => ?_
            obtain ⟨j, hj, rfl⟩ := mem_ent hM
            exact HK.out j (by omega)
          have HI2 : Hid (∀ j, j < i + 1 → unE zs (ent ls j) = true) := upto_step HI.out (by rw [HE.out]; exact HUL.out)
          obtain rfl : k = ms.length := by omega
          go_wp2
          go_roundw
          case rel => exact ⟨i + 1, by omega, by go_num, HI2, hB, hB1⟩
          case measure => simp [intOf]; omega
    · have HT : Hid (unB zs = true) := by
        show _ = _
        rw [HU.out]
        refine List.all_eq_true.2 fun M hM => ?_
        obtain ⟨j, hj, rfl⟩ := mem_ent hM
        exact HI.out j (by omega)
      obtain rfl : i = ls.length := by omega
      go_wp2
      go_ret
      exact ⟨by rw [HT.out]; rfl, hB⟩
set_option maxHeartbeats 1000000 in
theorem implUnitary_any (A : Option Addr) (n c : Nat) (zs : List (List Int)) (w : World) (h : RSS w A n zs) (hg : EtAt w) :
    Calls Tryz.prog 23 #[.slice A n c] w fun e w' => e = .returned (.bool (sgU zs)) ∧ Below w.heap.size w w' := by
  have hsg := told_any A n c zs w h hg
  clear h hg
  go_enter Tryz.func23, Tryz.ntmps23
  go_wp2_with fail
  refine hsg.mono ?_
  rintro e w1 ⟨v, rfl, hy, hno, hb⟩
  cases hS : sgS zs
  · obtain rfl := hno hS
    clear hy hno hsg
    go_wp2
    go_ret
    exact ⟨by unfold sgU; rw [hS]; rfl, hb⟩
  · obtain ⟨b, rfl, hbl, hown⟩ := hy hS
    have S := sgS_iff.1 hS
    have hu := unitary_any b (ent zs 0).length zs.length zs rfl (by have := S.most; omega) S.ch S.srt w1 hown
    have HS : Hid (sgU zs = unB zs) := by show _ = _; unfold sgU; rw [hS]; rfl
    clear hy hno hsg S hS
    go_wp2_with fail
    refine hu.mono ?_
    rintro e w2 ⟨rfl, hb2⟩
    go_wp2
    go_ret
    exact ⟨by rw [HS.out]; rfl, hb.trans (hb2.mono hb.size)⟩
end

end Go.Proofs.YtkfiehndlgplgaaGreatDoor
