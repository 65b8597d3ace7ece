/-
  Swp.
-/
import Derived.Deep.RegionHeld3
import Derived.Test.YtigapanfihpgaaaGreatDoorNU
import Derived.Test.YtigapanfihpgaaaGreatDoorNV
namespace Go.Proofs.YtigapanfihpgaaaGreatDoor
set_option maxRecDepth 100000
set_option linter.unusedVariables false
set_option linter.unusedSimpArgs false
set_option linter.unusedSectionVars false

/-! SemigroupSwaps (spec). -/
section
open Go.RowKit Go.Maps

def swE (zs : List (List Int)) (e : List Int) : Bool := zs.all (fun c => decide (tiL e c = tiL c e))
def swB (zs : List (List Int)) : Bool := (zs.filter idB).all (swE zs)
def sgW (zs : List (List Int)) : Bool := sgS zs && swB zs
def swP (zs : List (List Int)) (i k : Nat) : Prop := idB (ent zs i) = true → tiL (ent zs i) (ent zs k) = tiL (ent zs k) (ent zs i)
theorem swB_no {zs : List (List Int)} {i k : Nat} (hi : i < zs.length) (hk : k < zs.length) (h1 : idB (ent zs i) = true) (h2 : decide (tiL (ent zs i) (ent zs k) = tiL (ent zs k) (ent zs i)) = false) : swB zs = false :=
  all_no (List.mem_filter.2 ⟨ent_mem hi, h1⟩) (all_no (ent_mem hk) h2)
theorem swB_yes {zs : List (List Int)} (h : ∀ i, i < zs.length → ∀ k, k < zs.length → swP zs i k) : swB zs = true := by
  refine List.all_eq_true.2 fun e he => List.all_eq_true.2 fun f hf => ?_
  obtain ⟨h1, h2⟩ := List.mem_filter.1 he
  obtain ⟨i, hi, rfl⟩ := mem_ent h1
  obtain ⟨k, hk, rfl⟩ := mem_ent hf
  exact decide_eq_true (h i hi k hk h2)
theorem ri_keep {W W0 W1 : World} {A : Option Addr} {n : Nat} {zs : List Int} (hb : Below W0.heap.size W0 W1) (h : RI W A n zs) (eh : W0.heap = W.heap) : RI W1 A n zs := (h.heap eh).below hb
theorem cell_keep {W W0 W1 : World} {a : Addr} {v : Value} (hb : Below W0.heap.size W0 W1) (h : W.cell? a = some v) (eh : W0.heap = W.heap) : W1.cell? a = some v := by
  have h0 : W0.cell? a = some v := by
    cases W0; cases W; simp only at eh; subst eh; exact h
  exact (hb.cell (block_lt_of_cell h0)).trans h0
set_option maxHeartbeats 2000000 in
theorem specSwaps_any (A : Option Addr) (n c : Nat) (zs : List (List Int)) (w : World) (h : RSS w A n zs) (hn : n ≤ 1048576) (hl : ∀ L ∈ zs, L.length ≤ 1048576) :
    Calls Tryz.prog 46 #[.slice A n c] w fun e w' => e = .returned (.bool (sgW zs)) ∧ Below w.heap.size w w' := by
  have hsg := specSg_any A n c zs w h hn hl
  cases hS : sgS zs
  · have HF : Hid (sgW zs = false) := by show _ = _; unfold sgW; rw [hS]; rfl
    rw [hS] at hsg
    clear hS h hl
    go_enter Tryz.func46, Tryz.ntmps46
    go_wp2_with fail
    refine hsg.mono ?_
    rintro e w1 ⟨rfl, hb⟩
    go_wp2
    go_ret
    exact ⟨by rw [HF.out]; rfl, hb⟩
  · have HU : Hid (sgW zs = swB zs) := by show _ = _; unfold sgW; rw [hS]; rfl
    rw [hS] at hsg
    have S := sgS_iff.1 hS
    have HCH := Lib.hid S.ch
    have HL := Lib.hid h.len
    have HR := Lib.hid h
    clear hS h hl S
    go_enter Tryz.func46, Tryz.ntmps46
    go_wp2_with fail
    refine hsg.mono ?_
    rintro e w1 ⟨rfl, hb⟩
    clear hsg
    go_wp2
    go_loopw [3] (fun s wr => ∃ i : Nat, i ≤ n ∧ s = .int .i64 (i : Int) ∧ Hid (∀ j, j < i → ∀ l, l < n → swP zs j l) ∧ Below w.heap.size w wr) (fun s _ => n - (intOf s).toNat)
    case atStart => exact ⟨0, Nat.zero_le _, rfl, Lib.hid (fun j hj => absurd hj (Nat.not_lt_zero _)), hb⟩
    case round =>
      clear hb
      obtain ⟨i, hi, rfl, HI, hB⟩ := hrel
      by_cases hlti : i < n
      · have hil : i < zs.length := by have := HL.out; omega
        go_wp2
        go_loopw [4] (fun s wq => ∃ k : Nat, k ≤ n ∧ s = .int .i64 (k : Int) ∧ Hid (∀ j, j < k → swP zs i j) ∧ Below w.heap.size w wq) (fun s _ => n - (intOf s).toNat)
        case atStart => exact ⟨0, Nat.zero_le _, rfl, Lib.hid (fun j hj => absurd hj (Nat.not_lt_zero _)), hB⟩
        case round =>
          clear hB
          obtain ⟨k, hk, rfl, HK, hB⟩ := hrel
          by_cases hltk : k < n
          · have hkl : k < zs.length := by have := HL.out; omega
            have hR := HR.out.below hB
            obtain ⟨ad, Ai, ci, rfl, hab, hci, hri⟩ := hR.at_ hlti
            obtain ⟨ad', Ak, ck, he, hab', hck, hrk⟩ := hR.at_ hltk
            obtain rfl := Option.some.inj he
            have hei : zs[i]?.getD [] = ent zs i := rfl
            have hek : zs[k]?.getD [] = ent zs k := rfl
            have e1 := HCH.out _ (ent_mem hil)
            have e2 := HCH.out _ (ent_mem hkl)
            rw [hei, e1.2] at hci hri
            rw [hek, e2.2] at hck hrk
            have HP1 := Lib.hid (isP_of e1.1 e2.1 (e1.2.trans e2.2.symm))
            have HP2 := Lib.hid (isP_of e2.1 e1.1 (e2.2.trans e1.2.symm))
            have HCI := Lib.hid e1.1
            have hT1 : (tiL (ent zs i) (ent zs k)).length = (ent zs 0).length := (tiL_len HP1.out).trans e1.2
            have hT2 : (tiL (ent zs k) (ent zs i)).length = (ent zs 0).length := (tiL_len HP2.out).trans e2.2
            have hm6 : (tiL (ent zs i) (ent zs k)).length ≤ 1048576 := by have := (isC_len e1.1).2; omega
            have HNO := Lib.hid (swB_no hil hkl)
            have HST : Hid (swP zs i k → ∀ j, j < k + 1 → swP zs i j) := fun hp => upto_step HK.out hp
            have HPD : Hid (swP zs i k = (idB (ent zs i) = true → tiL (ent zs i) (ent zs k) = tiL (ent zs k) (ent zs i))) := rfl
            have HC0 : Hid (∀ j, Calls Tryz.prog 89 #[.slice Ai (ent zs 0).length ci] (wr.drewN j) fun e w' => e = .returned (.bool (idB (ent zs i))) ∧ ∃ m, w' = wr.drewN m) := fun j => (l1Idem_c _ _ _ _ _ (hri.drawn j) e1.1).mono fun e w' h => ⟨h.1, by obtain ⟨q, hq⟩ := h.2; exact ⟨j + q, by rw [hq]; exact World.drewN_drewN _ _ _⟩⟩
            clear hei hek e1 e2 he hab hab' hkl hR
            have HT1 := Lib.hid hT1
            have HT2 := Lib.hid hT2
            clear hT1 hT2
            generalize (ent zs 0).length = l0 at *
            generalize swP zs i k = P0 at HST HPD
            cases hr0 : idB (ent zs i)
            · have HS1 := Lib.hid (HST.out (by rw [HPD.out, hr0]; intro h; cases h))
              rw [hr0] at HC0
              clear hr0 hri hrk
              go_wp2
              go_quiet (with_reducible exact HC0.out _)
              all_goals go_wp2
              all_goals go_roundw
              case rel => exact ⟨k + 1, by omega, by go_num, HS1, below_drewN hB _⟩
              case measure => simp [intOf]; omega
            · have HR0 := Lib.hid hr0
              clear hr0 HC0
              have hBs := hB.size
              go_wp2
              have tok1 : True := trivial
              have tok2 : True := trivial
              have tok3 : True := trivial
              have tok4 : True := trivial
              go_region_held3 (fun w' => w'.cell? (ad.add i) = some (.slice Ai l0 ci) ∧ w'.cell? (ad.add k) = some (.slice Ak l0 ck))
                (first | exact ⟨by assumption, by assumption⟩ | go_keep)
                (first
                  | (go_at_call 89
                     have _t := tok1
                     with_reducible refine (l1Idem_c Ai l0 ci (ent zs i) _ ?_ HCI.out).mono ?_
                     · exact hri.heap rfl
                     rintro e w1 ⟨rfl, hq1⟩
                     rw [HR0.out]
                     have hb1 := below_of_drewN hq1
                     have hci := cell_keep hb1 hci rfl
                     have hck := cell_keep hb1 hck rfl
                     have hri := ri_keep hb1 hri rfl
                     have hrk := ri_keep hb1 hrk rfl
                     have hB := bel_keep hb1 hB rfl rfl rfl rfl hB.size
                     clear tok1 _t hb1 hq1)
                  | (go_at_call 84
                     have _t := tok2
                     with_reducible refine (l1Ti_any Ai Ak l0 ci ck (ent zs i) (ent zs k) _ ?_ ?_ HP1.out).mono ?_
                     · exact hri.heap rfl
                     · exact hrk.heap rfl
                     rintro e w1 ⟨v1, rfl, hown1, hb1⟩
                     obtain ⟨B1, c1, rfl⟩ := own_slice hown1
                     have hrT1 := RI.of_own hown1
                     have hci := cell_keep hb1 hci rfl
                     have hck := cell_keep hb1 hck rfl
                     have hri := ri_keep hb1 hri rfl
                     have hrk := ri_keep hb1 hrk rfl
                     have hB := bel_keep hb1 hB rfl rfl rfl rfl hB.size
                     try have hrT2 := ri_keep hb1 hrT2 rfl
                     clear tok2 _t hown1 hb1)
                  | (go_at_call 84
                     have _t := tok3
                     with_reducible refine (l1Ti_any Ak Ai l0 ck ci (ent zs k) (ent zs i) _ ?_ ?_ HP2.out).mono ?_
                     · exact hrk.heap rfl
                     · exact hri.heap rfl
                     rintro e w1 ⟨v2, rfl, hown2, hb1⟩
                     obtain ⟨B2, c2, rfl⟩ := own_slice hown2
                     have hrT2 := RI.of_own hown2
                     have hci := cell_keep hb1 hci rfl
                     have hck := cell_keep hb1 hck rfl
                     have hri := ri_keep hb1 hri rfl
                     have hrk := ri_keep hb1 hrk rfl
                     have hB := bel_keep hb1 hB rfl rfl rfl rfl hB.size
                     try have hrT1 := ri_keep hb1 hrT1 rfl
                     clear tok3 _t hown2 hb1)
                  | (go_at_call 92
                     have _t := tok4
                     with_reducible refine (l2Same_q B1 B2 (tiL (ent zs i) (ent zs k)).length (tiL (ent zs k) (ent zs i)).length c1 c2 (tiL (ent zs i) (ent zs k)) (tiL (ent zs k) (ent zs i)) _ ?_ ?_ hm6).mono ?_
                     · exact hrT1.heap rfl
                     · exact hrT2.heap rfl
                     rintro e w1 ⟨rfl, hq1⟩
                     have hb1 := below_of_drewN hq1
                     have hci := cell_keep hb1 hci rfl
                     have hck := cell_keep hb1 hck rfl
                     have hB := bel_keep hb1 hB rfl rfl rfl rfl hB.size
                     clear tok4 _t hb1 hq1))
              all_goals
                generalize hd : decide (tiL (ent zs i) (ent zs k) = tiL (ent zs k) (ent zs i)) = r
                cases r
                · have HF := Lib.hid (HNO.out HR0.out hd)
                  clear hd
                  go_wp2
                  go_ret
                  exact ⟨by rw [HU.out, HF.out]; rfl, hB⟩
                · have HS1 := Lib.hid (HST.out (by rw [HPD.out]; intro _; exact of_decide_eq_true hd))
                  clear hd
                  go_wp2
                  go_roundw
                  case rel => exact ⟨k + 1, by omega, by go_num, HS1, hB⟩
                  case measure => simp [intOf]; omega
          · obtain rfl : k = n := by omega
            go_wp2
            go_roundw
            case rel => exact ⟨i + 1, by omega, by go_num, upto_step HI.out HK.out, hB⟩
            case measure => simp [intOf]; omega
      · obtain rfl : i = n := by omega
        have HF : Hid (swB zs = true) := swB_yes (by rw [HL.out]; exact HI.out)
        go_wp2
        go_ret
        exact ⟨by rw [HU.out, HF.out]; rfl, hB⟩
end

end Go.Proofs.YtigapanfihpgaaaGreatDoor
