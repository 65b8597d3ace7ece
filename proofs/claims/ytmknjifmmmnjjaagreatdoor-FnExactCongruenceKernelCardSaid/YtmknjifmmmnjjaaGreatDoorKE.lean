/-
  Kd.
-/
import Derived.Test.YtmknjifmmmnjjaaGreatDoorKD
namespace Go.Proofs.YtmknjifmmmnjjaaGreatDoor
set_option maxRecDepth 100000
set_option linter.unusedVariables false
set_option linter.unusedSimpArgs false
set_option linter.unusedSectionVars false

/-! spec.CongruenceIn. -/
section
open Go.RowKit

def adrV : Option Value → Addr
  | some (.slice (some a) _ _) => a
  | _ => ⟨0, 0, none⟩
def capV : Option Value → Nat
  | some (.slice _ _ c) => c
  | _ => 0
/-- the place of a product -/
def pT (zs : List (List Int)) (i j : Nat) : Nat := ixP zs (tiL (ent zs i) (ent zs j))
theorem pT_at {zs : List (List Int)} (S : Sg zs) {i j : Nat} (hi : i < zs.length) (hj : j < zs.length) : pT zs i j < zs.length ∧ fndI zs (tiL (ent zs i) (ent zs j)) = (pT zs i j : Int) := by
  have := ixP_mem S.srt (S.ti _ (ent_mem hi) _ (ent_mem hj))
  exact ⟨this.1, this.2.2⟩
theorem o3_is (zs : List (List Int)) (cs : List Int) (i k j : Nat) : o3B zs cs i k j = (decide (ofL cs (pT zs i j) = ofL cs (pT zs k j)) && decide (ofL cs (pT zs j i) = ofL cs (pT zs j k))) := rfl
theorem o2_yes {zs : List (List Int)} {cs : List Int} {i k : Nat} (hk : fsE (ofL cs) i = k) (h : ∀ j, j < zs.length → o3B zs cs i k j = true) : o2B zs cs i = true := by
  unfold o2B
  rw [Bool.or_eq_true, List.all_eq_true]
  exact .inr (fun j hj => by rw [hk]; exact h j (List.mem_range.1 hj))
theorem o2_self {zs : List (List Int)} {cs : List Int} {i : Nat} (hk : fsE (ofL cs) i = i) : o2B zs cs i = true := by
  unfold o2B; rw [decide_eq_true hk]; rfl
theorem o2_no {zs : List (List Int)} {cs : List Int} {i k j : Nat} (hk : fsE (ofL cs) i = k) (hki : k ≠ i) (hj : j < zs.length) (h : o3B zs cs i k j = false) : o2B zs cs i = false := by
  unfold o2B
  rw [Bool.or_eq_false_iff, hk, List.all_eq_false]
  exact ⟨decide_eq_false hki, j, List.mem_range.2 hj, by rw [h]; simp⟩
theorem cg_nsg {zs : List (List Int)} {cs : List Int} (h : sgS zs = false) : cgB zs cs = false := by unfold cgB; rw [h]; rfl
theorem cg_nlen {zs : List (List Int)} {cs : List Int} (h : cs.length ≠ zs.length) : cgB zs cs = false := by unfold cgB; rw [decide_eq_false h]; simp
theorem cg_nnu {zs : List (List Int)} {cs : List Int} (h : nuL (ofL cs) zs.length ≠ cs) : cgB zs cs = false := by unfold cgB; rw [decide_eq_false h]; simp
theorem cg_no {zs : List (List Int)} {cs : List Int} (hS : sgS zs = true) (hl : cs.length = zs.length) (hn : nuL (ofL cs) zs.length = cs) {i : Nat} (hi : i < zs.length) (h : o2B zs cs i = false) : cgB zs cs = false := by
  cases e : cgB zs cs
  · rfl
  · rw [(cgB_spec hS hl hn).1 e i hi] at h; cases h

set_option maxHeartbeats 4000000 in
theorem specCgIn_any (A C : Option Addr) (n c m d : Nat) (zs : List (List Int)) (cs : List Int) (w : World) (h : RSS w A n zs) (h' : RI w C m cs) (hn : n ≤ 1048576) (hl : ∀ L ∈ zs, L.length ≤ 1048576) (hm : m ≤ 1048576) :
    Calls Tryz.prog 75 #[.slice A n c, .slice C m d] w fun e w' => e = .returned (.bool (cgB zs cs)) ∧ Below w.heap.size w w' := by
  have hsg := specSg_any A n c zs w h hn hl
  have HL := Lib.hid h.len
  have HL' := Lib.hid h'.len
  cases hS : sgS zs
  · have HF := Lib.hid (cg_nsg (cs := cs) hS)
    rw [hS] at hsg
    clear h h' hl hS
    go_enter Tryz.func75, Tryz.ntmps75
    go_wp2_with fail
    refine hsg.mono ?_
    rintro e w1 ⟨rfl, hb⟩
    go_wp2
    go_ret
    exact ⟨by rw [HF.out]; try rfl, hb⟩
  · have HS := Lib.hid hS
    rw [hS] at hsg
    clear hS
    by_cases hmn : m = n
    · subst hmn
      have hmm : ((m : Int) != (m : Int)) = false := by simp
      have HR := Lib.hid h
      have HR' := Lib.hid h'
      clear h h' hl
      go_enter Tryz.func75, Tryz.ntmps75
      go_wp2_with fail
      refine hsg.mono ?_
      rintro e w1 ⟨rfl, hb⟩
      have HB1 := Lib.hid hb
      clear hb hsg
      go_wp2_with fail
      refine (l8Numbers_any C m d cs w1 (HR'.out.below HB1.out) hm).mono ?_
      rintro e w2 ⟨v, rfl, hown, hb⟩
      obtain ⟨Ag, cg, rfl⟩ := own_slice hown
      have hrn := RI.of_own hown
      have HB2 := Lib.hid (HB1.out.trans (hb.mono HB1.out.size))
      clear hb hown HB1
      go_wp2_with fail
      refine (l2Same_q Ag C m m cg d (nuL (ofL cs) m) cs w2 hrn (HR'.out.below HB2.out) hm).mono ?_
      rintro e w3 ⟨rfl, q3, rfl⟩
      have HB3 := Lib.hid (below_drewN HB2.out q3)
      clear hrn HB2
      by_cases hnu : nuL (ofL cs) m = cs
      · have HNU : Hid (nuL (ofL cs) zs.length = cs) := by show _ = _; rw [HL.out]; exact hnu
        rw [decide_eq_true hnu]
        clear hnu
        generalize w2.drewN q3 = w4 at *
        go_wp2_with fail
        refine (l8Table_any A m c zs w4 (HR.out.below HB3.out) HS.out).mono ?_
        rintro e w5 ⟨T, ct, rfl, hT, hb⟩
        have HB5 := Lib.hid (HB3.out.trans (hb.mono HB3.out.size))
        have S := sgS_iff.1 HS.out
        have h0 : 0 < m := by have := S.one; have := HL.out; omega
        obtain ⟨tt, _, _, rfl, _⟩ := hT.at_ h0
        obtain ⟨ac, rfl, _⟩ := (HR'.out.below HB5.out).at_ h0
        obtain ⟨TA, TC, HT⟩ : ∃ (TA : Nat → Addr) (TC : Nat → Nat), Hid (∀ q i j, i < m → j < m → (w5.drewN q).cell? (tt.add i) = some (.slice (some (TA i)) m (TC i)) ∧ (w5.drewN q).cell? ((TA i).add j) = some (.int .i64 (pT zs i j : Nat)) ∧ pT zs i j < m ∧ (w5.drewN q).cell? (ac.add (pT zs i j)) = some (.int .i64 (ofL cs (pT zs i j)))) := by
          refine ⟨fun i => adrV (w5.cell? (tt.add i)), fun i => capV (w5.cell? (tt.add i)), fun q i j hi hj => ?_⟩
          have hiz : i < zs.length := by have := HL.out; omega
          have hjz : j < zs.length := by have := HL.out; omega
          obtain ⟨t2, Ai, ci, e2, _, hc, hr⟩ := hT.at_ hi
          obtain rfl := Option.some.inj e2
          rw [show (tabL zs)[i]?.getD [] = tabR zs i by rw [tabL_get hiz]; rfl, tabR_len, HL.out] at hc hr
          obtain ⟨ai, rfl, _, hcj⟩ := hr.at_ hj
          obtain ⟨hp, hf⟩ := pT_at S hiz hjz
          rw [tabR_get hjz, hf] at hcj
          have hpm : pT zs i j < m := by rw [← HL.out]; exact hp
          obtain ⟨a2, e3, _, hcp⟩ := (HR'.out.below HB5.out).at_ hpm
          obtain rfl := Option.some.inj e3
          have h1 : adrV (w5.cell? (tt.add i)) = ai := by rw [hc]; rfl
          have h2 : capV (w5.cell? (tt.add i)) = ci := by rw [hc]; rfl
          dsimp only
          rw [h1, h2]
          exact ⟨hc, hcj, hpm, hcp⟩
        have HC : Hid (∀ q j, j < m → (w5.drewN q).cell? (ac.add j) = some (.int .i64 (ofL cs j))) := fun q j hj => by
          obtain ⟨a2, e3, _, hcp⟩ := (HR'.out.below HB5.out).at_ hj
          obtain rfl := Option.some.inj e3
          exact hcp
        have HNO := Lib.hid (fun (i : Nat) (hi : i < m) => cg_no (i := i) HS.out (HL'.out.trans HL.out.symm) HNU.out (by rw [HL.out]; exact hi))
        have HYES : Hid ((∀ i, i < m → o2B zs cs i = true) → cgB zs cs = true) := fun hall => (cgB_spec HS.out (HL'.out.trans HL.out.symm) HNU.out).2 (by rw [HL.out]; exact hall)
        have HM : Hid (zs.length = m) := HL.out
        have HBQ : Hid (∀ q, Below w.heap.size w (w5.drewN q)) := fun q => below_drewN HB5.out q
        clear hb hT S HB3 HB5 HS HNU
        go_wp2
        go_loopw [6] (fun s wr => ∃ i : Nat, i ≤ m ∧ s = .int .i64 (i : Int) ∧ Hid (∀ i', i' < i → o2B zs cs i' = true) ∧ ∃ q, wr = w5.drewN q) (fun s _ => m - (intOf s).toNat)
        case atStart => exact ⟨0, Nat.zero_le _, rfl, Lib.hid (fun j hj => absurd hj (Nat.not_lt_zero _)), 0, rfl⟩
        case round =>
          obtain ⟨i, him, rfl, HI, q, hw⟩ := hrel
          by_cases hlt : i < m
          · have hii : (i : Int) < (m : Int) := by omega
            have HW := Lib.hid hw
            clear hw
            go_wp2
            go_loopw [7] (fun s wq => ∃ k : Nat, k ≤ i + 1 ∧ s = .int .i64 (k : Int) ∧ Hid ((k ≤ i ∧ ∀ j, j < k → ofL cs j ≠ ofL cs i) ∨ (k = i + 1 ∧ o2B zs cs i = true)) ∧ ∃ q, wq = w5.drewN q) (fun s _ => i + 1 - (intOf s).toNat)
            case atStart => exact ⟨0, Nat.zero_le _, rfl, Lib.hid (.inl ⟨Nat.zero_le _, fun j hj => absurd hj (Nat.not_lt_zero _)⟩), _, HW.out⟩
            case round =>
              clear HW q
              obtain ⟨k, hk1, rfl, HK, q, hw⟩ := hrel
              by_cases hki : k < i
              · have hkk : (k : Int) < (i : Int) := by omega
                have hkm : (k : Int) < (m : Int) := by omega
                have HN : Hid (∀ j, j < k → ofL cs j ≠ ofL cs i) := by
                  rcases HK.out with h | h
                  · exact h.2
                  · have := h.1; omega
                have a1 := HC.out q i hlt
                have a2 := HC.out q k (by omega)
                rw [← hw] at a1 a2
                have HW := Lib.hid hw
                clear hw HK
                by_cases he : ofL cs k = ofL cs i
                · have hc : ((ofL cs i : Int) != ofL cs k) = false := by simp [he]
                  have HFE : Hid (fsE (ofL cs) i = k) := fsE_is (by omega) he HN.out
                  clear he
                  generalize ofL cs k = x at *
                  generalize hyy : ofL cs i = y at *
                  clear hyy HN
                  go_wp2
                  go_quiet (fail)
                  all_goals go_wp2
                  obtain ⟨q2, hw2⟩ := drawn_on HW.out nq
                  have HW2 := Lib.hid hw2
                  clear hw2 a1 a2 hc
                  go_loopw [8] (fun s wz => ∃ j : Nat, j ≤ m ∧ s = .int .i64 (j : Int) ∧ Hid (∀ j', j' < j → o3B zs cs i k j' = true) ∧ ∃ q, wz = w5.drewN q) (fun s _ => m - (intOf s).toNat)
                  case atStart => exact ⟨0, Nat.zero_le _, rfl, Lib.hid (fun j hj => absurd hj (Nat.not_lt_zero _)), q2, HW2.out⟩
                  case round =>
                    obtain ⟨j, hjm, rfl, HJ, q4, hw⟩ := hrel
                    by_cases hjl : j < m
                    · have hjj : (j : Int) < (m : Int) := by omega
                      obtain ⟨c1, c2, c3, c4⟩ := HT.out q4 i j hlt hjl
                      obtain ⟨d1, d2, d3, d4⟩ := HT.out q4 k j (by omega) hjl
                      obtain ⟨e1, e2, e3, e4⟩ := HT.out q4 j i hjl hlt
                      obtain ⟨_, f2, f3, f4⟩ := HT.out q4 j k hjl (by omega)
                      have hBz := HBQ.out q4
                      rw [← hw] at c1 c2 c4 d1 d2 d4 e1 e2 e4 f2 f4 hBz
                      have HWz := Lib.hid hw
                      have HO3 := Lib.hid (o3_is zs cs i k j)
                      have HBZ := Lib.hid hBz
                      have HNF : Hid (o3B zs cs i k j = false → cgB zs cs = false) := fun hf => HNO.out i hlt (o2_no HFE.out (by omega) (by rw [HM.out]; exact hjl) hf)
                      clear hw hBz
                      generalize pT zs i j = p1 at *
                      generalize pT zs k j = p2 at *
                      generalize pT zs j i = p3 at *
                      generalize pT zs j k = p4 at *
                      have g1 : (p1 : Int) < (m : Int) := by omega
                      have g2 : (p2 : Int) < (m : Int) := by omega
                      have g3 : (p3 : Int) < (m : Int) := by omega
                      have g4 : (p4 : Int) < (m : Int) := by omega
                      generalize ofL cs p1 = x1 at *
                      generalize ofL cs p2 = x2 at *
                      generalize ofL cs p3 = x3 at *
                      generalize ofL cs p4 = x4 at *
                      by_cases hx1 : x1 = x2
                      · have b1 : ((x1 : Int) != x2) = false := by simp [hx1]
                        by_cases hx2 : x3 = x4
                        · have b2 : ((x3 : Int) != x4) = false := by simp [hx2]
                          have HJ2 : Hid (∀ j', j' < j + 1 → o3B zs cs i k j' = true) := upto_step HJ.out (by rw [HO3.out, decide_eq_true hx1, decide_eq_true hx2]; rfl)
                          clear hx1 hx2
                          go_wp2
                          go_quiet (fail)
                          all_goals go_wp2
                          go_roundw
                          case rel => exact ⟨j + 1, by omega, by go_num, HJ2, drawn_on HWz.out _⟩
                          case measure => simp [intOf]; omega
                        · have b2 : ((x3 : Int) != x4) = true := by simp [hx2]
                          have HF := Lib.hid (HNF.out (by rw [HO3.out, decide_eq_false hx2]; simp))
                          clear hx1 hx2
                          go_wp2
                          go_quiet (fail)
                          all_goals go_wp2
                          go_ret
                          exact ⟨by rw [HF.out]; try rfl, below_drewN HBZ.out _⟩
                      · have b1 : ((x1 : Int) != x2) = true := by simp [hx1]
                        have HF := Lib.hid (HNF.out (by rw [HO3.out, decide_eq_false hx1]; simp))
                        clear hx1
                        go_wp2
                        go_quiet (fail)
                        all_goals go_wp2
                        go_ret
                        exact ⟨by rw [HF.out]; try rfl, below_drewN HBZ.out _⟩
                    · have hjj : ¬ (j : Int) < (m : Int) := by omega
                      have HO2 := Lib.hid (o2_yes HFE.out (fun j' hj' => HJ.out j' (by rw [HM.out] at hj'; omega)))
                      have HWz := Lib.hid hw
                      clear hw
                      go_wp2
                      go_roundw
                      case rel => exact ⟨i + 1, by omega, by go_num, Lib.hid (.inr ⟨rfl, HO2.out⟩), _, HWz.out⟩
                      case measure => simp [intOf]; omega
                · have hc : ((ofL cs i : Int) != ofL cs k) = true := by simp; exact fun e => he e.symm
                  have HN2 : Hid (∀ j, j < k + 1 → ofL cs j ≠ ofL cs i) := fun j hj => by
                    rcases Nat.lt_or_ge j k with h | h
                    · exact HN.out j h
                    · rw [show j = k by omega]; exact he
                  clear he
                  generalize ofL cs k = x at *
                  generalize hyy : ofL cs i = y at *
                  clear hyy HN
                  go_wp2
                  go_quiet (fail)
                  all_goals go_wp2
                  go_roundw
                  case rel => exact ⟨k + 1, by omega, by go_num, Lib.hid (.inl ⟨by omega, HN2.out⟩), drawn_on HW.out _⟩
                  case measure => simp [intOf]; omega
              · have hkk : ¬ (k : Int) < (i : Int) := by omega
                have HI2 : Hid (∀ i', i' < i + 1 → o2B zs cs i' = true) := upto_step HI.out (by
                  rcases HK.out with h | h
                  · exact o2_self (fsE_is (Nat.le_refl _) rfl (fun j hj => h.2 j (by omega)))
                  · exact h.2)
                have HW := Lib.hid hw
                clear hw HK
                go_wp2
                go_roundw
                case rel => exact ⟨i + 1, by omega, by go_num, HI2, _, HW.out⟩
                case measure => simp [intOf]; omega
          · have hii : ¬ (i : Int) < (m : Int) := by omega
            obtain rfl : i = m := by omega
            have HT2 := Lib.hid (HYES.out HI.out)
            have hB := HBQ.out q
            rw [← hw] at hB
            clear hw
            go_wp2
            go_ret
            exact ⟨by rw [HT2.out]; try rfl, hB⟩
      · have HF : Hid (cgB zs cs = false) := cg_nnu (by rw [HL.out]; exact hnu)
        rw [decide_eq_false hnu]
        clear hnu
        go_wp2
        go_ret
        exact ⟨by rw [HF.out]; try rfl, HB3.out⟩
    · have hmm : ((m : Int) != (n : Int)) = true := by simp; omega
      have HF : Hid (cgB zs cs = false) := cg_nlen (by rw [h.len, h'.len]; exact hmn)
      clear h h' hl hmn
      go_enter Tryz.func75, Tryz.ntmps75
      go_wp2_with fail
      refine hsg.mono ?_
      rintro e w1 ⟨rfl, hb⟩
      go_wp2
      go_ret
      exact ⟨by rw [HF.out]; try rfl, hb⟩
end

end Go.Proofs.YtmknjifmmmnjjaaGreatDoor
