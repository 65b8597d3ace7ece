/-
  Uni.
-/
import Derived.Test.YtigapanfihpgaaaGreatDoorMC
import Derived.Test.YtigapanfihpgaaaGreatDoorNS
namespace Go.Proofs.YtigapanfihpgaaaGreatDoor
set_option maxRecDepth 100000
set_option linter.unusedVariables false
set_option linter.unusedSimpArgs false
set_option linter.unusedSectionVars false

/-! SemigroupUnitary, both sides. -/
section
open Go.RowKit Go.Maps

/-- what is above e is such, too -/
def unE (zs : List (List Int)) (e : List Int) : Bool := (zs.filter (beB e)).all idB
def unB (zs : List (List Int)) : Bool := (zs.filter idB).all (unE zs)
theorem unB_no {zs : List (List Int)} {i k : Nat} (hi : i < zs.length) (hk : k < zs.length) (h1 : idB (ent zs i) = true) (h2 : beB (ent zs i) (ent zs k) = true) (h3 : idB (ent zs k) = false) : unB zs = false := by
  cases hc : unB zs
  · rfl
  · have a := List.all_eq_true.1 hc (ent zs i) (List.mem_filter.2 ⟨ent_mem hi, h1⟩)
    have b := List.all_eq_true.1 a (ent zs k) (List.mem_filter.2 ⟨ent_mem hk, h2⟩)
    rw [h3] at b; cases b
def unP (zs : List (List Int)) (i k : Nat) : Prop := idB (ent zs i) = true → beB (ent zs i) (ent zs k) = true → idB (ent zs k) = true
theorem unB_yes {zs : List (List Int)} (h : ∀ i, i < zs.length → ∀ k, k < zs.length → unP zs i k) : unB zs = true := by
  refine List.all_eq_true.2 fun e he => List.all_eq_true.2 fun f hf => ?_
  obtain ⟨h1, h2⟩ := List.mem_filter.1 he
  obtain ⟨h3, h4⟩ := List.mem_filter.1 hf
  obtain ⟨i, hi, rfl⟩ := mem_ent h1
  obtain ⟨k, hk, rfl⟩ := mem_ent h3
  exact h i hi k hk h2 h4
def sgU (zs : List (List Int)) : Bool := sgS zs && unB zs

set_option maxHeartbeats 1000000 in
theorem l1Below_q (A B : Option Addr) (n c d : Nat) (zs ys : List Int) (w : World) (h : RI w A n zs) (h' : RI w B n ys) (hn : n ≤ 6) (hE : Ent n zs) :
    Calls Tryz.prog 76 #[.slice A n c, .slice B n d] w fun e w' => e = .returned (.bool (blK (ofL zs) (ofL ys) n)) ∧ ∃ q, w' = w.drewN q := by
  go_enter Tryz.func76, Tryz.ntmps76
  go_wp2
  go_loopw [5] (fun i wr => ∃ k : Nat, k ≤ n ∧ i = .int .i64 k ∧ Hid (blK (ofL zs) (ofL ys) k = true) ∧ ∃ q, wr = w.drewN q) (fun i _ => n - (intOf i).toNat)
  case atStart => exact ⟨0, Nat.zero_le _, rfl, Lib.hid rfl, 0, rfl⟩
  case round =>
    obtain ⟨k, hk, rfl, HT, q, hw⟩ := hrel
    have hR : RI wr A n zs := by rw [hw]; exact h.drawn q
    have hR' : RI wr B n ys := by rw [hw]; exact h'.drawn q
    have HW := Lib.hid hw
    clear hw h h'
    by_cases hlt : k < n
    · obtain ⟨ad, rfl, hab, g⟩ := hR.at_ hlt
      obtain ⟨ad', rfl, hab', g'⟩ := hR'.at_ hlt
      have hz := hE k hlt
      have hof : ofL zs k = zs[k]?.getD 0 := rfl
      have hof' : ofL ys k = ys[k]?.getD 0 := rfl
      generalize zs[k]?.getD 0 = z at g hof hz
      generalize ys[k]?.getD 0 = y at g' hof'
      clear hR hR' hab hab'
      by_cases hz0 : 0 ≤ z
      · by_cases he : z = y
        · have hb : (z != y) = false := by simp [he]
          have HM : Hid (blK (ofL zs) (ofL ys) (k + 1) = true) := by show _ = _; simp [blK, HT.out, hof, hof', he]
          clear he hof hof' hz
          go_wp2
          go_quiet (fail)
          all_goals go_wp2
          go_roundw
          case rel => exact ⟨k + 1, by omega, by go_num, HM, drawn_on HW.out _⟩
          case measure => simp [intOf]; omega
        · have hb : (z != y) = true := by simp [he]
          have HM : Hid (blK (ofL zs) (ofL ys) n = false) := blK_mono (k := k + 1) (by omega) (by
            simp only [blK, HT.out, hof, hof', Bool.true_and, Bool.or_eq_false_iff]
            exact ⟨decide_eq_false (by omega), decide_eq_false he⟩)
          clear he hof hof' hz
          go_wp2
          go_quiet (fail)
          all_goals go_wp2
          go_ret
          exact ⟨by rw [HM.out]; rfl, drawn_on HW.out _⟩
      · have hd : decide (0 ≤ z) = false := by simpa using hz0
        have HM : Hid (blK (ofL zs) (ofL ys) (k + 1) = true) := by show _ = _; simp [blK, HT.out, hof]; left; omega
        clear hof hof' hz hz0
        go_wp2
        go_quiet (fail)
        all_goals go_wp2
        go_roundw
        case rel => exact ⟨k + 1, by omega, by go_num, HM, drawn_on HW.out _⟩
        case measure => simp [intOf]; omega
    · obtain rfl : k = n := by omega
      go_wp2
      go_ret
      exact ⟨by rw [HT.out]; rfl, q, HW.out⟩

theorem l1Below_c (A B : Option Addr) (n c d : Nat) (L M : List Int) (w : World) (h : RI w A n L) (h' : RI w B n M) (hP : isP L M = true) :
    Calls Tryz.prog 76 #[.slice A n c, .slice B n d] w fun e w' => e = .returned (.bool (beB L M)) ∧ ∃ q, w' = w.drewN q := by
  obtain rfl := h.len
  have p := isP_yes hP
  have := l1Below_q A B _ c d L M w h h' (isC_len p.1).2 (isC_ent p.1)
  have e : beB L M = blK (ofL L) (ofL M) L.length := by unfold beB; rw [hP, Bool.true_and]
  rw [e]; exact this
theorem l1Idem_c (A : Option Addr) (n c : Nat) (L : List Int) (w : World) (h : RI w A n L) (hC : isC L = true) :
    Calls Tryz.prog 89 #[.slice A n c] w fun e w' => e = .returned (.bool (idB L)) ∧ ∃ q, w' = w.drewN q := by
  obtain rfl := h.len
  have := l1Idem_any A _ c L w h (isC_len hC).2 (isC_ent hC)
  rw [idB_of hC] at this
  exact this.mono fun e w' h => ⟨h.1, 0, h.2.symm⟩
set_option maxHeartbeats 2000000 in
theorem specUnitary_any (A : Option Addr) (n c : Nat) (zs : List (List Int)) (w : World) (h : RSS w A n zs) (hn : n ≤ 1048576) (hl : ∀ L ∈ zs, L.length ≤ 1048576) :
    Calls Tryz.prog 42 #[.slice A n c] w fun e w' => e = .returned (.bool (sgU zs)) ∧ Below w.heap.size w w' := by
  have hsg := specSg_any A n c zs w h hn hl
  cases hS : sgS zs
  · have HF : Hid (sgU zs = false) := by show _ = _; unfold sgU; rw [hS]; rfl
    rw [hS] at hsg
    clear hS h hl
    go_enter Tryz.func42, Tryz.ntmps42
    go_wp2_with fail
    refine hsg.mono ?_
    rintro e w1 ⟨rfl, hb⟩
    go_wp2
    go_ret
    exact ⟨by rw [HF.out]; rfl, hb⟩
  · have HU : Hid (sgU zs = unB zs) := by show _ = _; unfold sgU; rw [hS]; rfl
    rw [hS] at hsg
    have S := sgS_iff.1 hS
    have HCH := Lib.hid S.ch
    have HL := Lib.hid h.len
    have HR := Lib.hid h
    clear hS h hl S
    go_enter Tryz.func42, Tryz.ntmps42
    go_wp2_with fail
    refine hsg.mono ?_
    rintro e w1 ⟨rfl, hb⟩
    clear hsg
    go_wp2
    go_loopw [3] (fun s wr => ∃ i : Nat, i ≤ n ∧ s = .int .i64 (i : Int) ∧ Hid (∀ j, j < i → ∀ l, l < n → unP zs j l) ∧ Below w.heap.size w wr) (fun s _ => n - (intOf s).toNat)
    case atStart => exact ⟨0, Nat.zero_le _, rfl, Lib.hid (fun j hj => absurd hj (Nat.not_lt_zero _)), hb⟩
    case round =>
      clear hb
      obtain ⟨i, hi, rfl, HI, hB⟩ := hrel
      by_cases hlti : i < n
      · have hil : i < zs.length := by have := HL.out; omega
        go_wp2
        go_loopw [4] (fun s wq => ∃ k : Nat, k ≤ n ∧ s = .int .i64 (k : Int) ∧ Hid (∀ j, j < k → unP zs i j) ∧ Below w.heap.size w wq) (fun s _ => n - (intOf s).toNat)
        case atStart => exact ⟨0, Nat.zero_le _, rfl, Lib.hid (fun j hj => absurd hj (Nat.not_lt_zero _)), hB⟩
        case round =>
          clear hB
          obtain ⟨k, hk, rfl, HK, hB⟩ := hrel
          by_cases hltk : k < n
          · have hkl : k < zs.length := by have := HL.out; omega
            have hR := HR.out.below hB
            obtain ⟨ad, Ai, ci, rfl, hab, hci, hri⟩ := hR.at_ hlti
            obtain ⟨ad', Ak, ck, he, hab', hck, hrk⟩ := hR.at_ hltk
            obtain rfl := Option.some.inj he
            have hei : zs[i]?.getD [] = ent zs i := rfl
            have hek : zs[k]?.getD [] = ent zs k := rfl
            have e1 := HCH.out _ (ent_mem hil)
            have e2 := HCH.out _ (ent_mem hkl)
            rw [hei, e1.2] at hci hri
            rw [hek, e2.2] at hck hrk
            have HPP := Lib.hid (isP_of e1.1 e2.1 (e1.2.trans e2.2.symm))
            have HC0 : Hid (∀ j, Calls Tryz.prog 89 #[.slice Ai (ent zs 0).length ci] (wr.drewN j) fun e w' => e = .returned (.bool (idB (ent zs i))) ∧ ∃ m, w' = wr.drewN m) := fun j => (l1Idem_c _ _ _ _ _ (hri.drawn j) e1.1).mono fun e w' h => ⟨h.1, by obtain ⟨q, hq⟩ := h.2; exact ⟨j + q, by rw [hq]; exact World.drewN_drewN _ _ _⟩⟩
            have HC1 : Hid (∀ j, Calls Tryz.prog 76 #[.slice Ai (ent zs 0).length ci, .slice Ak (ent zs 0).length ck] (wr.drewN j) fun e w' => e = .returned (.bool (beB (ent zs i) (ent zs k))) ∧ ∃ m, w' = wr.drewN m) := fun j => (l1Below_c _ _ _ _ _ _ _ _ (hri.drawn j) (hrk.drawn j) HPP.out).mono fun e w' h => ⟨h.1, by obtain ⟨q, hq⟩ := h.2; exact ⟨j + q, by rw [hq]; exact World.drewN_drewN _ _ _⟩⟩
            have HC2 : Hid (∀ j, Calls Tryz.prog 89 #[.slice Ak (ent zs 0).length ck] (wr.drewN j) fun e w' => e = .returned (.bool (idB (ent zs k))) ∧ ∃ m, w' = wr.drewN m) := fun j => (l1Idem_c _ _ _ _ _ (hrk.drawn j) e2.1).mono fun e w' h => ⟨h.1, by obtain ⟨q, hq⟩ := h.2; exact ⟨j + q, by rw [hq]; exact World.drewN_drewN _ _ _⟩⟩
            have HNO := Lib.hid (unB_no hil hkl)
            have HST : Hid (unP zs i k → ∀ j, j < k + 1 → unP zs i j) := fun hp => upto_step HK.out hp
            have HPD : Hid (unP zs i k = (idB (ent zs i) = true → beB (ent zs i) (ent zs k) = true → idB (ent zs k) = true)) := rfl
            clear hei hek e1 e2 he hab hab' hkl hR hri hrk HPP
            generalize (ent zs 0).length = l0 at *
            generalize unP zs i k = P0 at HST HPD
            generalize idB (ent zs i) = r0 at *
            generalize beB (ent zs i) (ent zs k) = r1 at *
            generalize idB (ent zs k) = r2 at *
            cases r0
            · have HS1 := Lib.hid (HST.out (by rw [HPD.out]; intro h; cases h))
              go_wp2
              go_quiet (with_reducible first | exact HC0.out _ | exact HC1.out _ | exact HC2.out _)
              all_goals go_wp2
              all_goals go_roundw
              case rel => exact ⟨k + 1, by omega, by go_num, HS1, below_drewN hB _⟩
              case measure => simp [intOf]; omega
            · cases r1
              · have HS1 := Lib.hid (HST.out (by rw [HPD.out]; intro _ h; cases h))
                go_wp2
                go_quiet (with_reducible first | exact HC0.out _ | exact HC1.out _ | exact HC2.out _)
                all_goals go_wp2
                all_goals go_roundw
                case rel => exact ⟨k + 1, by omega, by go_num, HS1, below_drewN hB _⟩
                case measure => simp [intOf]; omega
              · cases r2
                · have HF := Lib.hid (HNO.out rfl rfl rfl)
                  go_wp2
                  go_quiet (with_reducible first | exact HC0.out _ | exact HC1.out _ | exact HC2.out _)
                  all_goals go_wp2
                  all_goals go_ret
                  all_goals exact ⟨by rw [HU.out, HF.out]; rfl, below_drewN hB _⟩
                · have HS1 := Lib.hid (HST.out (by rw [HPD.out]; intro _ _; rfl))
                  go_wp2
                  go_quiet (with_reducible first | exact HC0.out _ | exact HC1.out _ | exact HC2.out _)
                  all_goals go_wp2
                  all_goals go_roundw
                  case rel => exact ⟨k + 1, by omega, by go_num, HS1, below_drewN hB _⟩
                  case measure => simp [intOf]; omega
          · obtain rfl : k = n := by omega
            go_wp2
            go_roundw
            case rel => exact ⟨i + 1, by omega, by go_num, upto_step HI.out HK.out, hB⟩
            case measure => simp [intOf]; omega
      · obtain rfl : i = n := by omega
        have HF : Hid (unB zs = true) := unB_yes (by rw [HL.out]; exact HI.out)
        go_wp2
        go_ret
        exact ⟨by rw [HU.out, HF.out]; rfl, hB⟩
end

end Go.Proofs.YtigapanfihpgaaaGreatDoor
