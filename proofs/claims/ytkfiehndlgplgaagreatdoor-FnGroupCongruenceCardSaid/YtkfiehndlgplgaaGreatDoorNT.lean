/-
  Uni.
-/
import Derived.Test.YtkfiehndlgplgaaGreatDoorMC
import Derived.Test.YtkfiehndlgplgaaGreatDoorNS
namespace Go.Proofs.YtkfiehndlgplgaaGreatDoor
set_option maxRecDepth 100000
set_option linter.unusedVariables false
set_option linter.unusedSimpArgs false
set_option linter.unusedSectionVars false

/-! SemigroupUnitary, both sides. -/
section
open Go.RowKit Go.Maps

/-- what is above e is such, too -/
def unE (zs : List (List Int)) (e : List Int) : Bool := (zs.filter (beB e)).all idB
def unB (zs : List (List Int)) : Bool := (zs.filter idB).all (unE zs)
theorem unB_no {zs : List (List Int)} {i k : Nat} (hi : i < zs.length) (hk : k < zs.length) (h1 : idB (ent zs i) = true) (h2 : beB (ent zs i) (ent zs k) = true) (h3 : idB (ent zs k) = false) : unB zs = false := by
  cases hc : unB zs
  · rfl
  · have a := List.all_eq_true.1 hc (ent zs i) (List.mem_filter.2 ⟨ent_mem hi, h1⟩)
    have b := List.all_eq_true.1 a (ent zs k) (List.mem_filter.2 ⟨ent_mem hk, h2⟩)
    rw [h3] at b; cases b
def unP (zs : List (List Int)) (i k : Nat) : Prop := idB (ent zs i) = true → beB (ent zs i) (ent zs k) = true → idB (ent zs k) = true
theorem unB_yes {zs : List (List Int)} (h : ∀ i, i < zs.length → ∀ k, k < zs.length → unP zs i k) : unB zs = true := by
  refine List.all_eq_true.2 fun e he => List.all_eq_true.2 fun f hf => ?_
  obtain ⟨h1, h2⟩ := List.mem_filter.1 he
  obtain ⟨h3, h4⟩ := List.mem_filter.1 hf
  obtain ⟨i, hi, rfl⟩ := mem_ent h1
  obtain ⟨k, hk, rfl⟩ := mem_ent h3
  exact h i hi k hk h2 h4
def sgU (zs : List (List Int)) : Bool := sgS zs && unB zs

set_option maxHeartbeats 1000000 in
theorem l1Below_q (A B : Option Addr) (n c d : Nat) (zs ys : List Int) (w : World) (h : RI w A n zs) (h' : RI w B n ys) (hn : n ≤ 6) (hE : Ent n zs) :
    Calls Tryz.prog 56 #[.slice A n c, .slice B n d] w fun e w' => e = .returned (.bool (blK (ofL zs) (ofL ys) n)) ∧ ∃ q, w' = w.drewN q := by
  go_enter Tryz.func56, Tryz.ntmps56
  go_wp2
  go_loopw [5] (fun i wr => ∃ k : Nat, k ≤ n ∧ i = .int .i64 k ∧ Hid (blK (ofL zs) (ofL ys) k = true) ∧ ∃ q, wr = w.drewN q) (fun i _ => n - (intOf i).toNat)
  case atStart => exact ⟨0, Nat.zero_le _, rfl, Lib.hid rfl, 0, rfl⟩
  case round =>
    obtain ⟨k, hk, rfl, HT, q, hw⟩ := hrel
    have hR : RI wr A n zs := by rw [hw]; exact h.drawn q
    have hR' : RI wr B n ys := by rw [hw]; exact h'.drawn q
    have HW := Lib.hid hw
    clear hw h h'
    by_cases hlt : k < n
    · obtain ⟨ad, rfl, hab, g⟩ := hR.at_ hlt
      obtain ⟨ad', rfl, hab', g'⟩ := hR'.at_ hlt
      have hz := hE k hlt
      have hof : ofL zs k = zs[k]?.getD 0 := rfl
      have hof' : ofL ys k = ys[k]?.getD 0 := rfl
      generalize zs[k]?.getD 0 = z at g hof hz
      generalize ys[k]?.getD 0 = y at g' hof'
      clear hR hR' hab hab'
      by_cases hz0 : 0 ≤ z
      · by_cases he : z = y
        · have hb : (z != y) = false := by simp [he]
          have HM : Hid (blK (ofL zs) (ofL ys) (k + 1) = true) := by show _ = _; simp [blK, HT.out, hof, hof', he]
          clear he hof hof' hz
          go_wp2
          go_quiet (fail)
          all_goals go_wp2
          go_roundw
          case rel => exact ⟨k + 1, by omega, by go_num, HM, drawn_on HW.out _⟩
          case measure => simp [intOf]; omega
        · have hb : (z != y) = true := by simp [he]
          have HM : Hid (blK (ofL zs) (ofL ys) n = false) := blK_mono (k := k + 1) (by omega) (by
            simp only [blK, HT.out, hof, hof', Bool.true_and, Bool.or_eq_false_iff]
            exact ⟨decide_eq_false (by omega), decide_eq_false he⟩)
          clear he hof hof' hz
          go_wp2
          go_quiet (fail)
          all_goals go_wp2
          go_ret
          exact ⟨by rw [HM.out]; rfl, drawn_on HW.out _⟩
      · have hd : decide (0 ≤ z) = false := by simpa using hz0
        have HM : Hid (blK (ofL zs) (ofL ys) (k + 1) = true) := by show _ = _; simp [blK, HT.out, hof]; left; omega
        clear hof hof' hz hz0
        go_wp2
        go_quiet (fail)
        all_goals go_wp2
        go_roundw
        case rel => exact ⟨k + 1, by omega, by go_num, HM, drawn_on HW.out _⟩
        case measure => simp [intOf]; omega
    · obtain rfl : k = n := by omega
      go_wp2
      go_ret
      exact ⟨by rw [HT.out]; rfl, q, HW.out⟩

theorem l1Below_c (A B : Option Addr) (n c d : Nat) (L M : List Int) (w : World) (h : RI w A n L) (h' : RI w B n M) (hP : isP L M = true) :
    Calls Tryz.prog 56 #[.slice A n c, .slice B n d] w fun e w' => e = .returned (.bool (beB L M)) ∧ ∃ q, w' = w.drewN q := by
  obtain rfl := h.len
  have p := isP_yes hP
  have := l1Below_q A B _ c d L M w h h' (isC_len p.1).2 (isC_ent p.1)
  have e : beB L M = blK (ofL L) (ofL M) L.length := by unfold beB; rw [hP, Bool.true_and]
  rw [e]; exact this
theorem l1Idem_c (A : Option Addr) (n c : Nat) (L : List Int) (w : World) (h : RI w A n L) (hC : isC L = true) :
    Calls Tryz.prog 79 #[.slice A n c] w fun e w' => e = .returned (.bool (idB L)) ∧ ∃ q, w' = w.drewN q := by
  obtain rfl := h.len
  have := l1Idem_any A _ c L w h (isC_len hC).2 (isC_ent hC)
  rw [idB_of hC] at this
  exact this.mono fun e w' h => ⟨h.1, 0, h.2.symm⟩
end

end Go.Proofs.YtkfiehndlgplgaaGreatDoor
