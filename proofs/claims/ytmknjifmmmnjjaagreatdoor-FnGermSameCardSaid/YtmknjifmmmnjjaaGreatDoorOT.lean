/-
  DrwS.
-/
import Derived.Test.YtmknjifmmmnjjaaGreatDoorOS
namespace Go.Proofs.YtmknjifmmmnjjaaGreatDoor
set_option maxRecDepth 100000
set_option linter.unusedVariables false
set_option linter.unusedSimpArgs false
set_option linter.unusedSectionVars false

/-! What the laws of chapter 3 draw: a semigroup, seldom another list. -/
section
open Go.RowKit

theorem ofs_len {zs OL : List (List Int)} {OB : Bool} (hO : Ofs zs OL OB) : OL.length ≤ 400 ∧ ∀ L ∈ OL, L.length ≤ 7 := by
  refine ⟨(ofs_le hO).1, ?_⟩
  rcases hO with ⟨⟨h1, hw⟩, _⟩ | ⟨_, rfl, _⟩
  · have hz : ∀ L ∈ zs, isC L = true ∧ L.length = (ent zs 0).length := by
      unfold cfB at h1
      rw [Bool.and_eq_true, chB_iff] at h1
      exact h1.1.2
    have hc := hw.from_ (fun L => isC L = true ∧ L.length = (ent zs 0).length) (facs_ch hz) (nxR_ch hz)
    intro L hL
    have := (isC_len (hc L hL).1).2
    omega
  · intro L hL; cases hL
theorem oss_cap {w : World} {lo hi : Nat} {A : Option Addr} {n c : Nat} {Ls : List (List Int)} (h : OSS w lo hi (.slice A n c) Ls) : n = Ls.length ∧ n ≤ c := by
  obtain ⟨vs, h1, _⟩ := h
  rcases h1.2 with ⟨e, h0⟩ | ⟨g, cap, cur, e, _, _, h2, _⟩
  · injection e with _ e2 e3; omega
  · injection e with _ e2 e3; omega

def SemP (w : World) (R p : Nat) (e : Ending) (w' : World) : Prop := ∃ (A : Option Addr) (n c : Nat) (zs : List (List Int)) (p' : Nat), e = .returned (.slice A n c) ∧ (∀ W', w'.grownBy W' (some R) → RSS W' A n zs) ∧ n ≤ 400 ∧ n ≤ c ∧ (∀ L ∈ zs, L.length ≤ 7) ∧ w.grownBy w' (some R) ∧ Rd w' R p' ∧ p' ≤ p + 50
set_option maxHeartbeats 2000000 in
theorem l91Semi_any (R p : Nat) (w : World) (h : Rd w R p) (hp : p ≤ 70000) :
    Calls Tryz.prog 55 #[.pointer (some ⟨R, 0, none⟩)] w (SemP w R p) := by
  have hRl := h.lt
  go_enter Tryz.func55, Tryz.ntmps55
  go_wp2_with fail
  refine (l91Given_any R p w h (by omega)).mono ?_
  rintro e w1 ⟨v, Ls, p1, rfl, _, oG, h1, h3, hl7, hg1, hRd1, hp1⟩
  obtain ⟨A, c, rfl⟩ := oG.slice
  have hcG := (oss_cap oG).2
  obtain ⟨OL, OB, hO⟩ := ofs_ex Ls
  have hOl := ofs_len hO
  have hsp := specOf_any A Ls.length c Ls OL OB hO w1 (RSS.of_own oG).2 (by omega) (fun L hL => by have := hl7 L hL; omega)
  have hs1 := hg1.size
  clear h hO
  go_wp2_with fail
  refine hsp.mono ?_
  rintro e w2 ⟨v2, rfl, oO, hB⟩
  have oG2 := oG.below hB
  have hg2 := gb_below hg1 hB
  have hRd2 := hRd1.below hB hRd1.lt
  obtain ⟨A2, c2, rfl⟩ := oO.slice
  have hcO := (oss_cap oO).2
  have HGR : Hid (∀ W', w2.grownBy W' (some R) → RSS W' A Ls.length Ls) := fun W' hg => (RSS.of_own ((oG2.more (Nat.le_refl _) hB.size).rd hg hRl)).2
  have hR1 : R < w1.heap.size := by omega
  have hoo : OSS w2 w1.heap.size w2.heap.size (.slice A2 OL.length c2) OL := oO
  clear hsp hg1 hRd1 hB oG oG2 oO
  have hGdone : SemP w R p (.returned (.slice A Ls.length c)) w2 := ⟨A, _, c, Ls, p1, rfl, HGR.out, by omega, hcG, hl7, hg2, hRd2, by omega⟩
  have HGD := Lib.hid hGdone
  clear hGdone
  cases OB
  · clear hoo hg2 hRd2
    go_wp2
    go_ret
    exact HGD.out
  · by_cases h60 : 60 < OL.length
    · have hd : decide ((60 : Int) < (OL.length : Int)) = true := decide_eq_true (by omega)
      clear hoo hg2 hRd2
      go_wp2
      go_ret
      exact HGD.out
    · have hd : decide ((60 : Int) < (OL.length : Int)) = false := decide_eq_false (by omega)
      by_cases h1' : 1 < OL.length
      · have hd1 : decide ((1 : Int) < (OL.length : Int)) = true := decide_eq_true (by omega)
        clear HGD
        go_wp2_with fail
        refine (pick_any R p1 24 _ hRd2 (by omega) (by omega) (by omega)).mono ?_
        rintro e w3 ⟨z, rfl, hz, hRd3, hg3⟩
        have hoo3 := hoo.rd hg3 hR1
        have hgF := gb_trans hg2 hg3
        obtain ⟨go, rfl⟩ : ∃ go, A2 = some ⟨go, 0, none⟩ := by
          obtain ⟨vs, hrw, _⟩ := hoo3
          obtain ⟨g, cap, hv, _⟩ := hrw.form (by omega)
          injection hv with hv
          exact ⟨g, hv⟩
        have HRO : Hid (∀ W', w3.grownBy W' (some R) → RSS W' (some ⟨go, 0, none⟩) OL.length OL) := fun W' hg => (RSS.of_own (hoo3.rd hg hR1)).2
        clear hoo hg2 hRd2 hg3 hoo3
        by_cases hz0 : z = 0
        · subst hz0
          have hc21 : ¬ c2 = 1 := by omega
          have HT : Hid (∀ W', w3.grownBy W' (some R) → RSS W' (some ⟨go, 1, none⟩) (OL.length - 1) (OL.drop 1)) := fun W' hg => by
            have := (HRO.out W' hg).tail (c := c2) (by omega) hcO
            rw [if_neg hc21, Option.map_some, Addr.add_mid, Nat.zero_add] at this
            exact this
          have hgo : (1 : Int) ≤ (OL.length : Int) := by omega
          go_wp2
          go_ret
          exact ⟨_, OL.length - 1, c2 - 1, OL.drop 1, _, by congr 2, HT.out, by omega, by omega, fun L hL => hOl.2 L (List.mem_of_mem_drop hL), hgF, hRd3, by omega⟩
        · have hd0 : decide ((z : Int) = 0) = false := decide_eq_false (by omega)
          go_wp2
          go_ret
          exact ⟨_, _, c2, OL, _, rfl, HRO.out, by omega, hcO, hOl.2, hgF, hRd3, by omega⟩
      · have hd1 : decide ((1 : Int) < (OL.length : Int)) = false := decide_eq_false (by omega)
        have HRO : Hid (∀ W', w2.grownBy W' (some R) → RSS W' A2 OL.length OL) := fun W' hg => (RSS.of_own (hoo.rd hg hR1)).2
        clear hoo HGD
        go_wp2
        go_ret
        exact ⟨A2, _, c2, OL, p1, rfl, HRO.out, by omega, hcO, hOl.2, hg2, hRd2, by omega⟩
end

end Go.Proofs.YtmknjifmmmnjjaaGreatDoor
