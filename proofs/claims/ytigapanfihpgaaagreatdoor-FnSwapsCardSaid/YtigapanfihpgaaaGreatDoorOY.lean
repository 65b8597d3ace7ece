/-
  DrwU.
-/
import Derived.Test.YtigapanfihpgaaaGreatDoorME
import Derived.Test.YtigapanfihpgaaaGreatDoorOT
namespace Go.Proofs.YtigapanfihpgaaaGreatDoor
set_option maxRecDepth 100000
set_option linter.unusedVariables false
set_option linter.unusedSimpArgs false
set_option linter.unusedSectionVars false

/-! DrawSemigroupGroup, DrawSemigroupSwaps. -/
section
open Go.RowKit

set_option maxHeartbeats 2000000 in
theorem drawSgGroup_any (A : Option Addr) (n c : Nat) (bs : Nat → Nat) (w : World) (h : Src w w.heap.size A n bs) (hnc : n ≤ c) (hn : n ≤ 1048576) :
    Calls Tryz.prog 19 #[.slice A n c] w (DrwL w) := by
  go_enter Tryz.func19, Tryz.ntmps19
  go_wp2_with fail
  refine (open_any _ _ _ _ _ h hnc hn).mono ?_
  rintro e w1 ⟨R, rfl, hRl, hRs, hRd, hB⟩
  clear h
  go_wp2_with fail
  refine (pick_any R 0 4 _ hRd (by omega) (by omega) (by omega)).mono ?_
  rintro e w2 ⟨v0, rfl, hv0, hRd2, hg2⟩
  have hB2 := below_gb hB (Nat.le_refl _) hg2 hRl
  clear hB hRd hg2 hRs
  go_wp2_with fail
  have hc := l91Chart_any R (0 + 1) (1 + v0) w2 hRd2 (by omega) (by omega) (by omega)
  rw [show ((1 + v0 : Nat) : Int) = 1 + (v0 : Int) from by omega] at hc
  refine hc.mono ?_
  rintro e w3 ⟨v, rfl, L, hL7, oF, hg3, hRd3⟩
  have hB3 := below_gb hB2 (Nat.le_refl _) hg3 hRl
  obtain ⟨A1, c1, rfl⟩ := own_slice oF
  have hr3 := RI.of_own oF
  clear hc hB2 hg3 hRd2 oF
  obtain ⟨b1, hb1⟩ : ∃ b, isC L = b := ⟨_, rfl⟩
  have hi := specIndex_any A1 L.length c1 L w3 hr3 (by omega)
  rw [hb1] at hi
  clear hb1
  generalize idxL L = k at hi
  go_wp2_with fail
  refine hi.mono ?_
  rintro e w4 ⟨rfl, b⟩
  have hr4 := hr3.below b
  have hRd4 := hRd3.below b hRd3.lt
  have hB4 := hB3.trans (b.mono hB3.size)
  clear hi b hr3 hRd3 hB3
  obtain ⟨b2, hb2⟩ : ∃ b, powB L (k : Int) = b := ⟨_, rfl⟩
  have hp := specPower_any A1 L.length c1 (k : Int) L w4 hr4 (by omega)
  have hgl := powL_le L (k : Int)
  rw [hb2] at hp
  clear hb2
  generalize powL L (k : Int) = G at hp hgl
  go_wp2_with fail
  refine hp.mono ?_
  rintro e w5 ⟨v, rfl, oG, b⟩
  obtain ⟨A2, c2, rfl⟩ := own_slice oG
  have hG5 := RI.of_own oG
  have hr5 := hr4.below b
  have hRd5 := hRd4.below b hRd4.lt
  have hB5 := hB4.trans (b.mono hB4.size)
  clear hp b hr4 hRd4 hB4 oG
  obtain ⟨b3, hb3⟩ : ∃ b, isP G L = b := ⟨_, rfl⟩
  have ht := specTimes_any A2 A1 G.length L.length c2 c1 G L w5 hG5 hr5 (by omega) (by omega)
  have hhl := tiL_le G L
  rw [hb3] at ht
  clear hb3
  generalize tiL G L = H at ht hhl
  go_wp2_with fail
  refine ht.mono ?_
  rintro e w6 ⟨v, rfl, oH, b⟩
  obtain ⟨A3, c3, rfl⟩ := own_slice oH
  have hH6 := RI.of_own oH
  have hHne : ∀ ad, A3 = some ad → (some R : Option Nat) ≠ some ad.block := fun ad e e' => by
    subst e
    have := (oH.lt ad.block rfl).1
    have := hRd5.lt
    injection e' with e'; omega
  have hRd6 := hRd5.below b hRd5.lt
  have hB6 := hB5.trans (b.mono hB5.size)
  clear ht b hG5 hr5 hRd5 hB5 oH
  have fall : ∀ (wq : World) (q : Nat), Rd wq R q → q ≤ 100 → Below w.heap.size w wq → Calls Tryz.prog 67 #[.pointer (some ⟨R, 0, none⟩)] wq (DrwL w) := fun wq q hR hq hBq => by
    refine (l91Semi_any R q wq hR (by omega)).mono ?_
    rintro e w' ⟨A', n', c', zs, p', rfl, hK, h4, hnc, h7, hg, _, _⟩
    exact ⟨_, _, _, zs, rfl, hK _ (gb_refl _ _), h4, hnc, h7, below_gb hBq (Nat.le_refl _) hg hRl⟩
  have FALL := Lib.hid fall
  clear fall
  by_cases hall : b1 = true ∧ b2 = true ∧ b3 = true
  · obtain ⟨rfl, rfl, rfl⟩ := hall
    go_wp2_with fail
    refine (pick_any R _ 2 _ hRd6 (by omega) (by omega) (by omega)).mono ?_
    rintro e w7 ⟨z, rfl, hz, hRd7, hg7⟩
    have hB7 := below_gb hB6 (Nat.le_refl _) hg7 hRl
    have hH7 := hH6.grown hg7 hHne
    clear hRd6 hB6 hg7 hH6 hHne
    by_cases hz0 : z = 0
    · subst hz0
      obtain ⟨OL, OB, hO⟩ := ofs_ex [H]
      have hOl := ofs_len hO
      have hbA : Below w7.heap.size w7 (w7.alloc (.cells #[.slice A3 H.length c3] 28)) := (Below.refl _ w7).alloc (Nat.le_refl _) _
      have hrs : RSS (w7.alloc (.cells #[.slice A3 H.length c3] 28)) (some ⟨w7.heap.size, 0, none⟩) 1 [H] := by
        refine ⟨rfl, [.slice A3 H.length c3], Reads.of_own (World.ownsRow_lit (base := w7.heap.size) (e := 28) (size := 1) w7 #[.slice A3 H.length c3] 1 (Nat.le_refl _) (by simp [maxLen]) rfl), fun i M hM => ?_⟩
        match i, hM with
        | 0, hM =>
          simp at hM; subst hM
          exact ⟨A3, c3, rfl, hH7.below hbA⟩
        | i + 1, hM => simp at hM
      have hsp := specOf_any (some ⟨w7.heap.size, 0, none⟩) 1 1 [H] OL OB hO _ hrs (by omega) (fun M hM => by rw [List.mem_singleton.1 hM]; omega)
      have hB8 := hB7.trans (hbA.mono hB7.size)
      clear hrs hO FALL hH7 hbA
      go_wp2_with fail
      refine hsp.mono ?_
      rintro e w8 ⟨v, rfl, oO, b⟩
      obtain ⟨A8, c8, rfl⟩ := oO.slice
      have hc8 := (oss_cap oO).2
      have HRO := Lib.hid (RSS.of_own oO).2
      have hB9 := hB8.trans (b.mono hB8.size)
      clear oO b hsp
      go_wp2
      go_ret
      exact ⟨A8, _, c8, OL, rfl, HRO.out, hOl.1, hc8, hOl.2, hB9⟩
    · have hd0 : decide ((z : Int) = 0) = false := decide_eq_false (by omega)
      clear hH7
      go_wp2_with fail
      refine (FALL.out w7 _ hRd7 (by omega) hB7).mono ?_
      rintro e w8 ⟨A8, n8, c8, zs, rfl, hr8⟩
      go_wp2
      go_ret
      exact ⟨_, _, _, zs, rfl, hr8⟩
  · clear hH6 hHne
    cases b1 <;> cases b2 <;> cases b3
    all_goals first
      | (exact absurd ⟨rfl, rfl, rfl⟩ hall)
      | (clear hall
         go_wp2_with fail
         refine (FALL.out w6 _ hRd6 (by omega) hB6).mono ?_
         rintro e w8 ⟨A8, n8, c8, zs, rfl, hr8⟩
         go_wp2
         go_ret
         exact ⟨_, _, _, zs, rfl, hr8⟩)
theorem drawSgSwaps_any (A : Option Addr) (n c : Nat) (bs : Nat → Nat) (w : World) (h : Src w w.heap.size A n bs) (hnc : n ≤ c) (hn : n ≤ 1048576) :
    Calls Tryz.prog 44 #[.slice A n c] w (DrwL w) := by
  go_enter Tryz.func44, Tryz.ntmps44
  go_wp2_with fail
  refine (drawSgGroup_any A n c bs w h hnc hn).mono ?_
  rintro e w2 ⟨A2, n2, c2, zs, rfl, hr⟩
  go_wp2
  go_ret
  exact ⟨_, _, _, zs, rfl, hr⟩
end

end Go.Proofs.YtigapanfihpgaaaGreatDoor
