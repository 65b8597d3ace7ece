/-
  DrwT.
-/
import Derived.Test.YtmknjifmmmnjjaaGreatDoorOT
namespace Go.Proofs.YtmknjifmmmnjjaaGreatDoor
set_option maxRecDepth 100000
set_option linter.unusedVariables false
set_option linter.unusedSimpArgs false
set_option linter.unusedSectionVars false

/-! The other draws of chapter 3. -/
section
open Go.RowKit

def WthP (w : World) (e : Ending) (w' : World) : Prop := ∃ (A B : Option Addr) (n c m d : Nat) (zs : List (List Int)) (f : List Int), e = .returned (.tuple #[.slice A n c, .slice B m d]) ∧ RSS w' A n zs ∧ RI w' B m f ∧ n ≤ 400 ∧ n ≤ c ∧ (∀ L ∈ zs, L.length ≤ 7) ∧ f.length ≤ 7 ∧ Below w.heap.size w w'
set_option maxHeartbeats 1000000 in
theorem l91With_any (R : Nat) (w w0 : World) (h : Rd w R 0) (hB : Below w0.heap.size w0 w) (hRl : w0.heap.size ≤ R) :
    Calls Tryz.prog 44 #[.pointer (some ⟨R, 0, none⟩)] w (WthP w0) := by
  go_enter Tryz.func44, Tryz.ntmps44
  go_wp2_with fail
  refine (l91Semi_any R 0 w h (by omega)).mono ?_
  rintro e w1 ⟨A, n, c, zs, p1, rfl, hK, h4, hnc, h7, hg1, hRd1, hp1⟩
  have HK := Lib.hid hK
  clear h hK
  have last : ∀ (q : Nat) (wq : World), Rd wq R q → q ≤ 60 → w1.grownBy wq (some R) → ∀ z : Nat, z < 4 → Calls Tryz.prog 86 #[.pointer (some ⟨R, 0, none⟩), .int .i64 (1 + (z : Int))] wq fun e w' => ∃ (B : Option Addr) (m d : Nat) (f : List Int), e = .returned (.slice B m d) ∧ RI w' B m f ∧ f.length ≤ 7 ∧ w1.grownBy w' (some R) := by
    intro q wq hR hq hg z hz
    have hc := l91Chart_any R q (1 + z) wq hR (by omega) (by omega) (by omega)
    rw [show ((1 + z : Nat) : Int) = 1 + (z : Int) from by omega] at hc
    refine hc.mono ?_
    rintro e w' ⟨v, rfl, L, hL, o, hg', _⟩
    obtain ⟨B, d, rfl⟩ := own_slice o
    exact ⟨B, _, d, L, rfl, RI.of_own o, hL, gb_trans hg hg'⟩
  have LAST := Lib.hid last
  clear last
  by_cases hn0 : 0 < n
  · have hd : decide ((0 : Int) < (n : Int)) = true := decide_eq_true (by omega)
    go_wp2_with fail
    refine (pick_any R p1 12 _ hRd1 (by omega) (by omega) (by omega)).mono ?_
    rintro e w2 ⟨z, rfl, hz, hRd2, hg2⟩
    by_cases hz0 : 0 < z
    · have hd0 : decide ((0 : Int) < (z : Int)) = true := decide_eq_true (by omega)
      obtain ⟨ad, rfl⟩ : ∃ ad, A = some ad := by
        obtain ⟨ad, _, _, e, _⟩ := (HK.out _ (gb_refl _ _)).at_ (k := 0) hn0
        exact ⟨ad, e⟩
      go_wp2_with fail
      refine wp_region_held_drew (S := fun _ => True) (by kernel_rfl) ?_ (fun hHeld => ?_)
      · trivial
      refine wpAnyH_take (i := 0) (v := .slice (some ad) n c) (by rw [List.getElem?_toArray]; rfl) (by kernel_rfl) (by kernel_rfl) (by kernel_rfl) (by exact fun _ _ _ h => h) (Or.inl ⟨by rfl, fun w hSw => by (try dsimp only at hSw); go_simp⟩) (by assumption) ?_
      try simp only [Act.put, List.setIfInBounds_toArray, List.set_cons_zero, List.set_cons_succ]
      refine wpAnyH_take (i := 1) (v := .slice (some ad) n c) (by rw [List.getElem?_toArray]; rfl) (by kernel_rfl) (by kernel_rfl) (by kernel_rfl) (by exact fun _ _ _ h => h) (Or.inl ⟨by rfl, fun w hSw => by (try dsimp only at hSw); go_simp⟩) (by assumption) ?_
      try simp only [Act.put, List.setIfInBounds_toArray, List.set_cons_zero, List.set_cons_succ]
      refine wpAnyH_take (i := 2) (v := .pointer (some ⟨R, 0, none⟩)) (by rw [List.getElem?_toArray]; rfl) (by kernel_rfl) (by kernel_rfl) (by kernel_rfl) (by exact fun _ _ _ h => h) (Or.inl ⟨by rfl, fun w hSw => by (try dsimp only at hSw); go_simp⟩) (by assumption) ?_
      try simp only [Act.put, List.setIfInBounds_toArray, List.set_cons_zero, List.set_cons_succ]
      refine wpAnyH_take (i := 3) (v := .slice (some ad) n c) (by rw [List.getElem?_toArray]; rfl) (by kernel_rfl) (by kernel_rfl) (by kernel_rfl) (by exact fun _ _ _ h => h) (Or.inl ⟨by rfl, fun w hSw => by (try dsimp only at hSw); go_simp⟩) (by assumption) ?_
      try simp only [Act.put, List.setIfInBounds_toArray, List.set_cons_zero, List.set_cons_succ]
      refine wpAnyH_take (i := 4) (v := .int .i64 (n : Int)) (by rw [List.getElem?_toArray]; rfl) (by kernel_rfl) (by kernel_rfl) (by kernel_rfl) (by exact fun _ _ _ h => h) (Or.inl ⟨by rfl, fun w hSw => by (try dsimp only at hSw); go_simp⟩) (by assumption) ?_
      try simp only [Act.put, List.setIfInBounds_toArray, List.set_cons_zero, List.set_cons_succ]
      refine wpAnyH_ready (rs := [5]) (by kernel_rfl) (by simp) ?_
      refine AllReadyH.cons (o := _) (by rw [List.getElem?_toArray]; rfl) (fun K hK => ?_) AllReadyH.nil
      go_simp
      go_at_call 45
      refine (pick_any R (p1 + 1) n _ (show Rd w2.drew R (p1 + 1) from hRd2) (by omega) (by omega) (by omega)).mono ?_
      rintro e w3 ⟨y, rfl, hy, hRd3, hg3'⟩
      have hg3 : w2.grownBy w3 (some R) := ⟨hg3'.os, hg3'.tape, hg3'.output, hg3'.size, hg3'.block⟩
      have hg13 := gb_trans hg2 hg3
      have hR3 := HK.out _ hg13
      obtain ⟨ad', Ay, cy, he, _, hcy, hry⟩ := hR3.at_ hy
      obtain rfl := Option.some.inj he
      have hly : (zs[y]?.getD []).length ≤ 7 := get_len zs (k := y) h7
      have hyn : (y : Int) < (n : Int) := by omega
      have HR3 := Lib.hid hR3
      have HRY := Lib.hid hry
      clear hR3 hry he
      generalize zs[y]?.getD [] = L at *
      refine hK.out _ _ ?_ (fun hHeld5 => ?_)
      · trivial
      clear hK K
      try simp only [Act.put, List.setIfInBounds_toArray, List.set_cons_zero, List.set_cons_succ]
      refine wpAnyH_take (i := 6) (v := .pointer (some (ad.add y))) (by rw [List.getElem?_toArray]; rfl) (by kernel_rfl) (by kernel_rfl) (by kernel_rfl) (by exact fun _ _ _ h => h) (Or.inl ⟨by rfl, fun w hSw => by (try dsimp only at hSw); go_simp⟩) (by assumption) ?_
      try simp only [Act.put, List.setIfInBounds_toArray, List.set_cons_zero, List.set_cons_succ]
      refine wpAnyH_take (i := 8) (v := .slice (some ad) n c) (by rw [List.getElem?_toArray]; rfl) (by kernel_rfl) (by kernel_rfl) (by kernel_rfl) (by exact fun _ _ _ h => h) (Or.inl ⟨by rfl, fun w hSw => by (try dsimp only at hSw); go_simp⟩) (by assumption) ?_
      try simp only [Act.put, List.setIfInBounds_toArray, List.set_cons_zero, List.set_cons_succ]
      refine wpAnyH_ready (rs := [7]) (by kernel_rfl) (by simp) ?_
      refine AllReadyH.cons (o := _) (by rw [List.getElem?_toArray]; rfl) (fun K hK => ?_) AllReadyH.nil
      go_simp
      refine hK.out _ _ ?_ (fun hHeld7 => ?_)
      · trivial
      clear hK K
      try simp only [Act.put, List.setIfInBounds_toArray, List.set_cons_zero, List.set_cons_succ]
      refine wpAnyH_take (i := 9) (v := .slice Ay L.length cy) (by rw [List.getElem?_toArray]; rfl) (by kernel_rfl) (by kernel_rfl) (by kernel_rfl) (by exact fun _ _ _ h => h) (Or.inl ⟨by rfl, fun w hSw => by (try dsimp only at hSw); go_simp⟩) (by assumption) ?_
      try simp only [Act.put, List.setIfInBounds_toArray, List.set_cons_zero, List.set_cons_succ]
      refine wpAnyH_done (by kernel_rfl) ?_ _
      have hBF := below_gb (below_gb hB (Nat.le_refl _) hg1 hRl) (Nat.le_refl _) hg13 hRl
      clear hg1 hg2 hg3 hg3' hRd1 hRd2 hRd3
      go_wp2
      go_ret2
      exact ⟨_, _, n, c, _, _, zs, L, rfl, HR3.out, HRY.out, h4, hnc, h7, hly, hBF⟩
    · have hd0 : decide ((0 : Int) < (z : Int)) = false := decide_eq_false (by omega)
      go_wp2_with fail
      refine (pick_any R (p1 + 1) 4 _ hRd2 (by omega) (by omega) (by omega)).mono ?_
      rintro e w3 ⟨y, rfl, hy, hRd3, hg3⟩
      have hg13 := gb_trans hg2 hg3
      clear hg2 hg3 hRd1 hRd2
      go_wp2_with fail
      refine (LAST.out _ _ hRd3 (by omega) hg13 y hy).mono ?_
      rintro e w4 ⟨B, m, d, f, rfl, hrf, hf7, hg4⟩
      have hBF := below_gb (below_gb hB (Nat.le_refl _) hg1 hRl) (Nat.le_refl _) hg4 hRl
      have HR4 := Lib.hid (HK.out _ hg4)
      have HRF := Lib.hid hrf
      clear hrf hg1 hg4 hg13 hRd3
      go_wp2
      go_ret2
      exact ⟨_, _, n, c, _, _, zs, f, rfl, HR4.out, HRF.out, h4, hnc, h7, hf7, hBF⟩
  · have hd : decide ((0 : Int) < (n : Int)) = false := decide_eq_false (by omega)
    go_wp2_with fail
    refine (pick_any R p1 4 _ hRd1 (by omega) (by omega) (by omega)).mono ?_
    rintro e w3 ⟨y, rfl, hy, hRd3, hg3⟩
    clear hRd1
    go_wp2_with fail
    refine (LAST.out _ _ hRd3 (by omega) hg3 y hy).mono ?_
    rintro e w4 ⟨B, m, d, f, rfl, hrf, hf7, hg4⟩
    have hBF := below_gb (below_gb hB (Nat.le_refl _) hg1 hRl) (Nat.le_refl _) hg4 hRl
    have HR4 := Lib.hid (HK.out _ hg4)
    have HRF := Lib.hid hrf
    clear hrf hg1 hg4 hg3 hRd3
    go_wp2
    go_ret2
    exact ⟨_, _, n, c, _, _, zs, f, rfl, HR4.out, HRF.out, h4, hnc, h7, hf7, hBF⟩
end

end Go.Proofs.YtmknjifmmmnjjaaGreatDoor
