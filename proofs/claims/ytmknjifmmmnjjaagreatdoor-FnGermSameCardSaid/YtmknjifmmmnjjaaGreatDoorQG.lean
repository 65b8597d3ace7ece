/-
  Ax7 Bb7 Bc7 Bd7 Be7 Bf7 Gs8.
-/
import Derived.Deep.RegionHeld3
import Derived.ChangeKeysEq
import Derived.Laws.StructEq
import Derived.Test.YtmknjifmmmnjjaaGreatDoorMA
import Derived.Test.YtmknjifmmmnjjaaGreatDoorMB
import Derived.Test.YtmknjifmmmnjjaaGreatDoorMC
import Derived.Test.YtmknjifmmmnjjaaGreatDoorNB
import Derived.Test.YtmknjifmmmnjjaaGreatDoorNT
import Derived.Test.YtmknjifmmmnjjaaGreatDoorOT
import Derived.Test.YtmknjifmmmnjjaaGreatDoorOV
import Derived.Test.YtmknjifmmmnjjaaGreatDoorPK
import Derived.Test.YtmknjifmmmnjjaaGreatDoorPM
import Derived.Test.YtmknjifmmmnjjaaGreatDoorPN
namespace Go.Proofs.YtmknjifmmmnjjaaGreatDoor
set_option maxRecDepth 100000
set_option linter.unusedVariables false
set_option linter.unusedSimpArgs false
set_option linter.unusedSectionVars false

/-! draws of a semigroup and sets. -/
section
open Go.RowKit Go.Maps

def WthR (w : World) (R : Nat) (e : Ending) (w' : World) : Prop := ∃ (A B : Option Addr) (n c m d : Nat) (zs : List (List Int)) (f : List Int) (q : Nat), e = .returned (.tuple #[.slice A n c, .slice B m d]) ∧ (∀ W', w'.grownBy W' (some R) → RSS W' A n zs) ∧ RI w' B m f ∧ n ≤ 400 ∧ n ≤ c ∧ (∀ L ∈ zs, L.length ≤ 7) ∧ f.length ≤ 7 ∧ Rd w' R q ∧ q ≤ 100 ∧ Below w.heap.size w w'
set_option maxHeartbeats 1000000 in
theorem l91WithR_any (R : Nat) (w w0 : World) (h : Rd w R 0) (hB : Below w0.heap.size w0 w) (hRl : w0.heap.size ≤ R) :
    Calls Tryz.prog 44 #[.pointer (some ⟨R, 0, none⟩)] w (WthR w0 R) := by
  go_enter Tryz.func44, Tryz.ntmps44
  go_wp2_with fail
  refine (l91Semi_any R 0 w h (by omega)).mono ?_
  rintro e w1 ⟨A, n, c, zs, p1, rfl, hK, h4, hnc, h7, hg1, hRd1, hp1⟩
  have HK := Lib.hid hK
  clear h hK
  have last : ∀ (q : Nat) (wq : World), Rd wq R q → q ≤ 60 → w1.grownBy wq (some R) → ∀ z : Nat, z < 4 → Calls Tryz.prog 86 #[.pointer (some ⟨R, 0, none⟩), .int .i64 (1 + (z : Int))] wq fun e w' => ∃ (B : Option Addr) (m d : Nat) (f : List Int), e = .returned (.slice B m d) ∧ RI w' B m f ∧ f.length ≤ 7 ∧ w1.grownBy w' (some R) ∧ Rd w' R (q + (1 + z) + 1) := by
    intro q wq hR hq hg z hz
    have hc := l91Chart_any R q (1 + z) wq hR (by omega) (by omega) (by omega)
    rw [show ((1 + z : Nat) : Int) = 1 + (z : Int) from by omega] at hc
    refine hc.mono ?_
    rintro e w' ⟨v, rfl, L, hL, o, hg', hRd'⟩
    obtain ⟨B, d, rfl⟩ := own_slice o
    exact ⟨B, _, d, L, rfl, RI.of_own o, hL, gb_trans hg hg', hRd'⟩
  have LAST := Lib.hid last
  clear last
  by_cases hn0 : 0 < n
  · have hd : decide ((0 : Int) < (n : Int)) = true := decide_eq_true (by omega)
    go_wp2_with fail
    refine (pick_any R p1 12 _ hRd1 (by omega) (by omega) (by omega)).mono ?_
    rintro e w2 ⟨z, rfl, hz, hRd2, hg2⟩
    by_cases hz0 : 0 < z
    · have hd0 : decide ((0 : Int) < (z : Int)) = true := decide_eq_true (by omega)
      obtain ⟨ad, rfl⟩ : ∃ ad, A = some ad := by
        obtain ⟨ad, _, _, e, _⟩ := (HK.out _ (gb_refl _ _)).at_ (k := 0) hn0
        exact ⟨ad, e⟩
      go_wp2_with fail
      refine wp_region_held_drew (S := fun _ => True) (by kernel_rfl) ?_ (fun hHeld => ?_)
      · trivial
      refine wpAnyH_take (i := 0) (v := .slice (some ad) n c) (by rw [List.getElem?_toArray]; rfl) (by kernel_rfl) (by kernel_rfl) (by kernel_rfl) (by exact fun _ _ _ h => h) (Or.inl ⟨by rfl, fun w hSw => by (try dsimp only at hSw); go_simp⟩) (by assumption) ?_
      try simp only [Act.put, List.setIfInBounds_toArray, List.set_cons_zero, List.set_cons_succ]
      refine wpAnyH_take (i := 1) (v := .slice (some ad) n c) (by rw [List.getElem?_toArray]; rfl) (by kernel_rfl) (by kernel_rfl) (by kernel_rfl) (by exact fun _ _ _ h => h) (Or.inl ⟨by rfl, fun w hSw => by (try dsimp only at hSw); go_simp⟩) (by assumption) ?_
      try simp only [Act.put, List.setIfInBounds_toArray, List.set_cons_zero, List.set_cons_succ]
      refine wpAnyH_take (i := 2) (v := .pointer (some ⟨R, 0, none⟩)) (by rw [List.getElem?_toArray]; rfl) (by kernel_rfl) (by kernel_rfl) (by kernel_rfl) (by exact fun _ _ _ h => h) (Or.inl ⟨by rfl, fun w hSw => by (try dsimp only at hSw); go_simp⟩) (by assumption) ?_
      try simp only [Act.put, List.setIfInBounds_toArray, List.set_cons_zero, List.set_cons_succ]
      refine wpAnyH_take (i := 3) (v := .slice (some ad) n c) (by rw [List.getElem?_toArray]; rfl) (by kernel_rfl) (by kernel_rfl) (by kernel_rfl) (by exact fun _ _ _ h => h) (Or.inl ⟨by rfl, fun w hSw => by (try dsimp only at hSw); go_simp⟩) (by assumption) ?_
      try simp only [Act.put, List.setIfInBounds_toArray, List.set_cons_zero, List.set_cons_succ]
      refine wpAnyH_take (i := 4) (v := .int .i64 (n : Int)) (by rw [List.getElem?_toArray]; rfl) (by kernel_rfl) (by kernel_rfl) (by kernel_rfl) (by exact fun _ _ _ h => h) (Or.inl ⟨by rfl, fun w hSw => by (try dsimp only at hSw); go_simp⟩) (by assumption) ?_
      try simp only [Act.put, List.setIfInBounds_toArray, List.set_cons_zero, List.set_cons_succ]
      refine wpAnyH_ready (rs := [5]) (by kernel_rfl) (by simp) ?_
      refine AllReadyH.cons (o := _) (by rw [List.getElem?_toArray]; rfl) (fun K hK => ?_) AllReadyH.nil
      go_simp
      go_at_call 45
      refine (pick_any R (p1 + 1) n _ (show Rd w2.drew R (p1 + 1) from hRd2) (by omega) (by omega) (by omega)).mono ?_
      rintro e w3 ⟨y, rfl, hy, hRd3, hg3'⟩
      have hg3 : w2.grownBy w3 (some R) := ⟨hg3'.os, hg3'.tape, hg3'.output, hg3'.size, hg3'.block⟩
      have hg13 := gb_trans hg2 hg3
      have hR3 := HK.out _ hg13
      obtain ⟨ad', Ay, cy, he, _, hcy, hry⟩ := hR3.at_ hy
      obtain rfl := Option.some.inj he
      have hly : (zs[y]?.getD []).length ≤ 7 := get_len zs (k := y) h7
      have hyn : (y : Int) < (n : Int) := by omega
      have HR3 := Lib.hid hR3
      have HRY := Lib.hid hry
      clear hR3 hry he
      generalize zs[y]?.getD [] = L at *
      refine hK.out _ _ ?_ (fun hHeld5 => ?_)
      · trivial
      clear hK K
      try simp only [Act.put, List.setIfInBounds_toArray, List.set_cons_zero, List.set_cons_succ]
      refine wpAnyH_take (i := 6) (v := .pointer (some (ad.add y))) (by rw [List.getElem?_toArray]; rfl) (by kernel_rfl) (by kernel_rfl) (by kernel_rfl) (by exact fun _ _ _ h => h) (Or.inl ⟨by rfl, fun w hSw => by (try dsimp only at hSw); go_simp⟩) (by assumption) ?_
      try simp only [Act.put, List.setIfInBounds_toArray, List.set_cons_zero, List.set_cons_succ]
      refine wpAnyH_take (i := 8) (v := .slice (some ad) n c) (by rw [List.getElem?_toArray]; rfl) (by kernel_rfl) (by kernel_rfl) (by kernel_rfl) (by exact fun _ _ _ h => h) (Or.inl ⟨by rfl, fun w hSw => by (try dsimp only at hSw); go_simp⟩) (by assumption) ?_
      try simp only [Act.put, List.setIfInBounds_toArray, List.set_cons_zero, List.set_cons_succ]
      refine wpAnyH_ready (rs := [7]) (by kernel_rfl) (by simp) ?_
      refine AllReadyH.cons (o := _) (by rw [List.getElem?_toArray]; rfl) (fun K hK => ?_) AllReadyH.nil
      go_simp
      refine hK.out _ _ ?_ (fun hHeld7 => ?_)
      · trivial
      clear hK K
      try simp only [Act.put, List.setIfInBounds_toArray, List.set_cons_zero, List.set_cons_succ]
      refine wpAnyH_take (i := 9) (v := .slice Ay L.length cy) (by rw [List.getElem?_toArray]; rfl) (by kernel_rfl) (by kernel_rfl) (by kernel_rfl) (by exact fun _ _ _ h => h) (Or.inl ⟨by rfl, fun w hSw => by (try dsimp only at hSw); go_simp⟩) (by assumption) ?_
      try simp only [Act.put, List.setIfInBounds_toArray, List.set_cons_zero, List.set_cons_succ]
      refine wpAnyH_done (by kernel_rfl) ?_ _
      have hBF := below_gb (below_gb hB (Nat.le_refl _) hg1 hRl) (Nat.le_refl _) hg13 hRl
      have HRK : Hid (∀ W', w3.grownBy W' (some R) → RSS W' (some ad) n zs) := fun W' hg => HK.out _ (gb_trans hg13 hg)
      clear hg1 hg2 hg3 hg3' hRd1 hRd2 HR3
      go_wp2
      go_ret2
      exact ⟨_, _, n, c, _, _, zs, L, _, rfl, HRK.out, HRY.out, h4, hnc, h7, hly, hRd3, by omega, hBF⟩
    · have hd0 : decide ((0 : Int) < (z : Int)) = false := decide_eq_false (by omega)
      go_wp2_with fail
      refine (pick_any R (p1 + 1) 4 _ hRd2 (by omega) (by omega) (by omega)).mono ?_
      rintro e w3 ⟨y, rfl, hy, hRd3, hg3⟩
      have hg13 := gb_trans hg2 hg3
      clear hg2 hg3 hRd1 hRd2
      go_wp2_with fail
      refine (LAST.out _ _ hRd3 (by omega) hg13 y hy).mono ?_
      rintro e w4 ⟨B, m, d, f, rfl, hrf, hf7, hg4, hRd4⟩
      have hBF := below_gb (below_gb hB (Nat.le_refl _) hg1 hRl) (Nat.le_refl _) hg4 hRl
      have HR4 : Hid (∀ W', w4.grownBy W' (some R) → RSS W' A n zs) := fun W' hg => HK.out _ (gb_trans hg4 hg)
      have HRF := Lib.hid hrf
      clear hrf hg1 hg4 hg13 hRd3
      go_wp2
      go_ret2
      exact ⟨_, _, n, c, _, _, zs, f, _, rfl, HR4.out, HRF.out, h4, hnc, h7, hf7, hRd4, by omega, hBF⟩
  · have hd : decide ((0 : Int) < (n : Int)) = false := decide_eq_false (by omega)
    go_wp2_with fail
    refine (pick_any R p1 4 _ hRd1 (by omega) (by omega) (by omega)).mono ?_
    rintro e w3 ⟨y, rfl, hy, hRd3, hg3⟩
    clear hRd1
    go_wp2_with fail
    refine (LAST.out _ _ hRd3 (by omega) hg3 y hy).mono ?_
    rintro e w4 ⟨B, m, d, f, rfl, hrf, hf7, hg4, hRd4⟩
    have hBF := below_gb (below_gb hB (Nat.le_refl _) hg1 hRl) (Nat.le_refl _) hg4 hRl
    have HR4 : Hid (∀ W', w4.grownBy W' (some R) → RSS W' A n zs) := fun W' hg => HK.out _ (gb_trans hg4 hg)
    have HRF := Lib.hid hrf
    clear hrf hg1 hg4 hg3 hRd3
    go_wp2
    go_ret2
    exact ⟨_, _, n, c, _, _, zs, f, _, rfl, HR4.out, HRF.out, h4, hnc, h7, hf7, hRd4, by omega, hBF⟩
theorem gb_rdr {w w' : World} {R : Nat} (b : Below w.heap.size w w') : w.grownBy w' (some R) := ⟨b.os, b.tape, b.output, b.size, fun k hk _ => b.block k hk⟩
end

/-! spec.l7Germ, spec.l7Moves, spec.GermSame. -/
section
open Go.RowKit Go.Maps

/-- a chart below both that moves the point -/
def gmP (f g : List Int) (p : Nat) (L : List Int) : Bool := decide (0 ≤ ofL L p) && (beB L f && beB L g)
def gmB (zs : List (List Int)) (f g : List Int) (p : Nat) : Bool := zs.any (gmP f g p)
def mvD (zs : List (List Int)) (f : List Int) (p : Int) : Bool := decide (f ∈ zs) && (inB p 0 ((f.length : Int) - 1) && decide (0 ≤ ofL f p.toNat))
def gsB (zs : List (List Int)) (f g : List Int) (p : Int) : Bool := sgS zs && (mvD zs f p && (mvD zs g p && gmB zs f g p.toNat))
theorem any_step2 {zs : List (List Int)} {p : List Int → Bool} {k : Nat} (hk : k < zs.length) : (zs.take (k + 1)).any p = ((zs.take k).any p || p (ent zs k)) := by
  have e : ent zs k = zs[k] := by unfold ent; rw [List.getElem?_eq_getElem hk]; rfl
  rw [List.take_succ_eq_append_getElem hk, List.any_append, e]; simp
set_option maxHeartbeats 2000000 in
theorem l7Germ_any (A B C : Option Addr) (n c d d' m : Nat) (zs : List (List Int)) (f g : List Int) (p : Nat) (w : World) (h : RSS w A n zs) (hf : RI w B m f) (hg : RI w C m g) (hz : ∀ L ∈ zs, isP L f = true ∧ isP L g = true ∧ L.length = m) (hp : p < m) (hn : n ≤ 1048576) (hm : m ≤ 6) :
    Calls Tryz.prog 54 #[.slice A n c, .slice B m d, .slice C m d', .int .i64 (p : Int)] w fun e w' => e = .returned (.bool (gmB zs f g p)) ∧ Below w.heap.size w w' := by
  have HL := Lib.hid h.len
  have HH := Lib.hid h
  have HF := Lib.hid hf
  have HG := Lib.hid hg
  have HZ := Lib.hid hz
  have hpm : (p : Int) < (m : Int) := by omega
  clear h hf hg hz
  go_enter Tryz.func54, Tryz.ntmps54
  go_wp2
  go_loopw [9] (fun i wr => ∃ k : Nat, k ≤ n ∧ i = .int .i64 (k : Int) ∧ Hid ((zs.take k).any (gmP f g p) = false) ∧ Below w.heap.size w wr) (fun i _ => n - (intOf i).toNat)
  case atStart => exact ⟨0, Nat.zero_le _, rfl, rfl, Below.refl _ _⟩
  case round =>
    obtain ⟨k, hk, rfl, HN, hB⟩ := hrel
    by_cases hlt : k < n
    · have hkl : k < zs.length := by have := HL.out; omega
      obtain ⟨ad, Ai, ci, rfl, hab, hci, hri⟩ := (HH.out.below hB).at_ hlt
      have hent : zs[k]?.getD [] = ent zs k := rfl
      obtain ⟨hP1, hP2, hlen⟩ := HZ.out _ (ent_mem hkl)
      rw [hent, hlen] at hci hri
      obtain ⟨ai, rfl, hai, hcl⟩ := hri.at_ (k := p) (by omega)
      have hof : (ent zs k)[p]?.getD 0 = ofL (ent zs k) p := rfl
      rw [hof] at hcl
      have HST := Lib.hid (any_step2 (p := gmP f g p) hkl)
      have HPT : Hid (gmP f g p (ent zs k) = (decide (0 ≤ ofL (ent zs k) p) && (beB (ent zs k) f && beB (ent zs k) g))) := rfl
      have HC1 : Hid (∀ j, Calls Tryz.prog 60 #[.slice (some ai) m ci, .slice B m d] (wr.drewN j) fun e w' => e = .returned (.bool (beB (ent zs k) f)) ∧ ∃ q, w' = (wr.drewN j).drewN q) := fun j => l1Below_c _ _ _ _ _ _ _ _ (hri.drawn j) ((HF.out.below hB).drawn j) hP1
      have HC2 : Hid (∀ j, Calls Tryz.prog 60 #[.slice (some ai) m ci, .slice C m d'] (wr.drewN j) fun e w' => e = .returned (.bool (beB (ent zs k) g)) ∧ ∃ q, w' = (wr.drewN j).drewN q) := fun j => l1Below_c _ _ _ _ _ _ _ _ (hri.drawn j) ((HG.out.below hB).drawn j) hP2
      clear hent hP1 hP2 hlen hof hkl hab hri
      generalize ofL (ent zs k) p = z at *
      generalize gmP f g p (ent zs k) = gp at *
      by_cases hz0 : 0 ≤ z
      · have hge : decide (z ≥ 0) = true := decide_eq_true hz0
        have HP2 : Hid (gp = (beB (ent zs k) f && beB (ent zs k) g)) := by show _ = _; rw [HPT.out, decide_eq_true hz0]; rfl
        clear hz0
        cases h1 : beB (ent zs k) f
        · have HN2 : Hid ((zs.take (k + 1)).any (gmP f g p) = false) := by show _ = _; rw [HST.out, HN.out, HP2.out, h1]; rfl
          have hc1 := HC1.out 0
          rw [h1] at hc1
          clear h1
          go_wp2_with fail
          refine Calls.mono hc1 ?_
          rintro e w2 ⟨rfl, q2, rfl⟩
          clear hc1
          go_wp2
          go_roundw
          case rel => exact ⟨k + 1, by omega, by go_num, HN2, below_drewN hB _⟩
          case measure => simp [intOf]; omega
        · have hc1 := HC1.out 0
          rw [h1] at hc1
          have HP3 : Hid (gp = beB (ent zs k) g) := by show _ = _; rw [HP2.out, h1]; rfl
          clear h1
          go_wp2_with fail
          refine Calls.mono hc1 ?_
          rintro e w2 ⟨rfl, q2, rfl⟩
          have hci2 : ((wr.drewN 0).drewN q2).cell? (ad.add k) = some (.slice (some ai) m ci) := hci
          have hc2 := HC2.out q2
          rw [show wr.drewN q2 = (wr.drewN 0).drewN q2 from rfl] at hc2
          clear hc1
          cases h2 : beB (ent zs k) g
          · rw [h2] at hc2
            have HN2 : Hid ((zs.take (k + 1)).any (gmP f g p) = false) := by show _ = _; rw [HST.out, HN.out, HP3.out, h2]; rfl
            clear h2
            go_wp2_with fail
            refine Calls.mono hc2 ?_
            rintro e w3 ⟨rfl, q3, rfl⟩
            clear hc2
            go_wp2
            go_roundw
            case rel => exact ⟨k + 1, by omega, by go_num, HN2, below_drewN hB _⟩
            case measure => simp [intOf]; omega
          · rw [h2] at hc2
            have HY : Hid (gmB zs f g p = true) := by
              have hk1 : (zs.take (k + 1)).any (gmP f g p) = true := by rw [HST.out, HP3.out, h2, Bool.or_true]
              obtain ⟨x, hx, hx2⟩ := List.any_eq_true.1 hk1
              exact List.any_eq_true.2 ⟨x, List.mem_of_mem_take hx, hx2⟩
            clear h2
            go_wp2_with fail
            refine Calls.mono hc2 ?_
            rintro e w3 ⟨rfl, q3, rfl⟩
            clear hc2
            go_wp2
            go_ret
            exact ⟨by rw [HY.out]; rfl, below_drewN hB _⟩
      · have hge : decide (z ≥ 0) = false := decide_eq_false (by omega)
        have HN2 : Hid ((zs.take (k + 1)).any (gmP f g p) = false) := by show _ = _; rw [HST.out, HN.out, HPT.out, decide_eq_false hz0]; rfl
        clear hz0
        go_wp2
        go_roundw
        case rel => exact ⟨k + 1, by omega, by go_num, HN2, hB⟩
        case measure => simp [intOf]; omega
    · obtain rfl : k = n := by omega
      have HE : Hid (gmB zs f g p = false) := by have := HN.out; rw [List.take_of_length_le (by have := HL.out; omega)] at this; exact this
      go_wp2
      go_ret
      exact ⟨by rw [HE.out]; rfl, hB⟩
set_option maxHeartbeats 1000000 in
theorem l7Moves_any (A B : Option Addr) (n c m d : Nat) (zs : List (List Int)) (f : List Int) (p : Int) (w : World) (h : RSS w A n zs) (hf : RI w B m f) (hS : Sg zs) (hn : n ≤ 1048576) (hl : ∀ L ∈ zs, L.length ≤ 1048576) :
    Calls Tryz.prog 53 #[.slice A n c, .slice B m d, .int .i64 p] w fun e w' => e = .returned (.bool (mvD zs f p)) ∧ Below w.heap.size w w' := by
  have hF := l3Find_any A B n m c d zs f w h hf hn hl
  have hiff := fndI_iff (f := f) hS.srt
  obtain rfl := hf.len
  have HD : Hid (mvD zs f p = (decide (f ∈ zs) && (inB p 0 ((f.length : Int) - 1) && decide (0 ≤ ofL f p.toNat)))) := rfl
  have hfl : f ∈ zs → 1 ≤ f.length ∧ f.length ≤ 6 := fun hm => isC_len (hS.ch f hm).1
  have HFF := Lib.hid hf
  clear h hf hS hl
  generalize fndI zs f = t at *
  by_cases ht : 0 ≤ t
  · have hge : decide (t ≥ 0) = true := decide_eq_true ht
    have hm := hiff.1 ht
    obtain ⟨h1, h6⟩ := hfl hm
    have HD2 : Hid (mvD zs f p = (inB p 0 ((f.length : Int) - 1) && decide (0 ≤ ofL f p.toNat))) := by show _ = _; rw [HD.out, decide_eq_true hm]; rfl
    clear hiff hm hfl ht
    go_enter Tryz.func53, Tryz.ntmps53
    go_wp2_with fail
    refine Calls.mono hF ?_
    rintro e w2 ⟨rfl, q2, rfl⟩
    have hI := l6In_any p 0 ((f.length : Int) - 1) (w.drewN q2)
    clear hF
    cases hi : inB p 0 ((f.length : Int) - 1)
    · have HD3 : Hid (mvD zs f p = false) := by show _ = _; rw [HD2.out, hi]; rfl
      rw [hi] at hI
      clear hi
      go_wp2_with fail
      refine hI.mono ?_
      rintro e w3 ⟨rfl, rfl⟩
      clear hI
      go_wp2
      go_ret
      exact ⟨by rw [HD3.out]; rfl, below_drewN (Below.refl _ _) _⟩
    · have hpb : 0 ≤ p ∧ p ≤ (f.length : Int) - 1 := by unfold inB at hi; exact of_decide_eq_true hi
      obtain ⟨k, rfl⟩ : ∃ k : Nat, p = (k : Int) := ⟨p.toNat, by omega⟩
      have hkf : k < f.length := by omega
      obtain ⟨ad, rfl, hab, hc⟩ := HFF.out.at_ hkf
      replace hc : (w.drewN q2).cell? (ad.add k) = some (.int .i64 (ofL f k)) := hc
      have hki : (k : Int) < (f.length : Int) := by omega
      have HD3 : Hid (mvD zs f (k : Int) = decide (0 ≤ ofL f k)) := by show _ = _; rw [HD2.out, hi]; rfl
      rw [hi] at hI
      clear hi hpb HFF
      generalize ofL f k = z at *
      go_wp2_with fail
      refine hI.mono ?_
      rintro e w3 ⟨rfl, rfl⟩
      clear hI
      go_wp2
      go_ret
      exact ⟨by rw [HD3.out]; rfl, below_drewN (Below.refl _ _) _⟩
  · have hge : decide (t ≥ 0) = false := decide_eq_false (by omega)
    have HD2 : Hid (mvD zs f p = false) := by show _ = _; rw [HD.out, decide_eq_false (fun hm => ht (hiff.2 hm))]; rfl
    clear hiff hfl ht
    go_enter Tryz.func53, Tryz.ntmps53
    go_wp2_with fail
    refine Calls.mono hF ?_
    rintro e w2 ⟨rfl, q2, rfl⟩
    clear hF
    go_wp2
    go_ret
    exact ⟨by rw [HD2.out]; rfl, below_drewN (Below.refl _ _) _⟩
set_option maxHeartbeats 1000000 in
theorem specGsame_any (A B C : Option Addr) (n c m d m' d' : Nat) (zs : List (List Int)) (f g : List Int) (p : Int) (w : World) (h : RSS w A n zs) (hf : RI w B m f) (hg : RI w C m' g) (hn : n ≤ 1048576) (hl : ∀ L ∈ zs, L.length ≤ 1048576) :
    Calls Tryz.prog 15 #[.slice A n c, .slice B m d, .slice C m' d', .int .i64 p] w fun e w' => e = .returned (.bool (gsB zs f g p)) ∧ Below w.heap.size w w' := by
  have hsg := specSg_any A n c zs w h hn hl
  have HD : Hid (gsB zs f g p = (sgS zs && (mvD zs f p && (mvD zs g p && gmB zs f g p.toNat)))) := rfl
  cases hS : sgS zs
  · have HK : Hid (gsB zs f g p = false) := by show _ = _; rw [HD.out, hS]; rfl
    rw [hS] at hsg
    clear hS h hf hg hl
    go_enter Tryz.func15, Tryz.ntmps15
    go_wp2_with fail
    refine hsg.mono ?_
    rintro e w1 ⟨rfl, hb⟩
    clear hsg
    go_wp2
    go_ret
    exact ⟨by rw [HK.out]; rfl, hb⟩
  · have HX := Lib.hid (sgS_iff.1 hS)
    have HM1 : Hid (∀ W, Below w.heap.size w W → Calls Tryz.prog 53 #[.slice A n c, .slice B m d, .int .i64 p] W fun e w' => e = .returned (.bool (mvD zs f p)) ∧ Below W.heap.size W w') := fun W hW => l7Moves_any A B n c m d zs f p W (h.below hW) (hf.below hW) HX.out hn hl
    have HM2 : Hid (∀ W, Below w.heap.size w W → Calls Tryz.prog 53 #[.slice A n c, .slice C m' d', .int .i64 p] W fun e w' => e = .returned (.bool (mvD zs g p)) ∧ Below W.heap.size W w') := fun W hW => l7Moves_any A C n c m' d' zs g p W (h.below hW) (hg.below hW) HX.out hn hl
    have HM3 : Hid (∀ W, Below w.heap.size w W → mvD zs f p = true → mvD zs g p = true → Calls Tryz.prog 54 #[.slice A n c, .slice B m d, .slice C m' d', .int .i64 p] W fun e w' => e = .returned (.bool (gmB zs f g p.toNat)) ∧ Below W.heap.size W w') := fun W hW h1 h2 => by
      unfold mvD at h1 h2
      rw [Bool.and_eq_true, Bool.and_eq_true, decide_eq_true_eq] at h1 h2
      have c1 := HX.out.ch f h1.1
      have c2 := HX.out.ch g h2.1
      have l1 := hf.len
      have l2 := hg.len
      have hpb : 0 ≤ p ∧ p ≤ (f.length : Int) - 1 := by have := h1.2.1; unfold inB at this; exact of_decide_eq_true this
      have h6 := (isC_len c1.1).2
      obtain ⟨k, rfl⟩ : ∃ k : Nat, p = (k : Int) := ⟨p.toNat, by omega⟩
      obtain rfl : m' = m := by omega
      exact l7Germ_any A B C n c d d' m' zs f g k W (h.below hW) (hf.below hW) (hg.below hW) (fun L hL => by
        have c3 := HX.out.ch L hL
        exact ⟨isP_of c3.1 c1.1 (c3.2.trans c1.2.symm), isP_of c3.1 c2.1 (c3.2.trans c2.2.symm), by omega⟩) (by omega) hn (by omega)
    have HD2 : Hid (gsB zs f g p = (mvD zs f p && (mvD zs g p && gmB zs f g p.toNat))) := by show _ = _; rw [HD.out, hS]; rfl
    rw [hS] at hsg
    clear hS h hf hg hl
    go_enter Tryz.func15, Tryz.ntmps15
    go_wp2_with fail
    refine hsg.mono ?_
    rintro e w1 ⟨rfl, hb⟩
    have h1 := HM1.out w1 hb
    clear hsg
    cases e1 : mvD zs f p
    · have HK : Hid (gsB zs f g p = false) := by show _ = _; rw [HD2.out, e1]; rfl
      rw [e1] at h1
      clear e1
      go_wp2_with fail
      refine h1.mono ?_
      rintro e w2 ⟨rfl, hb2⟩
      have hB2 := hb.trans (hb2.mono hb.size)
      clear h1
      go_wp2
      go_ret
      exact ⟨by rw [HK.out]; rfl, hB2⟩
    · have HD3 : Hid (gsB zs f g p = (mvD zs g p && gmB zs f g p.toNat)) := by show _ = _; rw [HD2.out, e1]; rfl
      have HM3 := Lib.hid (fun W hW => HM3.out W hW e1)
      rw [e1] at h1
      clear e1
      go_wp2_with fail
      refine h1.mono ?_
      rintro e w2 ⟨rfl, hb2⟩
      have hB2 := hb.trans (hb2.mono hb.size)
      have h2 := HM2.out w2 hB2
      clear h1 hb hb2
      cases e2 : mvD zs g p
      · have HK : Hid (gsB zs f g p = false) := by show _ = _; rw [HD3.out, e2]; rfl
        rw [e2] at h2
        clear e2
        go_wp2_with fail
        refine h2.mono ?_
        rintro e w3 ⟨rfl, hb3⟩
        have hB3 := hB2.trans (hb3.mono hB2.size)
        clear h2
        go_wp2
        go_ret
        exact ⟨by rw [HK.out]; rfl, hB3⟩
      · have HK : Hid (gsB zs f g p = gmB zs f g p.toNat) := by show _ = _; rw [HD3.out, e2]; rfl
        rw [e2] at h2
        have HM4 := Lib.hid (fun W hW => HM3.out W hW e2)
        clear e2
        go_wp2_with fail
        refine h2.mono ?_
        rintro e w3 ⟨rfl, hb3⟩
        have hB3 := hB2.trans (hb3.mono hB2.size)
        have h3 := HM4.out w3 hB3
        clear h2 hb3 hB2
        generalize gmB zs f g p.toNat = r at *
        go_wp2_with fail
        refine h3.mono ?_
        rintro e w4 ⟨rfl, hb4⟩
        have hB4 := hB3.trans (hb4.mono hB3.size)
        clear h3
        go_wp2
        go_ret
        exact ⟨by rw [HK.out]; rfl, hB4⟩
end

/-! (impl.arrows).leastObject, (impl.arrow).germ; slices.Index and slices.Contains of arrows. -/
section
open Go.RowKit Go.Maps

def ldN (Ls : List (List Int)) : Nat := Ls.foldl (fun m L => m &&& doN L) 63
theorem ldN_step {Ls : List (List Int)} {k : Nat} {L : List Int} (h : Ls[k]? = some L) : ldN (Ls.take (k + 1)) = ldN (Ls.take k) &&& doN L := by
  unfold ldN
  rw [List.take_add_one, h, Option.toList_some, List.foldl_append]
  rfl
theorem foldl_and_le : ∀ (Ls : List (List Int)) (m : Nat), m < 64 → Ls.foldl (fun m L => m &&& doN L) m < 64
  | [], _, h => h
  | L :: Ls, m, h => foldl_and_le Ls _ (Nat.lt_of_le_of_lt Nat.and_le_left h)
theorem ldN_64 (Ls : List (List Int)) : ldN Ls < 64 := foldl_and_le Ls 63 (by omega)
theorem and64_fin : ∀ (a b : Fin 64), bits BinOp.and IntKind.i64 (a.val : Int) (b.val : Int) = ((a.val &&& b.val : Nat) : Int) := by decide +kernel
theorem and64_is {a b : Nat} (ha : a < 64) (hb : b < 64) : bits BinOp.and IntKind.i64 (a : Int) (b : Int) = ((a &&& b : Nat) : Int) := and64_fin ⟨a, ha⟩ ⟨b, hb⟩
set_option maxHeartbeats 1000000 in
theorem leastObj_any (m lo : Nat) (v : Value) (Ls : List (List Int)) (hq : Ls.length ≤ 1048576) (w : World) (hown : w.ownsRow lo 65 9 v Ls.length (awc m Ls)) :
    Calls Tryz.prog 50 #[v] w fun e w' => e = .returned (.int .i64 (ldN Ls : Nat)) ∧ Below w.heap.size w w' := by
  obtain ⟨A, cp, rfl⟩ := own_shape hown
  have HOW := Lib.hid hown
  clear hown
  go_enter Tryz.func50, Tryz.ntmps50
  go_wp2
  go_loopw [3, 8] (fun v i wr => ∃ k : Nat, k ≤ Ls.length ∧ i = .int .i64 (k : Int) ∧ v = .int .i64 ((ldN (Ls.take k) : Nat) : Int) ∧ Below w.heap.size w wr) (fun _ i _ => Ls.length - (intOf i).toNat)
  case atStart => exact ⟨0, Nat.zero_le _, rfl, rfl, Below.refl _ _⟩
  case round =>
    obtain ⟨k, hk, rfl, rfl, hB⟩ := hrel
    by_cases hlt : k < Ls.length
    · obtain ⟨L, hL⟩ : ∃ L, Ls[k]? = some L := ⟨_, List.getElem?_eq_getElem hlt⟩
      have hr1 := own_below HOW.out hB
      obtain ⟨g1, cp1, hv, _, hg1⟩ := hr1.form (by omega)
      injection hv with hv1 _ hv3
      subst hv1
      have hC1 : Ars wr g1 m Ls := Ars.of_own hr1
      obtain ⟨c0, c1, c2, c3, c4, c5, c6, c7, c8⟩ := hC1.all hL
      have HT := Lib.hid (ldN_step hL)
      have hB1 := hB.alloc hB.size (.cells #[.int .i64 ((m : Int)), .int .i64 (ofL L 0), .int .i64 (ofL L 1), .int .i64 (ofL L 2), .int .i64 (ofL L 3), .int .i64 (ofL L 4), .int .i64 (ofL L 5), .int .i64 ((doN L : Nat)), .int .i64 ((raN L : Nat))] 65)
      have HA := Lib.hid (and64_is (ldN_64 (Ls.take k)) (doN_64 L))
      clear hC1 hL hr1 hv3
      generalize ldN (Ls.take k) = ss at *
      go_wp2
      go_roundw
      case rel => exact ⟨k + 1, by omega, by go_num, by rw [HT.out, ← HA.out], hB1⟩
      case measure => simp [intOf]; omega
    · obtain rfl : k = Ls.length := by omega
      have HE : Hid (ldN (Ls.take Ls.length) = ldN Ls) := by show _ = _; rw [List.take_of_length_le (Nat.le_refl _)]
      go_wp2
      go_ret
      exact ⟨by rw [← HE.out]; rfl, hB⟩
theorem bel_put7 {B : Nat} {a W : World} {g : Nat} (h : Below B a W) (hg : B ≤ g) (v0 v1 v2 v3 v4 v5 v6 : Value) :
    Below B a (((((((W.setCell ⟨g, 0, none⟩ v0).setCell ⟨g, 1, none⟩ v1).setCell ⟨g, 2, none⟩ v2).setCell ⟨g, 3, none⟩ v3).setCell ⟨g, 4, none⟩ v4).setCell ⟨g, 5, none⟩ v5).setCell ⟨g, 6, none⟩ v6) :=
  ((((((h.setCell (p := ⟨g, 0, none⟩) hg v0).setCell (p := ⟨g, 1, none⟩) hg v1).setCell (p := ⟨g, 2, none⟩) hg v2).setCell (p := ⟨g, 3, none⟩) hg v3).setCell (p := ⟨g, 4, none⟩) hg v4).setCell (p := ⟨g, 5, none⟩) hg v5).setCell (p := ⟨g, 6, none⟩) hg v6
set_option maxHeartbeats 400000 in
theorem germ_any (n : Nat) (hn : n ≤ 6) (T : Nat → Int) (hT : Ok n T) (x y : Int) (m : Nat) (hm : m < 64) (w : World) :
    Calls Tryz.prog 51 #[.agg #[.int .i64 ((n : Int)), .int .i64 (T 0), .int .i64 (T 1), .int .i64 (T 2), .int .i64 (T 3), .int .i64 (T 4), .int .i64 (T 5), .int .i64 (x), .int .i64 (y)], .int .i64 (m : Int)] w fun e w' => ∃ T' : Nat → Int, e = .returned (.agg #[.int .i64 ((n : Int)), .int .i64 (T' 0), .int .i64 (T' 1), .int .i64 (T' 2), .int .i64 (T' 3), .int .i64 (T' 4), .int .i64 (T' 5)]) ∧ Hid (∀ j, j < 6 → T' j = cutL n m (mv T n) j) ∧ Below w.heap.size w w' := by
  have hB0 : Below w.heap.size w ((w.alloc (.cells #[.int .i64 ((n : Int)), .int .i64 (T 0), .int .i64 (T 1), .int .i64 (T 2), .int .i64 (T 3), .int .i64 (T 4), .int .i64 (T 5), .int .i64 (x), .int .i64 (y)] 65)).alloc (.cells #[.int .i64 ((0 : Int)), .int .i64 ((fun _ => (0 : Int)) 0), .int .i64 ((fun _ => (0 : Int)) 1), .int .i64 ((fun _ => (0 : Int)) 2), .int .i64 ((fun _ => (0 : Int)) 3), .int .i64 ((fun _ => (0 : Int)) 4), .int .i64 ((fun _ => (0 : Int)) 5)] 61)) := ((Below.refl _ w).alloc (Nat.le_refl _) _).alloc (by simp) _
  go_enter Tryz.func51, Tryz.ntmps51
  go_wp2_with fail
  refine (cut_any n hn T hT m hm _).mono ?_
  rintro e w1 ⟨T', rfl, HT', hb⟩
  have hk := Blk.new (w.alloc (.cells #[.int .i64 ((n : Int)), .int .i64 (T 0), .int .i64 (T 1), .int .i64 (T 2), .int .i64 (T 3), .int .i64 (T 4), .int .i64 (T 5), .int .i64 (x), .int .i64 (y)] 65)) 61 #[.int .i64 ((0 : Int)), .int .i64 ((fun _ => (0 : Int)) 0), .int .i64 ((fun _ => (0 : Int)) 1), .int .i64 ((fun _ => (0 : Int)) 2), .int .i64 ((fun _ => (0 : Int)) 3), .int .i64 ((fun _ => (0 : Int)) 4), .int .i64 ((fun _ => (0 : Int)) 5)]
  rw [World.size_alloc] at hk
  replace hk := hk.below hb hk.lt
  have c0 := hk.cell 0
  have c1 := hk.cell 1
  have c2 := hk.cell 2
  have c3 := hk.cell 3
  have c4 := hk.cell 4
  have c5 := hk.cell 5
  have c6 := hk.cell 6
  have f0 := hk.frozen 0
  have f1 := hk.frozen 1
  have f2 := hk.frozen 2
  have f3 := hk.frozen 3
  have f4 := hk.frozen 4
  have f5 := hk.frozen 5
  have f6 := hk.frozen 6
  have hlt := hk.lt
  have hB := hB0.trans (hb.mono hB0.size)
  have HB := Lib.hid (bel_put7 hB (Nat.le_succ w.heap.size) (.int .i64 (n : Int)) (.int .i64 (T' 0)) (.int .i64 (T' 1)) (.int .i64 (T' 2)) (.int .i64 (T' 3)) (.int .i64 (T' 4)) (.int .i64 (T' 5)))
  clear hk hb hB hB0
  go_wp2
  exact bodyPost_ret (v := .agg #[.int .i64 ((n : Int)), .int .i64 (T' 0), .int .i64 (T' 1), .int .i64 (T' 2), .int .i64 (T' 3), .int .i64 (T' 4), .int .i64 (T' 5)]) (by simp [results, Tryz.results51, go_sem, hlt, c0, c1, c2, c3, c4, c5, c6]) rfl ⟨T', rfl, HT', HB.out⟩
end

/-! slices.Index and slices.Contains of arrows. -/
section
open Go.RowKit Go.Maps

set_option maxHeartbeats 400000 in
theorem arr_eq8 (a0 a1 a2 a3 a4 a5 b0 b1 b2 b3 b4 b5 : Int) (w : World) :
    (Op.equalIn 9998 59 (.agg #[.int .i64 a0, .int .i64 a1, .int .i64 a2, .int .i64 a3, .int .i64 a4, .int .i64 a5]) (.agg #[.int .i64 b0, .int .i64 b1, .int .i64 b2, .int .i64 b3, .int .i64 b4, .int .i64 b5])).run Tryz.prog w = .ok (a0 == b0 && (a1 == b1 && (a2 == b2 && (a3 == b3 && (a4 == b4 && a5 == b5))))) w := by
  obtain ⟨i0, hi, hz0, hz1, hz2⟩ := info_parts info_int
  have hc : Tryz.prog.cellsOf 3 = 1 := by kernel_rfl
  have hpk : Tryz.prog.plainKey 3 = true := by kernel_rfl
  have hp : ∀ (xs : Array Value) (j : Nat) (v : Value) (W : World), xs[j]? = some v → (part 3 xs j).run Tryz.prog W = .ok v W := fun xs j v W h => run_part_plain W hpk h
  rw [run_equalIn_array w 9997 _ _ Tryz.underlying59 hi]
  have q0 := fun W => hp #[Value.int .i64 a0, .int .i64 a1, .int .i64 a2, .int .i64 a3, .int .i64 a4, .int .i64 a5] 0 _ W rfl
  have q1 := fun W => hp #[Value.int .i64 a0, .int .i64 a1, .int .i64 a2, .int .i64 a3, .int .i64 a4, .int .i64 a5] 1 _ W rfl
  have q2 := fun W => hp #[Value.int .i64 a0, .int .i64 a1, .int .i64 a2, .int .i64 a3, .int .i64 a4, .int .i64 a5] 2 _ W rfl
  have q3 := fun W => hp #[Value.int .i64 a0, .int .i64 a1, .int .i64 a2, .int .i64 a3, .int .i64 a4, .int .i64 a5] 3 _ W rfl
  have q4 := fun W => hp #[Value.int .i64 a0, .int .i64 a1, .int .i64 a2, .int .i64 a3, .int .i64 a4, .int .i64 a5] 4 _ W rfl
  have q5 := fun W => hp #[Value.int .i64 a0, .int .i64 a1, .int .i64 a2, .int .i64 a3, .int .i64 a4, .int .i64 a5] 5 _ W rfl
  have r0 := fun W => hp #[Value.int .i64 b0, .int .i64 b1, .int .i64 b2, .int .i64 b3, .int .i64 b4, .int .i64 b5] 0 _ W rfl
  have r1 := fun W => hp #[Value.int .i64 b0, .int .i64 b1, .int .i64 b2, .int .i64 b3, .int .i64 b4, .int .i64 b5] 1 _ W rfl
  have r2 := fun W => hp #[Value.int .i64 b0, .int .i64 b1, .int .i64 b2, .int .i64 b3, .int .i64 b4, .int .i64 b5] 2 _ W rfl
  have r3 := fun W => hp #[Value.int .i64 b0, .int .i64 b1, .int .i64 b2, .int .i64 b3, .int .i64 b4, .int .i64 b5] 3 _ W rfl
  have r4 := fun W => hp #[Value.int .i64 b0, .int .i64 b1, .int .i64 b2, .int .i64 b3, .int .i64 b4, .int .i64 b5] 4 _ W rfl
  have r5 := fun W => hp #[Value.int .i64 b0, .int .i64 b1, .int .i64 b2, .int .i64 b3, .int .i64 b4, .int .i64 b5] 5 _ W rfl
  have hq : ∀ (a b : Int) (W : World), (Op.equalIn 9997 3 (.int .i64 a) (.int .i64 b)).run Tryz.prog W = .ok (a == b) W := fun a b W => run_equalIn_int W 9996 3 .i64 .i64 a b Tryz.underlying3
  clear hp
  simp [Op.eqItems, hc, List.range_succ, q0, q1, q2, q3, q4, q5, r0, r1, r2, r3, r4, r5, hq]
  by_cases h0 : a0 = b0 <;> by_cases h1 : a1 = b1 <;> by_cases h2 : a2 = b2 <;> by_cases h3 : a3 = b3 <;> by_cases h4 : a4 = b4 <;> by_cases h5 : a5 = b5 <;> simp [h0, h1, h2, h3, h4, h5]
def eqAr (k0 m : Nat) (T : Nat → Int) (x y : Int) (L : List Int) : Bool := decide ((k0 : Int) = (m : Int)) && ((T 0 == ofL L 0 && (T 1 == ofL L 1 && (T 2 == ofL L 2 && (T 3 == ofL L 3 && (T 4 == ofL L 4 && T 5 == ofL L 5))))) && (decide (x = ((doN L : Nat) : Int)) && decide (y = ((raN L : Nat) : Int))))
theorem any_step3 {zs : List (List Int)} {p : List Int → Bool} {k : Nat} {L : List Int} (h : zs[k]? = some L) : (zs.take (k + 1)).any p = ((zs.take k).any p || p L) := by
  rw [List.take_add_one, h, Option.toList_some, List.any_append]; simp
set_option maxHeartbeats 2000000 in
theorem indexAr_any (m lo k0 : Nat) (x y : Int) (T : Nat → Int) (v : Value) (Ls : List (List Int)) (hq : Ls.length ≤ 1048576) (w : World) (hown : w.ownsRow lo 65 9 v Ls.length (awc m Ls)) :
    Calls Tryz.prog 94 #[v, .agg #[.int .i64 ((k0 : Int)), .int .i64 (T 0), .int .i64 (T 1), .int .i64 (T 2), .int .i64 (T 3), .int .i64 (T 4), .int .i64 (T 5), .int .i64 (x), .int .i64 (y)]] w fun e w' => ∃ r : Int, e = .returned (.int .i64 r) ∧ decide (r ≥ 0) = Ls.any (eqAr k0 m T x y) ∧ Below w.heap.size w w' := by
  obtain ⟨A, cp, rfl⟩ := own_shape hown
  have hX := Blk.new w 65 #[.int .i64 ((k0 : Int)), .int .i64 (T 0), .int .i64 (T 1), .int .i64 (T 2), .int .i64 (T 3), .int .i64 (T 4), .int .i64 (T 5), .int .i64 (x), .int .i64 (y)]
  have hB0 : Below w.heap.size w (w.alloc (.cells #[.int .i64 ((k0 : Int)), .int .i64 (T 0), .int .i64 (T 1), .int .i64 (T 2), .int .i64 (T 3), .int .i64 (T 4), .int .i64 (T 5), .int .i64 (x), .int .i64 (y)] 65)) := (Below.refl _ _).alloc (Nat.le_refl _) _
  have HOW := Lib.hid hown
  clear hown
  go_enter Tryz.func94, Tryz.ntmps94
  go_wp2
  go_loopw [8] (fun i wr => ∃ k : Nat, k ≤ Ls.length ∧ i = .int .i64 (k : Int) ∧ Hid ((Ls.take k).any (eqAr k0 m T x y) = false) ∧ Blk wr w.heap.size 65 #[.int .i64 ((k0 : Int)), .int .i64 (T 0), .int .i64 (T 1), .int .i64 (T 2), .int .i64 (T 3), .int .i64 (T 4), .int .i64 (T 5), .int .i64 (x), .int .i64 (y)] ∧ Below w.heap.size w wr) (fun i _ => Ls.length - (intOf i).toNat)
  case atStart => exact ⟨0, Nat.zero_le _, rfl, rfl, hX, hB0⟩
  case round =>
    clear hX hB0
    obtain ⟨k, hk, rfl, HN, hX, hB⟩ := hrel
    by_cases hlt : k < Ls.length
    · obtain ⟨L, hL⟩ : ∃ L, Ls[k]? = some L := ⟨_, List.getElem?_eq_getElem hlt⟩
      have hr1 := own_below HOW.out hB
      obtain ⟨g1, cp1, hv, _, hg1⟩ := hr1.form (by omega)
      injection hv with hv1 _ hv3
      subst hv1
      have hC1 : Ars wr g1 m Ls := Ars.of_own hr1
      have hki : (k : Int) < (Ls.length : Int) := by omega
      obtain ⟨c0, c1, c2, c3, c4, c5, c6, c7, c8⟩ := hC1.all hL
      have d0 := hX.cell 0
      have d1 := hX.cell 1
      have d2 := hX.cell 2
      have d3 := hX.cell 3
      have d4 := hX.cell 4
      have d5 := hX.cell 5
      have d6 := hX.cell 6
      have d7 := hX.cell 7
      have d8 := hX.cell 8
      have HST := Lib.hid (any_step3 (p := eqAr k0 m T x y) hL)
      have HM := Lib.hid (List.mem_of_getElem? hL)
      clear hC1 hr1 hv3 hL
      go_wp2
      obtain ⟨ab, hab⟩ : ∃ ab : Bool, (T 0 == ofL L 0 && (T 1 == ofL L 1 && (T 2 == ofL L 2 && (T 3 == ofL L 3 && (T 4 == ofL L 4 && T 5 == ofL L 5))))) = ab := ⟨_, rfl⟩
      have harr : ∀ W, (Op.equalIn 9998 59 (.agg #[.int .i64 (T 0), .int .i64 (T 1), .int .i64 (T 2), .int .i64 (T 3), .int .i64 (T 4), .int .i64 (T 5)]) (.agg #[.int .i64 (ofL L 0), .int .i64 (ofL L 1), .int .i64 (ofL L 2), .int .i64 (ofL L 3), .int .i64 (ofL L 4), .int .i64 (ofL L 5)])).run Tryz.prog W = .ok ab W := fun W => by rw [← hab]; exact arr_eq8 _ _ _ _ _ _ _ _ _ _ _ _ W
      obtain ⟨r, hr⟩ : ∃ r : Bool, r = (decide ((k0 : Int) = (m : Int)) && (ab && (decide (x = ((doN L : Nat) : Int)) && decide (y = ((raN L : Nat) : Int))))) := ⟨_, rfl⟩
      have HR : Hid (r = eqAr k0 m T x y L) := by show _ = _; rw [hr, ← hab]; rfl
      clear hab
      refine wp_region_held_drew (S := (fun w' => w'.cell? ⟨g1, k * 9, none⟩ = some (.int .i64 (m : Int)) ∧ w'.cell? ⟨g1, k * 9 + 1, none⟩ = some (.int .i64 (ofL L 0)) ∧ w'.cell? ⟨g1, k * 9 + 2, none⟩ = some (.int .i64 (ofL L 1)) ∧ w'.cell? ⟨g1, k * 9 + 3, none⟩ = some (.int .i64 (ofL L 2)) ∧ w'.cell? ⟨g1, k * 9 + 4, none⟩ = some (.int .i64 (ofL L 3)) ∧ w'.cell? ⟨g1, k * 9 + 5, none⟩ = some (.int .i64 (ofL L 4)) ∧ w'.cell? ⟨g1, k * 9 + 6, none⟩ = some (.int .i64 (ofL L 5)) ∧ w'.cell? ⟨g1, k * 9 + 7, none⟩ = some (.int .i64 (doN L : Nat)) ∧ w'.cell? ⟨g1, k * 9 + 8, none⟩ = some (.int .i64 (raN L : Nat)) ∧ w'.cell? ⟨w.heap.size, 0, none⟩ = some (.int .i64 (k0 : Int)) ∧ w'.cell? ⟨w.heap.size, 1, none⟩ = some (.int .i64 (T 0)) ∧ w'.cell? ⟨w.heap.size, 2, none⟩ = some (.int .i64 (T 1)) ∧ w'.cell? ⟨w.heap.size, 3, none⟩ = some (.int .i64 (T 2)) ∧ w'.cell? ⟨w.heap.size, 4, none⟩ = some (.int .i64 (T 3)) ∧ w'.cell? ⟨w.heap.size, 5, none⟩ = some (.int .i64 (T 4)) ∧ w'.cell? ⟨w.heap.size, 6, none⟩ = some (.int .i64 (T 5)) ∧ w'.cell? ⟨w.heap.size, 7, none⟩ = some (.int .i64 x) ∧ w'.cell? ⟨w.heap.size, 8, none⟩ = some (.int .i64 y))) (by kernel_rfl) ?_ (fun hHeld => ?_)
      · exact ⟨c0, c1, c2, c3, c4, c5, c6, c7, c8, d0, d1, d2, d3, d4, d5, d6, d7, d8⟩
      refine wpAnyH_take (i := 0) (v := .agg #[.int .i64 (k0 : Int), .int .i64 (T 0), .int .i64 (T 1), .int .i64 (T 2), .int .i64 (T 3), .int .i64 (T 4), .int .i64 (T 5), .int .i64 x, .int .i64 y]) (by rw [List.getElem?_toArray]; rfl) (by kernel_rfl) (by kernel_rfl) (by kernel_rfl) (by exact fun _ _ _ h => h) (Or.inl ⟨by rfl, fun w hSw => by (try dsimp only at hSw); (go_simp <;> (by_cases e1 : (k0 : Int) = (m : Int) <;> by_cases e2 : x = ((doN L : Nat) : Int) <;> by_cases e3 : y = ((raN L : Nat) : Int) <;> cases ab <;> simp_all))⟩) (by assumption) ?_
      try simp only [Act.put, List.setIfInBounds_toArray, List.set_cons_zero, List.set_cons_succ]
      refine wpAnyH_take (i := 1) (v := .slice (some ⟨g1, 0, none⟩) Ls.length cp) (by rw [List.getElem?_toArray]; rfl) (by kernel_rfl) (by kernel_rfl) (by kernel_rfl) (by exact fun _ _ _ h => h) (Or.inl ⟨by rfl, fun w hSw => by (try dsimp only at hSw); (go_simp <;> (by_cases e1 : (k0 : Int) = (m : Int) <;> by_cases e2 : x = ((doN L : Nat) : Int) <;> by_cases e3 : y = ((raN L : Nat) : Int) <;> cases ab <;> simp_all))⟩) (by assumption) ?_
      try simp only [Act.put, List.setIfInBounds_toArray, List.set_cons_zero, List.set_cons_succ]
      refine wpAnyH_take (i := 2) (v := .int .i64 (k : Int)) (by rw [List.getElem?_toArray]; rfl) (by kernel_rfl) (by kernel_rfl) (by kernel_rfl) (by exact fun _ _ _ h => h) (Or.inl ⟨by rfl, fun w hSw => by (try dsimp only at hSw); (go_simp <;> (by_cases e1 : (k0 : Int) = (m : Int) <;> by_cases e2 : x = ((doN L : Nat) : Int) <;> by_cases e3 : y = ((raN L : Nat) : Int) <;> cases ab <;> simp_all))⟩) (by assumption) ?_
      try simp only [Act.put, List.setIfInBounds_toArray, List.set_cons_zero, List.set_cons_succ]
      refine wpAnyH_take (i := 3) (v := .pointer (some ⟨g1, k * 9, none⟩)) (by rw [List.getElem?_toArray]; rfl) (by kernel_rfl) (by kernel_rfl) (by kernel_rfl) (by exact fun _ _ _ h => h) (Or.inl ⟨by rfl, fun w hSw => by (try dsimp only at hSw); (go_simp <;> (by_cases e1 : (k0 : Int) = (m : Int) <;> by_cases e2 : x = ((doN L : Nat) : Int) <;> by_cases e3 : y = ((raN L : Nat) : Int) <;> cases ab <;> simp_all))⟩) (by assumption) ?_
      try simp only [Act.put, List.setIfInBounds_toArray, List.set_cons_zero, List.set_cons_succ]
      refine wpAnyH_take (i := 4) (v := .agg #[.int .i64 (m : Int), .int .i64 (ofL L 0), .int .i64 (ofL L 1), .int .i64 (ofL L 2), .int .i64 (ofL L 3), .int .i64 (ofL L 4), .int .i64 (ofL L 5), .int .i64 (doN L : Nat), .int .i64 (raN L : Nat)]) (by rw [List.getElem?_toArray]; rfl) (by kernel_rfl) (by kernel_rfl) (by kernel_rfl) (by exact fun _ _ _ h => h) (Or.inl ⟨by rfl, fun w hSw => by (try dsimp only at hSw); (go_simp <;> (by_cases e1 : (k0 : Int) = (m : Int) <;> by_cases e2 : x = ((doN L : Nat) : Int) <;> by_cases e3 : y = ((raN L : Nat) : Int) <;> cases ab <;> simp_all))⟩) (by assumption) ?_
      try simp only [Act.put, List.setIfInBounds_toArray, List.set_cons_zero, List.set_cons_succ]
      refine wpAnyH_take (i := 5) (v := .bool r) (by rw [List.getElem?_toArray]; rfl) (by kernel_rfl) (by kernel_rfl) (by kernel_rfl) (by exact fun _ _ _ h => h) (Or.inl ⟨by rfl, fun w hSw => by (try dsimp only at hSw); (go_simp <;> (by_cases e1 : (k0 : Int) = (m : Int) <;> by_cases e2 : x = ((doN L : Nat) : Int) <;> by_cases e3 : y = ((raN L : Nat) : Int) <;> cases ab <;> simp_all))⟩) (by assumption) ?_
      try simp only [Act.put, List.setIfInBounds_toArray, List.set_cons_zero, List.set_cons_succ]
      refine wpAnyH_done (by kernel_rfl) ?_ _
      have hX2 := hX.drew
      have hB2 := hB.drew
      clear c0 c1 c2 c3 c4 c5 c6 c7 c8 d0 d1 d2 d3 d4 d5 d6 d7 d8 hX hB harr hHeld hr
      cases r
      · have HN2 : Hid ((Ls.take (k + 1)).any (eqAr k0 m T x y) = false) := by show _ = _; rw [HST.out, HN.out, ← HR.out]; rfl
        go_wp2
        go_roundw
        case rel => exact ⟨k + 1, by omega, by go_num, HN2, hX2, hB2⟩
        case measure => simp [intOf]; omega
      · have HA : Hid (Ls.any (eqAr k0 m T x y) = true) := List.any_eq_true.2 ⟨L, HM.out, HR.out.symm⟩
        go_wp2
        go_ret
        exact ⟨_, rfl, by rw [HA.out]; exact decide_eq_true (by omega), hB2⟩
    · obtain rfl : k = Ls.length := by omega
      have HA : Hid (Ls.any (eqAr k0 m T x y) = false) := by have := HN.out; rw [List.take_of_length_le (Nat.le_refl _)] at this; exact this
      go_wp2
      go_ret
      exact ⟨-1, rfl, by rw [HA.out]; rfl, hB⟩
set_option maxHeartbeats 400000 in
theorem containsAr_any (m lo k0 : Nat) (x y : Int) (T : Nat → Int) (v : Value) (Ls : List (List Int)) (hq : Ls.length ≤ 1048576) (w : World) (hown : w.ownsRow lo 65 9 v Ls.length (awc m Ls)) :
    Calls Tryz.prog 49 #[v, .agg #[.int .i64 ((k0 : Int)), .int .i64 (T 0), .int .i64 (T 1), .int .i64 (T 2), .int .i64 (T 3), .int .i64 (T 4), .int .i64 (T 5), .int .i64 (x), .int .i64 (y)]] w fun e w' => e = .returned (.bool (Ls.any (eqAr k0 m T x y))) ∧ Below w.heap.size w w' := by
  have hB0 : Below w.heap.size w (w.alloc (.cells #[.int .i64 ((k0 : Int)), .int .i64 (T 0), .int .i64 (T 1), .int .i64 (T 2), .int .i64 (T 3), .int .i64 (T 4), .int .i64 (T 5), .int .i64 (x), .int .i64 (y)] 65)) := (Below.refl _ _).alloc (Nat.le_refl _) _
  have hI := indexAr_any m lo k0 x y T v Ls hq _ (hown.alloc (.cells #[.int .i64 ((k0 : Int)), .int .i64 (T 0), .int .i64 (T 1), .int .i64 (T 2), .int .i64 (T 3), .int .i64 (T 4), .int .i64 (T 5), .int .i64 (x), .int .i64 (y)] 65))
  obtain ⟨A, cp, rfl⟩ := own_shape hown
  have hs := hB0.size
  clear hown
  go_enter Tryz.func49, Tryz.ntmps49
  go_wp2_with fail
  refine hI.mono ?_
  rintro e w1 ⟨r, rfl, hr, hb⟩
  have HR := Lib.hid hr
  have hB := hB0.trans (hb.mono hs)
  clear hr hI hb
  go_wp2
  go_ret
  exact ⟨by rw [← HR.out]; rfl, hB⟩
end

/-! GermSame of the program. -/
section
open Go.RowKit Go.Maps

theorem s18g {W : World} {x y k : Nat} {T G : Nat → Int} {t1 t2 u1 u2 : Int} (hx : Blk W x 65 #[.int .i64 ((k : Int)), .int .i64 (T 0), .int .i64 (T 1), .int .i64 (T 2), .int .i64 (T 3), .int .i64 (T 4), .int .i64 (T 5), .int .i64 (t1), .int .i64 (t2)]) (hy : Blk W y 65 #[.int .i64 ((k : Int)), .int .i64 (G 0), .int .i64 (G 1), .int .i64 (G 2), .int .i64 (G 3), .int .i64 (G 4), .int .i64 (G 5), .int .i64 (u1), .int .i64 (u2)]) :
    W.cell? ⟨x, 0, none⟩ = some (.int .i64 (k : Int)) ∧ W.cell? ⟨x, 1, none⟩ = some (.int .i64 (T 0)) ∧ W.cell? ⟨x, 2, none⟩ = some (.int .i64 (T 1)) ∧ W.cell? ⟨x, 3, none⟩ = some (.int .i64 (T 2)) ∧ W.cell? ⟨x, 4, none⟩ = some (.int .i64 (T 3)) ∧ W.cell? ⟨x, 5, none⟩ = some (.int .i64 (T 4)) ∧ W.cell? ⟨x, 6, none⟩ = some (.int .i64 (T 5)) ∧ W.cell? ⟨x, 7, none⟩ = some (.int .i64 (t1)) ∧ W.cell? ⟨x, 8, none⟩ = some (.int .i64 (t2)) ∧ W.cell? ⟨y, 0, none⟩ = some (.int .i64 (k : Int)) ∧ W.cell? ⟨y, 1, none⟩ = some (.int .i64 (G 0)) ∧ W.cell? ⟨y, 2, none⟩ = some (.int .i64 (G 1)) ∧ W.cell? ⟨y, 3, none⟩ = some (.int .i64 (G 2)) ∧ W.cell? ⟨y, 4, none⟩ = some (.int .i64 (G 3)) ∧ W.cell? ⟨y, 5, none⟩ = some (.int .i64 (G 4)) ∧ W.cell? ⟨y, 6, none⟩ = some (.int .i64 (G 5)) ∧ W.cell? ⟨y, 7, none⟩ = some (.int .i64 (u1)) ∧ W.cell? ⟨y, 8, none⟩ = some (.int .i64 (u2)) := ⟨hx.cell 0, hx.cell 1, hx.cell 2, hx.cell 3, hx.cell 4, hx.cell 5, hx.cell 6, hx.cell 7, hx.cell 8, hy.cell 0, hy.cell 1, hy.cell 2, hy.cell 3, hy.cell 4, hy.cell 5, hy.cell 6, hy.cell 7, hy.cell 8⟩
theorem ar9 {W : World} {g : Nat} {v0 v1 v2 v3 v4 v5 v6 v7 v8 : Value} (h' : Blk W g 65 #[v0, v1, v2, v3, v4, v5, v6, v7, v8]) :
    W.cell? ⟨g, 0, none⟩ = some v0 ∧ W.cell? ⟨g, 1, none⟩ = some v1 ∧ W.cell? ⟨g, 2, none⟩ = some v2 ∧ W.cell? ⟨g, 3, none⟩ = some v3 ∧ W.cell? ⟨g, 4, none⟩ = some v4 ∧ W.cell? ⟨g, 5, none⟩ = some v5 ∧ W.cell? ⟨g, 6, none⟩ = some v6 ∧ W.cell? ⟨g, 7, none⟩ = some v7 ∧ W.cell? ⟨g, 8, none⟩ = some v8 :=
  ⟨h'.cell 0, h'.cell 1, h'.cell 2, h'.cell 3, h'.cell 4, h'.cell 5, h'.cell 6, h'.cell 7, h'.cell 8⟩
theorem kcutQ {α : Type} {Q : Prop} (P : α → Prop) {F : α} (h1 : P F → Q) (h2 : P F) : Q := h1 h2
/-- the chart is among those that move the point -/
theorem cont_is {zs : List (List Int)} {p : Int} {f : List Int} {k : Nat} {T : Nat → Int} (hy : isC f = true → k = f.length ∧ ∀ j, j < 6 → T j = ofL f j) (hno : isC f = false → k = 0 ∧ ∀ j, j < 6 → T j = 0) :
    (atLs zs p).any (eqAr k (m0 zs) T (domL (mv T k) : Nat) (imN k T : Nat)) = decide (f ∈ atLs zs p) := by
  have hL : ∀ L ∈ atLs zs p, isC L = true ∧ L.length = m0 zs := fun L h => by
    obtain ⟨hS, _, _, hz, _⟩ := atLs_mem h
    exact (sgS_iff.1 hS).ch L hz
  cases hc : isC f
  · have hk := (hno hc).1
    rw [decide_eq_false (fun h => by have := (hL f h).1; rw [hc] at this; cases this)]
    rw [← Bool.not_eq_true, List.any_eq_true]
    rintro ⟨L, h1, h2⟩
    obtain ⟨c, l⟩ := hL L h1
    unfold eqAr at h2
    rw [Bool.and_eq_true, decide_eq_true_eq] at h2
    have := (isC_len c).1
    omega
  · obtain ⟨hk, hT⟩ := hy hc
    have h6 := (isC_len hc).2
    rw [Bool.eq_iff_iff, decide_eq_true_eq, List.any_eq_true]
    constructor
    · rintro ⟨L, h1, h2⟩
      obtain ⟨c, l⟩ := hL L h1
      have l6 := (isC_len c).2
      unfold eqAr at h2
      simp only [Bool.and_eq_true, decide_eq_true_eq, beq_iff_eq] at h2
      obtain ⟨e0, ⟨t0, t1, t2, t3, t4, t5⟩, _, _⟩ := h2
      have e : f = L := ofL_ext (n := f.length) rfl (by omega) (fun j hj => by
        rw [← hT j (by omega)]
        rcases (show j = 0 ∨ j = 1 ∨ j = 2 ∨ j = 3 ∨ j = 4 ∨ j = 5 by omega) with rfl | rfl | rfl | rfl | rfl | rfl
        · exact t0
        · exact t1
        · exact t2
        · exact t3
        · exact t4
        · exact t5)
      rw [e]; exact h1
    · intro h1
      obtain ⟨c, l⟩ := hL f h1
      have hcc := c9_of c l
      refine ⟨f, h1, ?_⟩
      unfold eqAr
      have hkm : k = m0 zs := by omega
      have e1 : domL (mv T k) = doN f := by rw [doN_congr (by omega) hT, hkm]; exact hcc.1
      have e2 : imN k T = raN f := by rw [imN_congr (by omega) hT, hkm]; exact hcc.2
      rw [e1, e2, hkm, hT 0 (by omega), hT 1 (by omega), hT 2 (by omega), hT 3 (by omega), hT 4 (by omega), hT 5 (by omega)]
      simp
def geB (f g : List Int) (ld : Nat) : Bool := decide (∀ j, j < f.length → ld.testBit j = true → ofL f j = ofL g j)
def giB (zs : List (List Int)) (f g : List Int) (p : Int) : Bool := decide (f ∈ atLs zs p) && (decide (g ∈ atLs zs p) && geB f g (ldN (atLs zs p)))
theorem cut_at {f : List Int} (h : isC f = true) {T T' : Nat → Int} (hT : ∀ j, j < 6 → T j = ofL f j) {ld : Nat} (hT' : ∀ j, j < 6 → T' j = cutL f.length ld (mv T f.length) j) : ∀ j, j < 6 → T' j = if j < f.length then (if ld.testBit j = true then ofL f j else -1) else 0 := fun j hj => by
  rw [hT' j hj, cut_closed _ _ _ _ _ (isC_len h).2]
  by_cases hl : j < f.length
  · rw [if_pos hl]
    have := isC_ent h j hl
    have h6 := (isC_len h).2
    rw [hT j hj]
    have e : ofL f j = f[j]?.getD 0 := rfl
    by_cases hb : ld.testBit j = true
    · rw [if_pos hb]
      by_cases h0 : 0 ≤ ofL f j
      · rw [if_pos ⟨⟨hl, h0, by omega⟩, hb⟩]
      · rw [if_neg (fun h => h0 h.1.2.1)]; unfold stillF; rw [if_pos hl]; omega
    · rw [if_neg hb, if_neg (fun h => hb h.2)]; unfold stillF; rw [if_pos hl]
  · rw [if_neg hl, if_neg (fun h => hl h.1.1)]; unfold stillF; rw [if_neg hl]
theorem ge_is {f g : List Int} (hf : isC f = true) (hg : isC g = true) (hl : f.length = g.length) {ld : Nat} {T' G' : Nat → Int}
    (h1 : ∀ j, j < 6 → T' j = if j < f.length then (if ld.testBit j = true then ofL f j else -1) else 0) (h2 : ∀ j, j < 6 → G' j = if j < g.length then (if ld.testBit j = true then ofL g j else -1) else 0) :
    (T' 0 == G' 0 && (T' 1 == G' 1 && (T' 2 == G' 2 && (T' 3 == G' 3 && (T' 4 == G' 4 && T' 5 == G' 5))))) = geB f g ld := by
  have h6 := (isC_len hf).2
  unfold geB
  rw [Bool.eq_iff_iff, decide_eq_true_eq]
  simp only [Bool.and_eq_true, beq_iff_eq]
  constructor
  · rintro ⟨t0, t1, t2, t3, t4, t5⟩ j hj hb
    have key : T' j = G' j := by
      rcases (show j = 0 ∨ j = 1 ∨ j = 2 ∨ j = 3 ∨ j = 4 ∨ j = 5 by omega) with rfl | rfl | rfl | rfl | rfl | rfl
      · exact t0
      · exact t1
      · exact t2
      · exact t3
      · exact t4
      · exact t5
    rw [h1 j (by omega), h2 j (by omega), if_pos hj, if_pos (show j < g.length by omega), if_pos hb] at key
    try rw [if_pos hb] at key
    exact key
  · intro h
    have key : ∀ j, j < 6 → T' j = G' j := fun j hj => by
      rw [h1 j hj, h2 j hj]
      by_cases hl2 : j < f.length
      · rw [if_pos hl2, if_pos (show j < g.length by omega)]
        by_cases hb : ld.testBit j = true
        · simp only [hb, if_true]; exact h j hl2 hb
        · simp [hb]
      · rw [if_neg hl2, if_neg (show ¬ j < g.length by omega)]
    exact ⟨key 0 (by omega), key 1 (by omega), key 2 (by omega), key 3 (by omega), key 4 (by omega), key 5 (by omega)⟩
theorem blk_far9g {W : World} {b g : Nat} {t : TypeId} {cs : Array Value} (h : Blk W b t cs) (hp : b ≠ g) (v0 v1 v2 v3 v4 v5 v6 v7 v8 : Value) : Blk (((((((((W.setCell ⟨g, 0, none⟩ v0).setCell ⟨g, 1, none⟩ v1).setCell ⟨g, 2, none⟩ v2).setCell ⟨g, 3, none⟩ v3).setCell ⟨g, 4, none⟩ v4).setCell ⟨g, 5, none⟩ v5).setCell ⟨g, 6, none⟩ v6).setCell ⟨g, 7, none⟩ v7).setCell ⟨g, 8, none⟩ v8) b t cs := ((((((((h.far hp _).far hp _).far hp _).far hp _).far hp _).far hp _).far hp _).far hp _).far hp _
theorem blk_put9g {W : World} {g : Nat} {t : TypeId} {x0 x1 x2 x3 x4 x5 x6 x7 x8 : Value} (h : Blk W g t #[x0, x1, x2, x3, x4, x5, x6, x7, x8]) (v0 v1 v2 v3 v4 v5 v6 v7 v8 : Value) : Blk (((((((((W.setCell ⟨g, 0, none⟩ v0).setCell ⟨g, 1, none⟩ v1).setCell ⟨g, 2, none⟩ v2).setCell ⟨g, 3, none⟩ v3).setCell ⟨g, 4, none⟩ v4).setCell ⟨g, 5, none⟩ v5).setCell ⟨g, 6, none⟩ v6).setCell ⟨g, 7, none⟩ v7).setCell ⟨g, 8, none⟩ v8) g t #[v0, v1, v2, v3, v4, v5, v6, v7, v8] := by
  have h2 := ((((((((h.set_ 0 v0).set_ 1 v1).set_ 2 v2).set_ 3 v3).set_ 4 v4).set_ 5 v5).set_ 6 v6).set_ 7 v7).set_ 8 v8
  simp only [List.setIfInBounds_toArray, List.set_cons_zero, List.set_cons_succ] at h2
  exact h2
theorem bel_put9g {B : Nat} {a W : World} {g : Nat} (h : Below B a W) (hg : B ≤ g) (v0 v1 v2 v3 v4 v5 v6 v7 v8 : Value) : Below B a (((((((((W.setCell ⟨g, 0, none⟩ v0).setCell ⟨g, 1, none⟩ v1).setCell ⟨g, 2, none⟩ v2).setCell ⟨g, 3, none⟩ v3).setCell ⟨g, 4, none⟩ v4).setCell ⟨g, 5, none⟩ v5).setCell ⟨g, 6, none⟩ v6).setCell ⟨g, 7, none⟩ v7).setCell ⟨g, 8, none⟩ v8) := ((((((((h.setCell (p := ⟨g, 0, none⟩) hg v0).setCell (p := ⟨g, 1, none⟩) hg v1).setCell (p := ⟨g, 2, none⟩) hg v2).setCell (p := ⟨g, 3, none⟩) hg v3).setCell (p := ⟨g, 4, none⟩) hg v4).setCell (p := ⟨g, 5, none⟩) hg v5).setCell (p := ⟨g, 6, none⟩) hg v6).setCell (p := ⟨g, 7, none⟩) hg v7).setCell (p := ⟨g, 8, none⟩) hg v8

set_option maxHeartbeats 4000000 in
theorem implGsame_any (A B C : Option Addr) (n c m d m' d' : Nat) (zs : List (List Int)) (f g : List Int) (p : Int) (w : World) (h : RSS w A n zs) (hf : RI w B m f) (hg : RI w C m' g) (he : EtAt w) :
    Calls Tryz.prog 14 #[.slice A n c, .slice B m d, .slice C m' d', .int .i64 p] w fun e w' => e = .returned (.bool (giB zs f g p)) ∧ Below w.heap.size w w' := by
  have HGI : Hid (giB zs f g p = (decide (f ∈ atLs zs p) && (decide (g ∈ atLs zs p) && geB f g (ldN (atLs zs p))))) := rfl
  have HLA : Hid (∀ L ∈ atLs zs p, isC L = true ∧ L.length = m0 zs) := fun L h => by
    obtain ⟨hS, _, _, hz, _⟩ := atLs_mem h
    exact (sgS_iff.1 hS).ch L hz
  have hq : (atLs zs p).length ≤ 1048576 := by have := atLs_len zs p; omega
  have hAt := arrowsAt_any A n c zs p w h he
  have hF : ∀ W, Below w.heap.size w W → Calls Tryz.prog 47 #[.slice B m d] W (OfPost f W) := fun W hW => chartOf_any B m d f W (hf.below hW)
  have hG' : ∀ W, Below w.heap.size w W → Calls Tryz.prog 47 #[.slice C m' d'] W (OfPost g W) := fun W hW => chartOf_any C m' d' g W (hg.below hW)
  have HF := Lib.hid hF
  have HG := Lib.hid hG'
  clear h hf hg he hF hG'
  go_enter Tryz.func14, Tryz.ntmps14
  go_wp2_with fail
  refine hAt.mono ?_
  rintro e w1 ⟨v, rfl, hown, hb1⟩
  obtain ⟨Av, cv, rfl⟩ := own_shape hown
  have hc1 := HF.out w1 hb1
  have hs1 := hb1.size
  clear hAt
  go_wp2_with fail
  refine hc1.mono ?_
  rintro e w2 ⟨k, T, rfl, hy, hno, hb2⟩
  have hown2 := own_below hown hb2
  have hB2 := hb1.trans (hb2.mono hs1)
  have hk : k ≤ 6 := by
    cases hc : isC f
    · have := (hno hc).1; omega
    · have := (hy hc).1; have := (isC_len hc).2; omega
  have hT : Ok k T := by
    cases hc : isC f
    · rw [(hno hc).1]; exact fun j hj => absurd hj (Nat.not_lt_zero j)
    · obtain ⟨e1, e2⟩ := hy hc
      rw [e1]
      exact (ent_ok (isC_len hc).2 (isC_ent hc)).congr (fun j hj => e2 j hj) (isC_len hc).2
  have HY := Lib.hid hy
  have HNO := Lib.hid hno
  clear hown hb1 hb2 hc1 hy hno hs1
  go_wp2_with fail
  have hBx := hB2.alloc hB2.size (.cells #[.int .i64 ((k : Int)), .int .i64 (T 0), .int .i64 (T 1), .int .i64 (T 2), .int .i64 (T 3), .int .i64 (T 4), .int .i64 (T 5)] 61)
  have hcx := Cb.new w2 k T
  have hownx := hown2.alloc (.cells #[.int .i64 ((k : Int)), .int .i64 (T 0), .int .i64 (T 1), .int .i64 (T 2), .int .i64 (T 3), .int .i64 (T 4), .int .i64 (T 5)] 61)
  have hc2 := HG.out _ hBx
  have hs2 := hBx.size
  clear hown2 hB2
  go_wp2_with fail
  refine hc2.mono ?_
  rintro e w3 ⟨k2, G, rfl, hy2, hno2, hb3⟩
  have hk2 : k2 ≤ 6 := by
    cases hc : isC g
    · have := (hno2 hc).1; omega
    · have := (hy2 hc).1; have := (isC_len hc).2; omega
  have hG : Ok k2 G := by
    cases hc : isC g
    · rw [(hno2 hc).1]; exact fun j hj => absurd hj (Nat.not_lt_zero j)
    · obtain ⟨e1, e2⟩ := hy2 hc
      rw [e1]
      exact (ent_ok (isC_len hc).2 (isC_ent hc)).congr (fun j hj => e2 j hj) (isC_len hc).2
  have HY2 := Lib.hid hy2
  have HNO2 := Lib.hid hno2
  have hc3 := hcx.below hb3 hcx.lt
  have hown3 := own_below hownx hb3
  have hB3 := hBx.trans (hb3.mono hs2)
  clear hBx hcx hownx hc2 hb3 hs2 hy2 hno2
  go_wp2_with fail
  have hc0 := hc3.alloc (.cells #[.int .i64 ((k2 : Int)), .int .i64 (G 0), .int .i64 (G 1), .int .i64 (G 2), .int .i64 (G 3), .int .i64 (G 4), .int .i64 (G 5)] 61)
  have hd0 := Cb.new w3 k2 G
  have hown0 := hown3.alloc (.cells #[.int .i64 ((k2 : Int)), .int .i64 (G 0), .int .i64 (G 1), .int .i64 (G 2), .int .i64 (G 3), .int .i64 (G 4), .int .i64 (G 5)] 61)
  have hB0 := hB3.alloc hB3.size (.cells #[.int .i64 ((k2 : Int)), .int .i64 (G 0), .int .i64 (G 1), .int .i64 (G 2), .int .i64 (G 3), .int .i64 (G 4), .int .i64 (G 5)] 61)
  clear hc3 hown3 hB3
  generalize w3.alloc (.cells #[.int .i64 ((k2 : Int)), .int .i64 (G 0), .int .i64 (G 1), .int .i64 (G 2), .int .i64 (G 3), .int .i64 (G 4), .int .i64 (G 5)] 61) = V0 at *
  generalize w2.heap.size = bc at *
  generalize w3.heap.size = bd at *
  have hV : Below V0.heap.size V0 V0 := Below.refl _ _
  rename_i K1 aK1
  apply kcutQ (fun F : Nat → Nat → Act => Hid (∀ (W : World) (x y : Nat), Blk W x 65 #[(.int .i64 (k : Int)), (.int .i64 (T 0)), (.int .i64 (T 1)), (.int .i64 (T 2)), (.int .i64 (T 3)), (.int .i64 (T 4)), (.int .i64 (T 5)), (.int .i64 (domL (mv T k) : Nat)), (.int .i64 (imN k T : Nat))] → Blk W y 65 #[(.int .i64 (k2 : Int)), (.int .i64 (G 0)), (.int .i64 (G 1)), (.int .i64 (G 2)), (.int .i64 (G 3)), (.int .i64 (G 4)), (.int .i64 (G 5)), (.int .i64 (domL (mv G k2) : Nat)), (.int .i64 (imN k2 G : Nat))] → Below V0.heap.size V0 W → K1 (F x y) W))
  case h1 =>
    intro HK
    refine wp_region_held_drew (S := (fun w' => w'.cell? ⟨bc, 0, none⟩ = some (.int .i64 (k : Int)) ∧ w'.cell? ⟨bc, 1, none⟩ = some (.int .i64 (T 0)) ∧ w'.cell? ⟨bc, 2, none⟩ = some (.int .i64 (T 1)) ∧ w'.cell? ⟨bc, 3, none⟩ = some (.int .i64 (T 2)) ∧ w'.cell? ⟨bc, 4, none⟩ = some (.int .i64 (T 3)) ∧ w'.cell? ⟨bc, 5, none⟩ = some (.int .i64 (T 4)) ∧ w'.cell? ⟨bc, 6, none⟩ = some (.int .i64 (T 5)) ∧ w'.cell? ⟨bd, 0, none⟩ = some (.int .i64 (k2 : Int)) ∧ w'.cell? ⟨bd, 1, none⟩ = some (.int .i64 (G 0)) ∧ w'.cell? ⟨bd, 2, none⟩ = some (.int .i64 (G 1)) ∧ w'.cell? ⟨bd, 3, none⟩ = some (.int .i64 (G 2)) ∧ w'.cell? ⟨bd, 4, none⟩ = some (.int .i64 (G 3)) ∧ w'.cell? ⟨bd, 5, none⟩ = some (.int .i64 (G 4)) ∧ w'.cell? ⟨bd, 6, none⟩ = some (.int .i64 (G 5)))) (by kernel_rfl) ?_ (fun hHeld => ?_)
    · exact s14 hc0 hd0
    replace hV : Below V0.heap.size V0 V0.drew := (Below.refl _ _).drew
    clear hHeld
    generalize V0.drew = D0 at *
    refine wpAnyH_take (i := 0) (v := .agg #[.int .i64 ((k : Int)), .int .i64 (T 0), .int .i64 (T 1), .int .i64 (T 2), .int .i64 (T 3), .int .i64 (T 4), .int .i64 (T 5)]) (by rw [List.getElem?_toArray]; rfl) (by kernel_rfl) (by kernel_rfl) (by kernel_rfl) (by exact fun _ _ _ h => h) (Or.inl ⟨by rfl, fun w hSw => by (try dsimp only at hSw); go_simp⟩) (s14 (hc0.below hV hc0.lt) (hd0.below hV hd0.lt)) ?_
    try simp only [Act.put, List.setIfInBounds_toArray, List.set_cons_zero, List.set_cons_succ]
    refine wpAnyH_take (i := 2) (v := .agg #[.int .i64 ((k2 : Int)), .int .i64 (G 0), .int .i64 (G 1), .int .i64 (G 2), .int .i64 (G 3), .int .i64 (G 4), .int .i64 (G 5)]) (by rw [List.getElem?_toArray]; rfl) (by kernel_rfl) (by kernel_rfl) (by kernel_rfl) (by exact fun _ _ _ h => h) (Or.inl ⟨by rfl, fun w hSw => by (try dsimp only at hSw); go_simp⟩) (s14 (hc0.below hV hc0.lt) (hd0.below hV hd0.lt)) ?_
    try simp only [Act.put, List.setIfInBounds_toArray, List.set_cons_zero, List.set_cons_succ]
    refine wpAnyH_ready (rs := [1, 4, 5]) (by kernel_rfl) (by simp) ?_
    refine AllReadyH.cons (o := _) (by rw [List.getElem?_toArray]; rfl) (fun K hK => ?_) ?_
    · go_simp
      refine (arrowOf_any k hk T hT _).mono ?_
      rintro e V1 ⟨rfl, hb1⟩
      replace hV := bel_keep hb1 hV rfl rfl rfl rfl hV.size
      clear hb1
      refine hK.out _ _ ?_ (fun hHeld1 => ?_)
      · exact s14 (hc0.below hV hc0.lt) (hd0.below hV hd0.lt)
      clear hK K hHeld1
      try simp only [Act.put, List.setIfInBounds_toArray, List.set_cons_zero, List.set_cons_succ]
      refine wpAnyH_ready (rs := [3, 4, 5]) (by kernel_rfl) (by simp) ?_
      refine AllReadyH.cons (o := _) (by rw [List.getElem?_toArray]; rfl) (fun K hK => ?_) ?_
      · go_simp
        refine (arrowOf_any k2 hk2 G hG _).mono ?_
        rintro e V2 ⟨rfl, hb1⟩
        replace hV := bel_keep hb1 hV rfl rfl rfl rfl hV.size
        clear hb1
        refine hK.out _ _ ?_ (fun hHeld2 => ?_)
        · exact s14 (hc0.below hV hc0.lt) (hd0.below hV hd0.lt)
        clear hK K hHeld2
        try simp only [Act.put, List.setIfInBounds_toArray, List.set_cons_zero, List.set_cons_succ]
        refine wpAnyH_ready (rs := [4, 5]) (by kernel_rfl) (by simp) ?_
        refine AllReadyH.cons (o := _) (by rw [List.getElem?_toArray]; rfl) (fun K hK => ?_) ?_
        · go_simp
          have hsz10 := hV.size
          replace hV := hV.alloc hV.size (.cells #[.int .i64 0, .int .i64 0, .int .i64 0, .int .i64 0, .int .i64 0, .int .i64 0, .int .i64 0, .int .i64 0, .int .i64 0] 65)
          have hA10 := Blk.new V2 65 #[.int .i64 0, .int .i64 0, .int .i64 0, .int .i64 0, .int .i64 0, .int .i64 0, .int .i64 0, .int .i64 0, .int .i64 0]
          refine hK.out _ _ ?_ (fun hHeld3 => ?_)
          · exact s14 (hc0.below hV hc0.lt) (hd0.below hV hd0.lt)
          clear hK K hHeld3
          generalize V2.alloc (.cells #[.int .i64 0, .int .i64 0, .int .i64 0, .int .i64 0, .int .i64 0, .int .i64 0, .int .i64 0, .int .i64 0, .int .i64 0] 65) = U10V2 at *
          generalize V2.heap.size = a10 at *
          try simp only [Act.put, List.setIfInBounds_toArray, List.set_cons_zero, List.set_cons_succ]
          refine wpAnyH_ready (rs := [5]) (by kernel_rfl) (by simp) ?_
          refine AllReadyH.cons (o := _) (by rw [List.getElem?_toArray]; rfl) (fun K hK => ?_) AllReadyH.nil
          go_simp
          have hsz11 := hV.size
          have hne := hA10.lt
          replace hA10 := hA10.alloc (.cells #[.int .i64 0, .int .i64 0, .int .i64 0, .int .i64 0, .int .i64 0, .int .i64 0, .int .i64 0, .int .i64 0, .int .i64 0] 65)
          replace hV := hV.alloc hV.size (.cells #[.int .i64 0, .int .i64 0, .int .i64 0, .int .i64 0, .int .i64 0, .int .i64 0, .int .i64 0, .int .i64 0, .int .i64 0] 65)
          have hA11 := Blk.new U10V2 65 #[.int .i64 0, .int .i64 0, .int .i64 0, .int .i64 0, .int .i64 0, .int .i64 0, .int .i64 0, .int .i64 0, .int .i64 0]
          refine hK.out _ _ ?_ (fun hHeld4 => ?_)
          · exact s14 (hc0.below hV hc0.lt) (hd0.below hV hd0.lt)
          clear hK K hHeld4
          generalize U10V2.alloc (.cells #[.int .i64 0, .int .i64 0, .int .i64 0, .int .i64 0, .int .i64 0, .int .i64 0, .int .i64 0, .int .i64 0, .int .i64 0] 65) = U11U10V2 at *
          generalize U10V2.heap.size = a11 at *
          try simp only [Act.put, List.setIfInBounds_toArray, List.set_cons_zero, List.set_cons_succ]
          refine wpAnyH_ready (rs := [6]) (by kernel_rfl) (by simp) ?_
          refine AllReadyH.cons (o := _) (by rw [List.getElem?_toArray]; rfl) (fun K hK => ?_) AllReadyH.nil
          have hq := b9 hA10
          have q0 := hq.1
          have q1 := hq.2.1
          have q2 := hq.2.2.1
          have q3 := hq.2.2.2.1
          have q4 := hq.2.2.2.2.1
          have q5 := hq.2.2.2.2.2.1
          have q6 := hq.2.2.2.2.2.2.1
          have q7 := hq.2.2.2.2.2.2.2.1
          have q8 := hq.2.2.2.2.2.2.2.2.1
          have f0 := hq.2.2.2.2.2.2.2.2.2.1
          have f1 := hq.2.2.2.2.2.2.2.2.2.2.1
          have f2 := hq.2.2.2.2.2.2.2.2.2.2.2.1
          have f3 := hq.2.2.2.2.2.2.2.2.2.2.2.2.1
          have f4 := hq.2.2.2.2.2.2.2.2.2.2.2.2.2.1
          have f5 := hq.2.2.2.2.2.2.2.2.2.2.2.2.2.2.1
          have f6 := hq.2.2.2.2.2.2.2.2.2.2.2.2.2.2.2.1
          have f7 := hq.2.2.2.2.2.2.2.2.2.2.2.2.2.2.2.2.1
          have f8 := hq.2.2.2.2.2.2.2.2.2.2.2.2.2.2.2.2.2.1
          have hlt := hq.2.2.2.2.2.2.2.2.2.2.2.2.2.2.2.2.2.2
          clear hq
          go_simp
          replace hA11 := blk_far9g hA11 (show a11 ≠ a10 by omega) (.int .i64 (k : Int)) (.int .i64 (T 0)) (.int .i64 (T 1)) (.int .i64 (T 2)) (.int .i64 (T 3)) (.int .i64 (T 4)) (.int .i64 (T 5)) (.int .i64 (domL (mv T k) : Nat)) (.int .i64 (imN k T : Nat))
          replace hA10 := blk_put9g hA10 (.int .i64 (k : Int)) (.int .i64 (T 0)) (.int .i64 (T 1)) (.int .i64 (T 2)) (.int .i64 (T 3)) (.int .i64 (T 4)) (.int .i64 (T 5)) (.int .i64 (domL (mv T k) : Nat)) (.int .i64 (imN k T : Nat))
          replace hV := bel_put9g hV (show V0.heap.size ≤ a10 by omega) (.int .i64 (k : Int)) (.int .i64 (T 0)) (.int .i64 (T 1)) (.int .i64 (T 2)) (.int .i64 (T 3)) (.int .i64 (T 4)) (.int .i64 (T 5)) (.int .i64 (domL (mv T k) : Nat)) (.int .i64 (imN k T : Nat))
          clear q0 q1 q2 q3 q4 q5 q6 q7 q8 f0 f1 f2 f3 f4 f5 f6 f7 f8 hlt
          refine hK.out _ _ ?_ (fun hHeld5 => ?_)
          · exact s14 (hc0.below hV hc0.lt) (hd0.below hV hd0.lt)
          clear hK K hHeld5
          generalize (((((((((U11U10V2.setCell ⟨a10, 0, none⟩ (.int .i64 (k : Int))).setCell ⟨a10, 1, none⟩ (.int .i64 (T 0))).setCell ⟨a10, 2, none⟩ (.int .i64 (T 1))).setCell ⟨a10, 3, none⟩ (.int .i64 (T 2))).setCell ⟨a10, 4, none⟩ (.int .i64 (T 3))).setCell ⟨a10, 5, none⟩ (.int .i64 (T 4))).setCell ⟨a10, 6, none⟩ (.int .i64 (T 5))).setCell ⟨a10, 7, none⟩ (.int .i64 (domL (mv T k) : Nat))).setCell ⟨a10, 8, none⟩ (.int .i64 (imN k T : Nat))) = X6 at *
          try simp only [Act.put, List.setIfInBounds_toArray, List.set_cons_zero, List.set_cons_succ]
          refine wpAnyH_ready (rs := [7]) (by kernel_rfl) (by simp) ?_
          refine AllReadyH.cons (o := _) (by rw [List.getElem?_toArray]; rfl) (fun K hK => ?_) AllReadyH.nil
          have hq := b9 hA11
          have q0 := hq.1
          have q1 := hq.2.1
          have q2 := hq.2.2.1
          have q3 := hq.2.2.2.1
          have q4 := hq.2.2.2.2.1
          have q5 := hq.2.2.2.2.2.1
          have q6 := hq.2.2.2.2.2.2.1
          have q7 := hq.2.2.2.2.2.2.2.1
          have q8 := hq.2.2.2.2.2.2.2.2.1
          have f0 := hq.2.2.2.2.2.2.2.2.2.1
          have f1 := hq.2.2.2.2.2.2.2.2.2.2.1
          have f2 := hq.2.2.2.2.2.2.2.2.2.2.2.1
          have f3 := hq.2.2.2.2.2.2.2.2.2.2.2.2.1
          have f4 := hq.2.2.2.2.2.2.2.2.2.2.2.2.2.1
          have f5 := hq.2.2.2.2.2.2.2.2.2.2.2.2.2.2.1
          have f6 := hq.2.2.2.2.2.2.2.2.2.2.2.2.2.2.2.1
          have f7 := hq.2.2.2.2.2.2.2.2.2.2.2.2.2.2.2.2.1
          have f8 := hq.2.2.2.2.2.2.2.2.2.2.2.2.2.2.2.2.2.1
          have hlt := hq.2.2.2.2.2.2.2.2.2.2.2.2.2.2.2.2.2.2
          clear hq
          go_simp
          replace hA10 := blk_far9g hA10 (show a10 ≠ a11 by omega) (.int .i64 (k2 : Int)) (.int .i64 (G 0)) (.int .i64 (G 1)) (.int .i64 (G 2)) (.int .i64 (G 3)) (.int .i64 (G 4)) (.int .i64 (G 5)) (.int .i64 (domL (mv G k2) : Nat)) (.int .i64 (imN k2 G : Nat))
          replace hA11 := blk_put9g hA11 (.int .i64 (k2 : Int)) (.int .i64 (G 0)) (.int .i64 (G 1)) (.int .i64 (G 2)) (.int .i64 (G 3)) (.int .i64 (G 4)) (.int .i64 (G 5)) (.int .i64 (domL (mv G k2) : Nat)) (.int .i64 (imN k2 G : Nat))
          replace hV := bel_put9g hV (show V0.heap.size ≤ a11 by omega) (.int .i64 (k2 : Int)) (.int .i64 (G 0)) (.int .i64 (G 1)) (.int .i64 (G 2)) (.int .i64 (G 3)) (.int .i64 (G 4)) (.int .i64 (G 5)) (.int .i64 (domL (mv G k2) : Nat)) (.int .i64 (imN k2 G : Nat))
          clear q0 q1 q2 q3 q4 q5 q6 q7 q8 f0 f1 f2 f3 f4 f5 f6 f7 f8 hlt
          refine hK.out _ _ ?_ (fun hHeld6 => ?_)
          · exact s14 (hc0.below hV hc0.lt) (hd0.below hV hd0.lt)
          clear hK K hHeld6
          generalize (((((((((X6.setCell ⟨a11, 0, none⟩ (.int .i64 (k2 : Int))).setCell ⟨a11, 1, none⟩ (.int .i64 (G 0))).setCell ⟨a11, 2, none⟩ (.int .i64 (G 1))).setCell ⟨a11, 3, none⟩ (.int .i64 (G 2))).setCell ⟨a11, 4, none⟩ (.int .i64 (G 3))).setCell ⟨a11, 5, none⟩ (.int .i64 (G 4))).setCell ⟨a11, 6, none⟩ (.int .i64 (G 5))).setCell ⟨a11, 7, none⟩ (.int .i64 (domL (mv G k2) : Nat))).setCell ⟨a11, 8, none⟩ (.int .i64 (imN k2 G : Nat))) = X7 at *
          try simp only [Act.put, List.setIfInBounds_toArray, List.set_cons_zero, List.set_cons_succ]
          refine wpAnyH_done (by kernel_rfl) ?_ _
          exact HK.out _ a10 a11 hA10 hA11 hV
        refine AllReadyH.cons (o := _) (by rw [List.getElem?_toArray]; rfl) (fun K hK => ?_) AllReadyH.nil
        go_simp
        have hsz11 := hV.size
        replace hV := hV.alloc hV.size (.cells #[.int .i64 0, .int .i64 0, .int .i64 0, .int .i64 0, .int .i64 0, .int .i64 0, .int .i64 0, .int .i64 0, .int .i64 0] 65)
        have hA11 := Blk.new V2 65 #[.int .i64 0, .int .i64 0, .int .i64 0, .int .i64 0, .int .i64 0, .int .i64 0, .int .i64 0, .int .i64 0, .int .i64 0]
        refine hK.out _ _ ?_ (fun hHeld7 => ?_)
        · exact s14 (hc0.below hV hc0.lt) (hd0.below hV hd0.lt)
        clear hK K hHeld7
        generalize V2.alloc (.cells #[.int .i64 0, .int .i64 0, .int .i64 0, .int .i64 0, .int .i64 0, .int .i64 0, .int .i64 0, .int .i64 0, .int .i64 0] 65) = U11V2 at *
        generalize V2.heap.size = a11 at *
        try simp only [Act.put, List.setIfInBounds_toArray, List.set_cons_zero, List.set_cons_succ]
        refine wpAnyH_ready (rs := [4]) (by kernel_rfl) (by simp) ?_
        refine AllReadyH.cons (o := _) (by rw [List.getElem?_toArray]; rfl) (fun K hK => ?_) AllReadyH.nil
        go_simp
        have hsz10 := hV.size
        have hne := hA11.lt
        replace hA11 := hA11.alloc (.cells #[.int .i64 0, .int .i64 0, .int .i64 0, .int .i64 0, .int .i64 0, .int .i64 0, .int .i64 0, .int .i64 0, .int .i64 0] 65)
        replace hV := hV.alloc hV.size (.cells #[.int .i64 0, .int .i64 0, .int .i64 0, .int .i64 0, .int .i64 0, .int .i64 0, .int .i64 0, .int .i64 0, .int .i64 0] 65)
        have hA10 := Blk.new U11V2 65 #[.int .i64 0, .int .i64 0, .int .i64 0, .int .i64 0, .int .i64 0, .int .i64 0, .int .i64 0, .int .i64 0, .int .i64 0]
        refine hK.out _ _ ?_ (fun hHeld8 => ?_)
        · exact s14 (hc0.below hV hc0.lt) (hd0.below hV hd0.lt)
        clear hK K hHeld8
        generalize U11V2.alloc (.cells #[.int .i64 0, .int .i64 0, .int .i64 0, .int .i64 0, .int .i64 0, .int .i64 0, .int .i64 0, .int .i64 0, .int .i64 0] 65) = U10U11V2 at *
        generalize U11V2.heap.size = a10 at *
        try simp only [Act.put, List.setIfInBounds_toArray, List.set_cons_zero, List.set_cons_succ]
        refine wpAnyH_ready (rs := [6]) (by kernel_rfl) (by simp) ?_
        refine AllReadyH.cons (o := _) (by rw [List.getElem?_toArray]; rfl) (fun K hK => ?_) AllReadyH.nil
        have hq := b9 hA10
        have q0 := hq.1
        have q1 := hq.2.1
        have q2 := hq.2.2.1
        have q3 := hq.2.2.2.1
        have q4 := hq.2.2.2.2.1
        have q5 := hq.2.2.2.2.2.1
        have q6 := hq.2.2.2.2.2.2.1
        have q7 := hq.2.2.2.2.2.2.2.1
        have q8 := hq.2.2.2.2.2.2.2.2.1
        have f0 := hq.2.2.2.2.2.2.2.2.2.1
        have f1 := hq.2.2.2.2.2.2.2.2.2.2.1
        have f2 := hq.2.2.2.2.2.2.2.2.2.2.2.1
        have f3 := hq.2.2.2.2.2.2.2.2.2.2.2.2.1
        have f4 := hq.2.2.2.2.2.2.2.2.2.2.2.2.2.1
        have f5 := hq.2.2.2.2.2.2.2.2.2.2.2.2.2.2.1
        have f6 := hq.2.2.2.2.2.2.2.2.2.2.2.2.2.2.2.1
        have f7 := hq.2.2.2.2.2.2.2.2.2.2.2.2.2.2.2.2.1
        have f8 := hq.2.2.2.2.2.2.2.2.2.2.2.2.2.2.2.2.2.1
        have hlt := hq.2.2.2.2.2.2.2.2.2.2.2.2.2.2.2.2.2.2
        clear hq
        go_simp
        replace hA11 := blk_far9g hA11 (show a11 ≠ a10 by omega) (.int .i64 (k : Int)) (.int .i64 (T 0)) (.int .i64 (T 1)) (.int .i64 (T 2)) (.int .i64 (T 3)) (.int .i64 (T 4)) (.int .i64 (T 5)) (.int .i64 (domL (mv T k) : Nat)) (.int .i64 (imN k T : Nat))
        replace hA10 := blk_put9g hA10 (.int .i64 (k : Int)) (.int .i64 (T 0)) (.int .i64 (T 1)) (.int .i64 (T 2)) (.int .i64 (T 3)) (.int .i64 (T 4)) (.int .i64 (T 5)) (.int .i64 (domL (mv T k) : Nat)) (.int .i64 (imN k T : Nat))
        replace hV := bel_put9g hV (show V0.heap.size ≤ a10 by omega) (.int .i64 (k : Int)) (.int .i64 (T 0)) (.int .i64 (T 1)) (.int .i64 (T 2)) (.int .i64 (T 3)) (.int .i64 (T 4)) (.int .i64 (T 5)) (.int .i64 (domL (mv T k) : Nat)) (.int .i64 (imN k T : Nat))
        clear q0 q1 q2 q3 q4 q5 q6 q7 q8 f0 f1 f2 f3 f4 f5 f6 f7 f8 hlt
        refine hK.out _ _ ?_ (fun hHeld9 => ?_)
        · exact s14 (hc0.below hV hc0.lt) (hd0.below hV hd0.lt)
        clear hK K hHeld9
        generalize (((((((((U10U11V2.setCell ⟨a10, 0, none⟩ (.int .i64 (k : Int))).setCell ⟨a10, 1, none⟩ (.int .i64 (T 0))).setCell ⟨a10, 2, none⟩ (.int .i64 (T 1))).setCell ⟨a10, 3, none⟩ (.int .i64 (T 2))).setCell ⟨a10, 4, none⟩ (.int .i64 (T 3))).setCell ⟨a10, 5, none⟩ (.int .i64 (T 4))).setCell ⟨a10, 6, none⟩ (.int .i64 (T 5))).setCell ⟨a10, 7, none⟩ (.int .i64 (domL (mv T k) : Nat))).setCell ⟨a10, 8, none⟩ (.int .i64 (imN k T : Nat))) = X6 at *
        try simp only [Act.put, List.setIfInBounds_toArray, List.set_cons_zero, List.set_cons_succ]
        refine wpAnyH_ready (rs := [7]) (by kernel_rfl) (by simp) ?_
        refine AllReadyH.cons (o := _) (by rw [List.getElem?_toArray]; rfl) (fun K hK => ?_) AllReadyH.nil
        have hq := b9 hA11
        have q0 := hq.1
        have q1 := hq.2.1
        have q2 := hq.2.2.1
        have q3 := hq.2.2.2.1
        have q4 := hq.2.2.2.2.1
        have q5 := hq.2.2.2.2.2.1
        have q6 := hq.2.2.2.2.2.2.1
        have q7 := hq.2.2.2.2.2.2.2.1
        have q8 := hq.2.2.2.2.2.2.2.2.1
        have f0 := hq.2.2.2.2.2.2.2.2.2.1
        have f1 := hq.2.2.2.2.2.2.2.2.2.2.1
        have f2 := hq.2.2.2.2.2.2.2.2.2.2.2.1
        have f3 := hq.2.2.2.2.2.2.2.2.2.2.2.2.1
        have f4 := hq.2.2.2.2.2.2.2.2.2.2.2.2.2.1
        have f5 := hq.2.2.2.2.2.2.2.2.2.2.2.2.2.2.1
        have f6 := hq.2.2.2.2.2.2.2.2.2.2.2.2.2.2.2.1
        have f7 := hq.2.2.2.2.2.2.2.2.2.2.2.2.2.2.2.2.1
        have f8 := hq.2.2.2.2.2.2.2.2.2.2.2.2.2.2.2.2.2.1
        have hlt := hq.2.2.2.2.2.2.2.2.2.2.2.2.2.2.2.2.2.2
        clear hq
        go_simp
        replace hA10 := blk_far9g hA10 (show a10 ≠ a11 by omega) (.int .i64 (k2 : Int)) (.int .i64 (G 0)) (.int .i64 (G 1)) (.int .i64 (G 2)) (.int .i64 (G 3)) (.int .i64 (G 4)) (.int .i64 (G 5)) (.int .i64 (domL (mv G k2) : Nat)) (.int .i64 (imN k2 G : Nat))
        replace hA11 := blk_put9g hA11 (.int .i64 (k2 : Int)) (.int .i64 (G 0)) (.int .i64 (G 1)) (.int .i64 (G 2)) (.int .i64 (G 3)) (.int .i64 (G 4)) (.int .i64 (G 5)) (.int .i64 (domL (mv G k2) : Nat)) (.int .i64 (imN k2 G : Nat))
        replace hV := bel_put9g hV (show V0.heap.size ≤ a11 by omega) (.int .i64 (k2 : Int)) (.int .i64 (G 0)) (.int .i64 (G 1)) (.int .i64 (G 2)) (.int .i64 (G 3)) (.int .i64 (G 4)) (.int .i64 (G 5)) (.int .i64 (domL (mv G k2) : Nat)) (.int .i64 (imN k2 G : Nat))
        clear q0 q1 q2 q3 q4 q5 q6 q7 q8 f0 f1 f2 f3 f4 f5 f6 f7 f8 hlt
        refine hK.out _ _ ?_ (fun hHeld10 => ?_)
        · exact s14 (hc0.below hV hc0.lt) (hd0.below hV hd0.lt)
        clear hK K hHeld10
        generalize (((((((((X6.setCell ⟨a11, 0, none⟩ (.int .i64 (k2 : Int))).setCell ⟨a11, 1, none⟩ (.int .i64 (G 0))).setCell ⟨a11, 2, none⟩ (.int .i64 (G 1))).setCell ⟨a11, 3, none⟩ (.int .i64 (G 2))).setCell ⟨a11, 4, none⟩ (.int .i64 (G 3))).setCell ⟨a11, 5, none⟩ (.int .i64 (G 4))).setCell ⟨a11, 6, none⟩ (.int .i64 (G 5))).setCell ⟨a11, 7, none⟩ (.int .i64 (domL (mv G k2) : Nat))).setCell ⟨a11, 8, none⟩ (.int .i64 (imN k2 G : Nat))) = X7 at *
        try simp only [Act.put, List.setIfInBounds_toArray, List.set_cons_zero, List.set_cons_succ]
        refine wpAnyH_done (by kernel_rfl) ?_ _
        exact HK.out _ a10 a11 hA10 hA11 hV
      refine AllReadyH.cons (o := _) (by rw [List.getElem?_toArray]; rfl) (fun K hK => ?_) ?_
      · go_simp
        have hsz10 := hV.size
        replace hV := hV.alloc hV.size (.cells #[.int .i64 0, .int .i64 0, .int .i64 0, .int .i64 0, .int .i64 0, .int .i64 0, .int .i64 0, .int .i64 0, .int .i64 0] 65)
        have hA10 := Blk.new V1 65 #[.int .i64 0, .int .i64 0, .int .i64 0, .int .i64 0, .int .i64 0, .int .i64 0, .int .i64 0, .int .i64 0, .int .i64 0]
        refine hK.out _ _ ?_ (fun hHeld11 => ?_)
        · exact s14 (hc0.below hV hc0.lt) (hd0.below hV hd0.lt)
        clear hK K hHeld11
        generalize V1.alloc (.cells #[.int .i64 0, .int .i64 0, .int .i64 0, .int .i64 0, .int .i64 0, .int .i64 0, .int .i64 0, .int .i64 0, .int .i64 0] 65) = U10V1 at *
        generalize V1.heap.size = a10 at *
        try simp only [Act.put, List.setIfInBounds_toArray, List.set_cons_zero, List.set_cons_succ]
        refine wpAnyH_ready (rs := [3, 5]) (by kernel_rfl) (by simp) ?_
        refine AllReadyH.cons (o := _) (by rw [List.getElem?_toArray]; rfl) (fun K hK => ?_) ?_
        · go_simp
          refine (arrowOf_any k2 hk2 G hG _).mono ?_
          rintro e V2 ⟨rfl, hb1⟩
          replace hA10 := blk_keep hb1 hA10 rfl
          replace hV := bel_keep hb1 hV rfl rfl rfl rfl hV.size
          clear hb1
          refine hK.out _ _ ?_ (fun hHeld12 => ?_)
          · exact s14 (hc0.below hV hc0.lt) (hd0.below hV hd0.lt)
          clear hK K hHeld12
          try simp only [Act.put, List.setIfInBounds_toArray, List.set_cons_zero, List.set_cons_succ]
          refine wpAnyH_ready (rs := [5]) (by kernel_rfl) (by simp) ?_
          refine AllReadyH.cons (o := _) (by rw [List.getElem?_toArray]; rfl) (fun K hK => ?_) AllReadyH.nil
          go_simp
          have hsz11 := hV.size
          have hne := hA10.lt
          replace hA10 := hA10.alloc (.cells #[.int .i64 0, .int .i64 0, .int .i64 0, .int .i64 0, .int .i64 0, .int .i64 0, .int .i64 0, .int .i64 0, .int .i64 0] 65)
          replace hV := hV.alloc hV.size (.cells #[.int .i64 0, .int .i64 0, .int .i64 0, .int .i64 0, .int .i64 0, .int .i64 0, .int .i64 0, .int .i64 0, .int .i64 0] 65)
          have hA11 := Blk.new V2 65 #[.int .i64 0, .int .i64 0, .int .i64 0, .int .i64 0, .int .i64 0, .int .i64 0, .int .i64 0, .int .i64 0, .int .i64 0]
          refine hK.out _ _ ?_ (fun hHeld13 => ?_)
          · exact s14 (hc0.below hV hc0.lt) (hd0.below hV hd0.lt)
          clear hK K hHeld13
          generalize V2.alloc (.cells #[.int .i64 0, .int .i64 0, .int .i64 0, .int .i64 0, .int .i64 0, .int .i64 0, .int .i64 0, .int .i64 0, .int .i64 0] 65) = U11V2 at *
          generalize V2.heap.size = a11 at *
          try simp only [Act.put, List.setIfInBounds_toArray, List.set_cons_zero, List.set_cons_succ]
          refine wpAnyH_ready (rs := [6]) (by kernel_rfl) (by simp) ?_
          refine AllReadyH.cons (o := _) (by rw [List.getElem?_toArray]; rfl) (fun K hK => ?_) AllReadyH.nil
          have hq := b9 hA10
          have q0 := hq.1
          have q1 := hq.2.1
          have q2 := hq.2.2.1
          have q3 := hq.2.2.2.1
          have q4 := hq.2.2.2.2.1
          have q5 := hq.2.2.2.2.2.1
          have q6 := hq.2.2.2.2.2.2.1
          have q7 := hq.2.2.2.2.2.2.2.1
          have q8 := hq.2.2.2.2.2.2.2.2.1
          have f0 := hq.2.2.2.2.2.2.2.2.2.1
          have f1 := hq.2.2.2.2.2.2.2.2.2.2.1
          have f2 := hq.2.2.2.2.2.2.2.2.2.2.2.1
          have f3 := hq.2.2.2.2.2.2.2.2.2.2.2.2.1
          have f4 := hq.2.2.2.2.2.2.2.2.2.2.2.2.2.1
          have f5 := hq.2.2.2.2.2.2.2.2.2.2.2.2.2.2.1
          have f6 := hq.2.2.2.2.2.2.2.2.2.2.2.2.2.2.2.1
          have f7 := hq.2.2.2.2.2.2.2.2.2.2.2.2.2.2.2.2.1
          have f8 := hq.2.2.2.2.2.2.2.2.2.2.2.2.2.2.2.2.2.1
          have hlt := hq.2.2.2.2.2.2.2.2.2.2.2.2.2.2.2.2.2.2
          clear hq
          go_simp
          replace hA11 := blk_far9g hA11 (show a11 ≠ a10 by omega) (.int .i64 (k : Int)) (.int .i64 (T 0)) (.int .i64 (T 1)) (.int .i64 (T 2)) (.int .i64 (T 3)) (.int .i64 (T 4)) (.int .i64 (T 5)) (.int .i64 (domL (mv T k) : Nat)) (.int .i64 (imN k T : Nat))
          replace hA10 := blk_put9g hA10 (.int .i64 (k : Int)) (.int .i64 (T 0)) (.int .i64 (T 1)) (.int .i64 (T 2)) (.int .i64 (T 3)) (.int .i64 (T 4)) (.int .i64 (T 5)) (.int .i64 (domL (mv T k) : Nat)) (.int .i64 (imN k T : Nat))
          replace hV := bel_put9g hV (show V0.heap.size ≤ a10 by omega) (.int .i64 (k : Int)) (.int .i64 (T 0)) (.int .i64 (T 1)) (.int .i64 (T 2)) (.int .i64 (T 3)) (.int .i64 (T 4)) (.int .i64 (T 5)) (.int .i64 (domL (mv T k) : Nat)) (.int .i64 (imN k T : Nat))
          clear q0 q1 q2 q3 q4 q5 q6 q7 q8 f0 f1 f2 f3 f4 f5 f6 f7 f8 hlt
          refine hK.out _ _ ?_ (fun hHeld14 => ?_)
          · exact s14 (hc0.below hV hc0.lt) (hd0.below hV hd0.lt)
          clear hK K hHeld14
          generalize (((((((((U11V2.setCell ⟨a10, 0, none⟩ (.int .i64 (k : Int))).setCell ⟨a10, 1, none⟩ (.int .i64 (T 0))).setCell ⟨a10, 2, none⟩ (.int .i64 (T 1))).setCell ⟨a10, 3, none⟩ (.int .i64 (T 2))).setCell ⟨a10, 4, none⟩ (.int .i64 (T 3))).setCell ⟨a10, 5, none⟩ (.int .i64 (T 4))).setCell ⟨a10, 6, none⟩ (.int .i64 (T 5))).setCell ⟨a10, 7, none⟩ (.int .i64 (domL (mv T k) : Nat))).setCell ⟨a10, 8, none⟩ (.int .i64 (imN k T : Nat))) = X6 at *
          try simp only [Act.put, List.setIfInBounds_toArray, List.set_cons_zero, List.set_cons_succ]
          refine wpAnyH_ready (rs := [7]) (by kernel_rfl) (by simp) ?_
          refine AllReadyH.cons (o := _) (by rw [List.getElem?_toArray]; rfl) (fun K hK => ?_) AllReadyH.nil
          have hq := b9 hA11
          have q0 := hq.1
          have q1 := hq.2.1
          have q2 := hq.2.2.1
          have q3 := hq.2.2.2.1
          have q4 := hq.2.2.2.2.1
          have q5 := hq.2.2.2.2.2.1
          have q6 := hq.2.2.2.2.2.2.1
          have q7 := hq.2.2.2.2.2.2.2.1
          have q8 := hq.2.2.2.2.2.2.2.2.1
          have f0 := hq.2.2.2.2.2.2.2.2.2.1
          have f1 := hq.2.2.2.2.2.2.2.2.2.2.1
          have f2 := hq.2.2.2.2.2.2.2.2.2.2.2.1
          have f3 := hq.2.2.2.2.2.2.2.2.2.2.2.2.1
          have f4 := hq.2.2.2.2.2.2.2.2.2.2.2.2.2.1
          have f5 := hq.2.2.2.2.2.2.2.2.2.2.2.2.2.2.1
          have f6 := hq.2.2.2.2.2.2.2.2.2.2.2.2.2.2.2.1
          have f7 := hq.2.2.2.2.2.2.2.2.2.2.2.2.2.2.2.2.1
          have f8 := hq.2.2.2.2.2.2.2.2.2.2.2.2.2.2.2.2.2.1
          have hlt := hq.2.2.2.2.2.2.2.2.2.2.2.2.2.2.2.2.2.2
          clear hq
          go_simp
          replace hA10 := blk_far9g hA10 (show a10 ≠ a11 by omega) (.int .i64 (k2 : Int)) (.int .i64 (G 0)) (.int .i64 (G 1)) (.int .i64 (G 2)) (.int .i64 (G 3)) (.int .i64 (G 4)) (.int .i64 (G 5)) (.int .i64 (domL (mv G k2) : Nat)) (.int .i64 (imN k2 G : Nat))
          replace hA11 := blk_put9g hA11 (.int .i64 (k2 : Int)) (.int .i64 (G 0)) (.int .i64 (G 1)) (.int .i64 (G 2)) (.int .i64 (G 3)) (.int .i64 (G 4)) (.int .i64 (G 5)) (.int .i64 (domL (mv G k2) : Nat)) (.int .i64 (imN k2 G : Nat))
          replace hV := bel_put9g hV (show V0.heap.size ≤ a11 by omega) (.int .i64 (k2 : Int)) (.int .i64 (G 0)) (.int .i64 (G 1)) (.int .i64 (G 2)) (.int .i64 (G 3)) (.int .i64 (G 4)) (.int .i64 (G 5)) (.int .i64 (domL (mv G k2) : Nat)) (.int .i64 (imN k2 G : Nat))
          clear q0 q1 q2 q3 q4 q5 q6 q7 q8 f0 f1 f2 f3 f4 f5 f6 f7 f8 hlt
          refine hK.out _ _ ?_ (fun hHeld15 => ?_)
          · exact s14 (hc0.below hV hc0.lt) (hd0.below hV hd0.lt)
          clear hK K hHeld15
          generalize (((((((((X6.setCell ⟨a11, 0, none⟩ (.int .i64 (k2 : Int))).setCell ⟨a11, 1, none⟩ (.int .i64 (G 0))).setCell ⟨a11, 2, none⟩ (.int .i64 (G 1))).setCell ⟨a11, 3, none⟩ (.int .i64 (G 2))).setCell ⟨a11, 4, none⟩ (.int .i64 (G 3))).setCell ⟨a11, 5, none⟩ (.int .i64 (G 4))).setCell ⟨a11, 6, none⟩ (.int .i64 (G 5))).setCell ⟨a11, 7, none⟩ (.int .i64 (domL (mv G k2) : Nat))).setCell ⟨a11, 8, none⟩ (.int .i64 (imN k2 G : Nat))) = X7 at *
          try simp only [Act.put, List.setIfInBounds_toArray, List.set_cons_zero, List.set_cons_succ]
          refine wpAnyH_done (by kernel_rfl) ?_ _
          exact HK.out _ a10 a11 hA10 hA11 hV
        refine AllReadyH.cons (o := _) (by rw [List.getElem?_toArray]; rfl) (fun K hK => ?_) AllReadyH.nil
        go_simp
        have hsz11 := hV.size
        have hne := hA10.lt
        replace hA10 := hA10.alloc (.cells #[.int .i64 0, .int .i64 0, .int .i64 0, .int .i64 0, .int .i64 0, .int .i64 0, .int .i64 0, .int .i64 0, .int .i64 0] 65)
        replace hV := hV.alloc hV.size (.cells #[.int .i64 0, .int .i64 0, .int .i64 0, .int .i64 0, .int .i64 0, .int .i64 0, .int .i64 0, .int .i64 0, .int .i64 0] 65)
        have hA11 := Blk.new U10V1 65 #[.int .i64 0, .int .i64 0, .int .i64 0, .int .i64 0, .int .i64 0, .int .i64 0, .int .i64 0, .int .i64 0, .int .i64 0]
        refine hK.out _ _ ?_ (fun hHeld16 => ?_)
        · exact s14 (hc0.below hV hc0.lt) (hd0.below hV hd0.lt)
        clear hK K hHeld16
        generalize U10V1.alloc (.cells #[.int .i64 0, .int .i64 0, .int .i64 0, .int .i64 0, .int .i64 0, .int .i64 0, .int .i64 0, .int .i64 0, .int .i64 0] 65) = U11U10V1 at *
        generalize U10V1.heap.size = a11 at *
        try simp only [Act.put, List.setIfInBounds_toArray, List.set_cons_zero, List.set_cons_succ]
        refine wpAnyH_ready (rs := [3]) (by kernel_rfl) (by simp) ?_
        refine AllReadyH.cons (o := _) (by rw [List.getElem?_toArray]; rfl) (fun K hK => ?_) AllReadyH.nil
        go_simp
        refine (arrowOf_any k2 hk2 G hG _).mono ?_
        rintro e V2 ⟨rfl, hb1⟩
        replace hA10 := blk_keep hb1 hA10 rfl
        replace hA11 := blk_keep hb1 hA11 rfl
        replace hV := bel_keep hb1 hV rfl rfl rfl rfl hV.size
        clear hb1
        refine hK.out _ _ ?_ (fun hHeld17 => ?_)
        · exact s14 (hc0.below hV hc0.lt) (hd0.below hV hd0.lt)
        clear hK K hHeld17
        try simp only [Act.put, List.setIfInBounds_toArray, List.set_cons_zero, List.set_cons_succ]
        refine wpAnyH_ready (rs := [6]) (by kernel_rfl) (by simp) ?_
        refine AllReadyH.cons (o := _) (by rw [List.getElem?_toArray]; rfl) (fun K hK => ?_) AllReadyH.nil
        have hq := b9 hA10
        have q0 := hq.1
        have q1 := hq.2.1
        have q2 := hq.2.2.1
        have q3 := hq.2.2.2.1
        have q4 := hq.2.2.2.2.1
        have q5 := hq.2.2.2.2.2.1
        have q6 := hq.2.2.2.2.2.2.1
        have q7 := hq.2.2.2.2.2.2.2.1
        have q8 := hq.2.2.2.2.2.2.2.2.1
        have f0 := hq.2.2.2.2.2.2.2.2.2.1
        have f1 := hq.2.2.2.2.2.2.2.2.2.2.1
        have f2 := hq.2.2.2.2.2.2.2.2.2.2.2.1
        have f3 := hq.2.2.2.2.2.2.2.2.2.2.2.2.1
        have f4 := hq.2.2.2.2.2.2.2.2.2.2.2.2.2.1
        have f5 := hq.2.2.2.2.2.2.2.2.2.2.2.2.2.2.1
        have f6 := hq.2.2.2.2.2.2.2.2.2.2.2.2.2.2.2.1
        have f7 := hq.2.2.2.2.2.2.2.2.2.2.2.2.2.2.2.2.1
        have f8 := hq.2.2.2.2.2.2.2.2.2.2.2.2.2.2.2.2.2.1
        have hlt := hq.2.2.2.2.2.2.2.2.2.2.2.2.2.2.2.2.2.2
        clear hq
        go_simp
        replace hA11 := blk_far9g hA11 (show a11 ≠ a10 by omega) (.int .i64 (k : Int)) (.int .i64 (T 0)) (.int .i64 (T 1)) (.int .i64 (T 2)) (.int .i64 (T 3)) (.int .i64 (T 4)) (.int .i64 (T 5)) (.int .i64 (domL (mv T k) : Nat)) (.int .i64 (imN k T : Nat))
        replace hA10 := blk_put9g hA10 (.int .i64 (k : Int)) (.int .i64 (T 0)) (.int .i64 (T 1)) (.int .i64 (T 2)) (.int .i64 (T 3)) (.int .i64 (T 4)) (.int .i64 (T 5)) (.int .i64 (domL (mv T k) : Nat)) (.int .i64 (imN k T : Nat))
        replace hV := bel_put9g hV (show V0.heap.size ≤ a10 by omega) (.int .i64 (k : Int)) (.int .i64 (T 0)) (.int .i64 (T 1)) (.int .i64 (T 2)) (.int .i64 (T 3)) (.int .i64 (T 4)) (.int .i64 (T 5)) (.int .i64 (domL (mv T k) : Nat)) (.int .i64 (imN k T : Nat))
        clear q0 q1 q2 q3 q4 q5 q6 q7 q8 f0 f1 f2 f3 f4 f5 f6 f7 f8 hlt
        refine hK.out _ _ ?_ (fun hHeld18 => ?_)
        · exact s14 (hc0.below hV hc0.lt) (hd0.below hV hd0.lt)
        clear hK K hHeld18
        generalize (((((((((V2.setCell ⟨a10, 0, none⟩ (.int .i64 (k : Int))).setCell ⟨a10, 1, none⟩ (.int .i64 (T 0))).setCell ⟨a10, 2, none⟩ (.int .i64 (T 1))).setCell ⟨a10, 3, none⟩ (.int .i64 (T 2))).setCell ⟨a10, 4, none⟩ (.int .i64 (T 3))).setCell ⟨a10, 5, none⟩ (.int .i64 (T 4))).setCell ⟨a10, 6, none⟩ (.int .i64 (T 5))).setCell ⟨a10, 7, none⟩ (.int .i64 (domL (mv T k) : Nat))).setCell ⟨a10, 8, none⟩ (.int .i64 (imN k T : Nat))) = X6 at *
        try simp only [Act.put, List.setIfInBounds_toArray, List.set_cons_zero, List.set_cons_succ]
        refine wpAnyH_ready (rs := [7]) (by kernel_rfl) (by simp) ?_
        refine AllReadyH.cons (o := _) (by rw [List.getElem?_toArray]; rfl) (fun K hK => ?_) AllReadyH.nil
        have hq := b9 hA11
        have q0 := hq.1
        have q1 := hq.2.1
        have q2 := hq.2.2.1
        have q3 := hq.2.2.2.1
        have q4 := hq.2.2.2.2.1
        have q5 := hq.2.2.2.2.2.1
        have q6 := hq.2.2.2.2.2.2.1
        have q7 := hq.2.2.2.2.2.2.2.1
        have q8 := hq.2.2.2.2.2.2.2.2.1
        have f0 := hq.2.2.2.2.2.2.2.2.2.1
        have f1 := hq.2.2.2.2.2.2.2.2.2.2.1
        have f2 := hq.2.2.2.2.2.2.2.2.2.2.2.1
        have f3 := hq.2.2.2.2.2.2.2.2.2.2.2.2.1
        have f4 := hq.2.2.2.2.2.2.2.2.2.2.2.2.2.1
        have f5 := hq.2.2.2.2.2.2.2.2.2.2.2.2.2.2.1
        have f6 := hq.2.2.2.2.2.2.2.2.2.2.2.2.2.2.2.1
        have f7 := hq.2.2.2.2.2.2.2.2.2.2.2.2.2.2.2.2.1
        have f8 := hq.2.2.2.2.2.2.2.2.2.2.2.2.2.2.2.2.2.1
        have hlt := hq.2.2.2.2.2.2.2.2.2.2.2.2.2.2.2.2.2.2
        clear hq
        go_simp
        replace hA10 := blk_far9g hA10 (show a10 ≠ a11 by omega) (.int .i64 (k2 : Int)) (.int .i64 (G 0)) (.int .i64 (G 1)) (.int .i64 (G 2)) (.int .i64 (G 3)) (.int .i64 (G 4)) (.int .i64 (G 5)) (.int .i64 (domL (mv G k2) : Nat)) (.int .i64 (imN k2 G : Nat))
        replace hA11 := blk_put9g hA11 (.int .i64 (k2 : Int)) (.int .i64 (G 0)) (.int .i64 (G 1)) (.int .i64 (G 2)) (.int .i64 (G 3)) (.int .i64 (G 4)) (.int .i64 (G 5)) (.int .i64 (domL (mv G k2) : Nat)) (.int .i64 (imN k2 G : Nat))
        replace hV := bel_put9g hV (show V0.heap.size ≤ a11 by omega) (.int .i64 (k2 : Int)) (.int .i64 (G 0)) (.int .i64 (G 1)) (.int .i64 (G 2)) (.int .i64 (G 3)) (.int .i64 (G 4)) (.int .i64 (G 5)) (.int .i64 (domL (mv G k2) : Nat)) (.int .i64 (imN k2 G : Nat))
        clear q0 q1 q2 q3 q4 q5 q6 q7 q8 f0 f1 f2 f3 f4 f5 f6 f7 f8 hlt
        refine hK.out _ _ ?_ (fun hHeld19 => ?_)
        · exact s14 (hc0.below hV hc0.lt) (hd0.below hV hd0.lt)
        clear hK K hHeld19
        generalize (((((((((X6.setCell ⟨a11, 0, none⟩ (.int .i64 (k2 : Int))).setCell ⟨a11, 1, none⟩ (.int .i64 (G 0))).setCell ⟨a11, 2, none⟩ (.int .i64 (G 1))).setCell ⟨a11, 3, none⟩ (.int .i64 (G 2))).setCell ⟨a11, 4, none⟩ (.int .i64 (G 3))).setCell ⟨a11, 5, none⟩ (.int .i64 (G 4))).setCell ⟨a11, 6, none⟩ (.int .i64 (G 5))).setCell ⟨a11, 7, none⟩ (.int .i64 (domL (mv G k2) : Nat))).setCell ⟨a11, 8, none⟩ (.int .i64 (imN k2 G : Nat))) = X7 at *
        try simp only [Act.put, List.setIfInBounds_toArray, List.set_cons_zero, List.set_cons_succ]
        refine wpAnyH_done (by kernel_rfl) ?_ _
        exact HK.out _ a10 a11 hA10 hA11 hV
      refine AllReadyH.cons (o := _) (by rw [List.getElem?_toArray]; rfl) (fun K hK => ?_) AllReadyH.nil
      go_simp
      have hsz11 := hV.size
      replace hV := hV.alloc hV.size (.cells #[.int .i64 0, .int .i64 0, .int .i64 0, .int .i64 0, .int .i64 0, .int .i64 0, .int .i64 0, .int .i64 0, .int .i64 0] 65)
      have hA11 := Blk.new V1 65 #[.int .i64 0, .int .i64 0, .int .i64 0, .int .i64 0, .int .i64 0, .int .i64 0, .int .i64 0, .int .i64 0, .int .i64 0]
      refine hK.out _ _ ?_ (fun hHeld20 => ?_)
      · exact s14 (hc0.below hV hc0.lt) (hd0.below hV hd0.lt)
      clear hK K hHeld20
      generalize V1.alloc (.cells #[.int .i64 0, .int .i64 0, .int .i64 0, .int .i64 0, .int .i64 0, .int .i64 0, .int .i64 0, .int .i64 0, .int .i64 0] 65) = U11V1 at *
      generalize V1.heap.size = a11 at *
      try simp only [Act.put, List.setIfInBounds_toArray, List.set_cons_zero, List.set_cons_succ]
      refine wpAnyH_ready (rs := [3, 4]) (by kernel_rfl) (by simp) ?_
      refine AllReadyH.cons (o := _) (by rw [List.getElem?_toArray]; rfl) (fun K hK => ?_) ?_
      · go_simp
        refine (arrowOf_any k2 hk2 G hG _).mono ?_
        rintro e V2 ⟨rfl, hb1⟩
        replace hA11 := blk_keep hb1 hA11 rfl
        replace hV := bel_keep hb1 hV rfl rfl rfl rfl hV.size
        clear hb1
        refine hK.out _ _ ?_ (fun hHeld21 => ?_)
        · exact s14 (hc0.below hV hc0.lt) (hd0.below hV hd0.lt)
        clear hK K hHeld21
        try simp only [Act.put, List.setIfInBounds_toArray, List.set_cons_zero, List.set_cons_succ]
        refine wpAnyH_ready (rs := [4]) (by kernel_rfl) (by simp) ?_
        refine AllReadyH.cons (o := _) (by rw [List.getElem?_toArray]; rfl) (fun K hK => ?_) AllReadyH.nil
        go_simp
        have hsz10 := hV.size
        have hne := hA11.lt
        replace hA11 := hA11.alloc (.cells #[.int .i64 0, .int .i64 0, .int .i64 0, .int .i64 0, .int .i64 0, .int .i64 0, .int .i64 0, .int .i64 0, .int .i64 0] 65)
        replace hV := hV.alloc hV.size (.cells #[.int .i64 0, .int .i64 0, .int .i64 0, .int .i64 0, .int .i64 0, .int .i64 0, .int .i64 0, .int .i64 0, .int .i64 0] 65)
        have hA10 := Blk.new V2 65 #[.int .i64 0, .int .i64 0, .int .i64 0, .int .i64 0, .int .i64 0, .int .i64 0, .int .i64 0, .int .i64 0, .int .i64 0]
        refine hK.out _ _ ?_ (fun hHeld22 => ?_)
        · exact s14 (hc0.below hV hc0.lt) (hd0.below hV hd0.lt)
        clear hK K hHeld22
        generalize V2.alloc (.cells #[.int .i64 0, .int .i64 0, .int .i64 0, .int .i64 0, .int .i64 0, .int .i64 0, .int .i64 0, .int .i64 0, .int .i64 0] 65) = U10V2 at *
        generalize V2.heap.size = a10 at *
        try simp only [Act.put, List.setIfInBounds_toArray, List.set_cons_zero, List.set_cons_succ]
        refine wpAnyH_ready (rs := [6]) (by kernel_rfl) (by simp) ?_
        refine AllReadyH.cons (o := _) (by rw [List.getElem?_toArray]; rfl) (fun K hK => ?_) AllReadyH.nil
        have hq := b9 hA10
        have q0 := hq.1
        have q1 := hq.2.1
        have q2 := hq.2.2.1
        have q3 := hq.2.2.2.1
        have q4 := hq.2.2.2.2.1
        have q5 := hq.2.2.2.2.2.1
        have q6 := hq.2.2.2.2.2.2.1
        have q7 := hq.2.2.2.2.2.2.2.1
        have q8 := hq.2.2.2.2.2.2.2.2.1
        have f0 := hq.2.2.2.2.2.2.2.2.2.1
        have f1 := hq.2.2.2.2.2.2.2.2.2.2.1
        have f2 := hq.2.2.2.2.2.2.2.2.2.2.2.1
        have f3 := hq.2.2.2.2.2.2.2.2.2.2.2.2.1
        have f4 := hq.2.2.2.2.2.2.2.2.2.2.2.2.2.1
        have f5 := hq.2.2.2.2.2.2.2.2.2.2.2.2.2.2.1
        have f6 := hq.2.2.2.2.2.2.2.2.2.2.2.2.2.2.2.1
        have f7 := hq.2.2.2.2.2.2.2.2.2.2.2.2.2.2.2.2.1
        have f8 := hq.2.2.2.2.2.2.2.2.2.2.2.2.2.2.2.2.2.1
        have hlt := hq.2.2.2.2.2.2.2.2.2.2.2.2.2.2.2.2.2.2
        clear hq
        go_simp
        replace hA11 := blk_far9g hA11 (show a11 ≠ a10 by omega) (.int .i64 (k : Int)) (.int .i64 (T 0)) (.int .i64 (T 1)) (.int .i64 (T 2)) (.int .i64 (T 3)) (.int .i64 (T 4)) (.int .i64 (T 5)) (.int .i64 (domL (mv T k) : Nat)) (.int .i64 (imN k T : Nat))
        replace hA10 := blk_put9g hA10 (.int .i64 (k : Int)) (.int .i64 (T 0)) (.int .i64 (T 1)) (.int .i64 (T 2)) (.int .i64 (T 3)) (.int .i64 (T 4)) (.int .i64 (T 5)) (.int .i64 (domL (mv T k) : Nat)) (.int .i64 (imN k T : Nat))
        replace hV := bel_put9g hV (show V0.heap.size ≤ a10 by omega) (.int .i64 (k : Int)) (.int .i64 (T 0)) (.int .i64 (T 1)) (.int .i64 (T 2)) (.int .i64 (T 3)) (.int .i64 (T 4)) (.int .i64 (T 5)) (.int .i64 (domL (mv T k) : Nat)) (.int .i64 (imN k T : Nat))
        clear q0 q1 q2 q3 q4 q5 q6 q7 q8 f0 f1 f2 f3 f4 f5 f6 f7 f8 hlt
        refine hK.out _ _ ?_ (fun hHeld23 => ?_)
        · exact s14 (hc0.below hV hc0.lt) (hd0.below hV hd0.lt)
        clear hK K hHeld23
        generalize (((((((((U10V2.setCell ⟨a10, 0, none⟩ (.int .i64 (k : Int))).setCell ⟨a10, 1, none⟩ (.int .i64 (T 0))).setCell ⟨a10, 2, none⟩ (.int .i64 (T 1))).setCell ⟨a10, 3, none⟩ (.int .i64 (T 2))).setCell ⟨a10, 4, none⟩ (.int .i64 (T 3))).setCell ⟨a10, 5, none⟩ (.int .i64 (T 4))).setCell ⟨a10, 6, none⟩ (.int .i64 (T 5))).setCell ⟨a10, 7, none⟩ (.int .i64 (domL (mv T k) : Nat))).setCell ⟨a10, 8, none⟩ (.int .i64 (imN k T : Nat))) = X6 at *
        try simp only [Act.put, List.setIfInBounds_toArray, List.set_cons_zero, List.set_cons_succ]
        refine wpAnyH_ready (rs := [7]) (by kernel_rfl) (by simp) ?_
        refine AllReadyH.cons (o := _) (by rw [List.getElem?_toArray]; rfl) (fun K hK => ?_) AllReadyH.nil
        have hq := b9 hA11
        have q0 := hq.1
        have q1 := hq.2.1
        have q2 := hq.2.2.1
        have q3 := hq.2.2.2.1
        have q4 := hq.2.2.2.2.1
        have q5 := hq.2.2.2.2.2.1
        have q6 := hq.2.2.2.2.2.2.1
        have q7 := hq.2.2.2.2.2.2.2.1
        have q8 := hq.2.2.2.2.2.2.2.2.1
        have f0 := hq.2.2.2.2.2.2.2.2.2.1
        have f1 := hq.2.2.2.2.2.2.2.2.2.2.1
        have f2 := hq.2.2.2.2.2.2.2.2.2.2.2.1
        have f3 := hq.2.2.2.2.2.2.2.2.2.2.2.2.1
        have f4 := hq.2.2.2.2.2.2.2.2.2.2.2.2.2.1
        have f5 := hq.2.2.2.2.2.2.2.2.2.2.2.2.2.2.1
        have f6 := hq.2.2.2.2.2.2.2.2.2.2.2.2.2.2.2.1
        have f7 := hq.2.2.2.2.2.2.2.2.2.2.2.2.2.2.2.2.1
        have f8 := hq.2.2.2.2.2.2.2.2.2.2.2.2.2.2.2.2.2.1
        have hlt := hq.2.2.2.2.2.2.2.2.2.2.2.2.2.2.2.2.2.2
        clear hq
        go_simp
        replace hA10 := blk_far9g hA10 (show a10 ≠ a11 by omega) (.int .i64 (k2 : Int)) (.int .i64 (G 0)) (.int .i64 (G 1)) (.int .i64 (G 2)) (.int .i64 (G 3)) (.int .i64 (G 4)) (.int .i64 (G 5)) (.int .i64 (domL (mv G k2) : Nat)) (.int .i64 (imN k2 G : Nat))
        replace hA11 := blk_put9g hA11 (.int .i64 (k2 : Int)) (.int .i64 (G 0)) (.int .i64 (G 1)) (.int .i64 (G 2)) (.int .i64 (G 3)) (.int .i64 (G 4)) (.int .i64 (G 5)) (.int .i64 (domL (mv G k2) : Nat)) (.int .i64 (imN k2 G : Nat))
        replace hV := bel_put9g hV (show V0.heap.size ≤ a11 by omega) (.int .i64 (k2 : Int)) (.int .i64 (G 0)) (.int .i64 (G 1)) (.int .i64 (G 2)) (.int .i64 (G 3)) (.int .i64 (G 4)) (.int .i64 (G 5)) (.int .i64 (domL (mv G k2) : Nat)) (.int .i64 (imN k2 G : Nat))
        clear q0 q1 q2 q3 q4 q5 q6 q7 q8 f0 f1 f2 f3 f4 f5 f6 f7 f8 hlt
        refine hK.out _ _ ?_ (fun hHeld24 => ?_)
        · exact s14 (hc0.below hV hc0.lt) (hd0.below hV hd0.lt)
        clear hK K hHeld24
        generalize (((((((((X6.setCell ⟨a11, 0, none⟩ (.int .i64 (k2 : Int))).setCell ⟨a11, 1, none⟩ (.int .i64 (G 0))).setCell ⟨a11, 2, none⟩ (.int .i64 (G 1))).setCell ⟨a11, 3, none⟩ (.int .i64 (G 2))).setCell ⟨a11, 4, none⟩ (.int .i64 (G 3))).setCell ⟨a11, 5, none⟩ (.int .i64 (G 4))).setCell ⟨a11, 6, none⟩ (.int .i64 (G 5))).setCell ⟨a11, 7, none⟩ (.int .i64 (domL (mv G k2) : Nat))).setCell ⟨a11, 8, none⟩ (.int .i64 (imN k2 G : Nat))) = X7 at *
        try simp only [Act.put, List.setIfInBounds_toArray, List.set_cons_zero, List.set_cons_succ]
        refine wpAnyH_done (by kernel_rfl) ?_ _
        exact HK.out _ a10 a11 hA10 hA11 hV
      refine AllReadyH.cons (o := _) (by rw [List.getElem?_toArray]; rfl) (fun K hK => ?_) AllReadyH.nil
      go_simp
      have hsz10 := hV.size
      have hne := hA11.lt
      replace hA11 := hA11.alloc (.cells #[.int .i64 0, .int .i64 0, .int .i64 0, .int .i64 0, .int .i64 0, .int .i64 0, .int .i64 0, .int .i64 0, .int .i64 0] 65)
      replace hV := hV.alloc hV.size (.cells #[.int .i64 0, .int .i64 0, .int .i64 0, .int .i64 0, .int .i64 0, .int .i64 0, .int .i64 0, .int .i64 0, .int .i64 0] 65)
      have hA10 := Blk.new U11V1 65 #[.int .i64 0, .int .i64 0, .int .i64 0, .int .i64 0, .int .i64 0, .int .i64 0, .int .i64 0, .int .i64 0, .int .i64 0]
      refine hK.out _ _ ?_ (fun hHeld25 => ?_)
      · exact s14 (hc0.below hV hc0.lt) (hd0.below hV hd0.lt)
      clear hK K hHeld25
      generalize U11V1.alloc (.cells #[.int .i64 0, .int .i64 0, .int .i64 0, .int .i64 0, .int .i64 0, .int .i64 0, .int .i64 0, .int .i64 0, .int .i64 0] 65) = U10U11V1 at *
      generalize U11V1.heap.size = a10 at *
      try simp only [Act.put, List.setIfInBounds_toArray, List.set_cons_zero, List.set_cons_succ]
      refine wpAnyH_ready (rs := [3]) (by kernel_rfl) (by simp) ?_
      refine AllReadyH.cons (o := _) (by rw [List.getElem?_toArray]; rfl) (fun K hK => ?_) AllReadyH.nil
      go_simp
      refine (arrowOf_any k2 hk2 G hG _).mono ?_
      rintro e V2 ⟨rfl, hb1⟩
      replace hA10 := blk_keep hb1 hA10 rfl
      replace hA11 := blk_keep hb1 hA11 rfl
      replace hV := bel_keep hb1 hV rfl rfl rfl rfl hV.size
      clear hb1
      refine hK.out _ _ ?_ (fun hHeld26 => ?_)
      · exact s14 (hc0.below hV hc0.lt) (hd0.below hV hd0.lt)
      clear hK K hHeld26
      try simp only [Act.put, List.setIfInBounds_toArray, List.set_cons_zero, List.set_cons_succ]
      refine wpAnyH_ready (rs := [6]) (by kernel_rfl) (by simp) ?_
      refine AllReadyH.cons (o := _) (by rw [List.getElem?_toArray]; rfl) (fun K hK => ?_) AllReadyH.nil
      have hq := b9 hA10
      have q0 := hq.1
      have q1 := hq.2.1
      have q2 := hq.2.2.1
      have q3 := hq.2.2.2.1
      have q4 := hq.2.2.2.2.1
      have q5 := hq.2.2.2.2.2.1
      have q6 := hq.2.2.2.2.2.2.1
      have q7 := hq.2.2.2.2.2.2.2.1
      have q8 := hq.2.2.2.2.2.2.2.2.1
      have f0 := hq.2.2.2.2.2.2.2.2.2.1
      have f1 := hq.2.2.2.2.2.2.2.2.2.2.1
      have f2 := hq.2.2.2.2.2.2.2.2.2.2.2.1
      have f3 := hq.2.2.2.2.2.2.2.2.2.2.2.2.1
      have f4 := hq.2.2.2.2.2.2.2.2.2.2.2.2.2.1
      have f5 := hq.2.2.2.2.2.2.2.2.2.2.2.2.2.2.1
      have f6 := hq.2.2.2.2.2.2.2.2.2.2.2.2.2.2.2.1
      have f7 := hq.2.2.2.2.2.2.2.2.2.2.2.2.2.2.2.2.1
      have f8 := hq.2.2.2.2.2.2.2.2.2.2.2.2.2.2.2.2.2.1
      have hlt := hq.2.2.2.2.2.2.2.2.2.2.2.2.2.2.2.2.2.2
      clear hq
      go_simp
      replace hA11 := blk_far9g hA11 (show a11 ≠ a10 by omega) (.int .i64 (k : Int)) (.int .i64 (T 0)) (.int .i64 (T 1)) (.int .i64 (T 2)) (.int .i64 (T 3)) (.int .i64 (T 4)) (.int .i64 (T 5)) (.int .i64 (domL (mv T k) : Nat)) (.int .i64 (imN k T : Nat))
      replace hA10 := blk_put9g hA10 (.int .i64 (k : Int)) (.int .i64 (T 0)) (.int .i64 (T 1)) (.int .i64 (T 2)) (.int .i64 (T 3)) (.int .i64 (T 4)) (.int .i64 (T 5)) (.int .i64 (domL (mv T k) : Nat)) (.int .i64 (imN k T : Nat))
      replace hV := bel_put9g hV (show V0.heap.size ≤ a10 by omega) (.int .i64 (k : Int)) (.int .i64 (T 0)) (.int .i64 (T 1)) (.int .i64 (T 2)) (.int .i64 (T 3)) (.int .i64 (T 4)) (.int .i64 (T 5)) (.int .i64 (domL (mv T k) : Nat)) (.int .i64 (imN k T : Nat))
      clear q0 q1 q2 q3 q4 q5 q6 q7 q8 f0 f1 f2 f3 f4 f5 f6 f7 f8 hlt
      refine hK.out _ _ ?_ (fun hHeld27 => ?_)
      · exact s14 (hc0.below hV hc0.lt) (hd0.below hV hd0.lt)
      clear hK K hHeld27
      generalize (((((((((V2.setCell ⟨a10, 0, none⟩ (.int .i64 (k : Int))).setCell ⟨a10, 1, none⟩ (.int .i64 (T 0))).setCell ⟨a10, 2, none⟩ (.int .i64 (T 1))).setCell ⟨a10, 3, none⟩ (.int .i64 (T 2))).setCell ⟨a10, 4, none⟩ (.int .i64 (T 3))).setCell ⟨a10, 5, none⟩ (.int .i64 (T 4))).setCell ⟨a10, 6, none⟩ (.int .i64 (T 5))).setCell ⟨a10, 7, none⟩ (.int .i64 (domL (mv T k) : Nat))).setCell ⟨a10, 8, none⟩ (.int .i64 (imN k T : Nat))) = X6 at *
      try simp only [Act.put, List.setIfInBounds_toArray, List.set_cons_zero, List.set_cons_succ]
      refine wpAnyH_ready (rs := [7]) (by kernel_rfl) (by simp) ?_
      refine AllReadyH.cons (o := _) (by rw [List.getElem?_toArray]; rfl) (fun K hK => ?_) AllReadyH.nil
      have hq := b9 hA11
      have q0 := hq.1
      have q1 := hq.2.1
      have q2 := hq.2.2.1
      have q3 := hq.2.2.2.1
      have q4 := hq.2.2.2.2.1
      have q5 := hq.2.2.2.2.2.1
      have q6 := hq.2.2.2.2.2.2.1
      have q7 := hq.2.2.2.2.2.2.2.1
      have q8 := hq.2.2.2.2.2.2.2.2.1
      have f0 := hq.2.2.2.2.2.2.2.2.2.1
      have f1 := hq.2.2.2.2.2.2.2.2.2.2.1
      have f2 := hq.2.2.2.2.2.2.2.2.2.2.2.1
      have f3 := hq.2.2.2.2.2.2.2.2.2.2.2.2.1
      have f4 := hq.2.2.2.2.2.2.2.2.2.2.2.2.2.1
      have f5 := hq.2.2.2.2.2.2.2.2.2.2.2.2.2.2.1
      have f6 := hq.2.2.2.2.2.2.2.2.2.2.2.2.2.2.2.1
      have f7 := hq.2.2.2.2.2.2.2.2.2.2.2.2.2.2.2.2.1
      have f8 := hq.2.2.2.2.2.2.2.2.2.2.2.2.2.2.2.2.2.1
      have hlt := hq.2.2.2.2.2.2.2.2.2.2.2.2.2.2.2.2.2.2
      clear hq
      go_simp
      replace hA10 := blk_far9g hA10 (show a10 ≠ a11 by omega) (.int .i64 (k2 : Int)) (.int .i64 (G 0)) (.int .i64 (G 1)) (.int .i64 (G 2)) (.int .i64 (G 3)) (.int .i64 (G 4)) (.int .i64 (G 5)) (.int .i64 (domL (mv G k2) : Nat)) (.int .i64 (imN k2 G : Nat))
      replace hA11 := blk_put9g hA11 (.int .i64 (k2 : Int)) (.int .i64 (G 0)) (.int .i64 (G 1)) (.int .i64 (G 2)) (.int .i64 (G 3)) (.int .i64 (G 4)) (.int .i64 (G 5)) (.int .i64 (domL (mv G k2) : Nat)) (.int .i64 (imN k2 G : Nat))
      replace hV := bel_put9g hV (show V0.heap.size ≤ a11 by omega) (.int .i64 (k2 : Int)) (.int .i64 (G 0)) (.int .i64 (G 1)) (.int .i64 (G 2)) (.int .i64 (G 3)) (.int .i64 (G 4)) (.int .i64 (G 5)) (.int .i64 (domL (mv G k2) : Nat)) (.int .i64 (imN k2 G : Nat))
      clear q0 q1 q2 q3 q4 q5 q6 q7 q8 f0 f1 f2 f3 f4 f5 f6 f7 f8 hlt
      refine hK.out _ _ ?_ (fun hHeld28 => ?_)
      · exact s14 (hc0.below hV hc0.lt) (hd0.below hV hd0.lt)
      clear hK K hHeld28
      generalize (((((((((X6.setCell ⟨a11, 0, none⟩ (.int .i64 (k2 : Int))).setCell ⟨a11, 1, none⟩ (.int .i64 (G 0))).setCell ⟨a11, 2, none⟩ (.int .i64 (G 1))).setCell ⟨a11, 3, none⟩ (.int .i64 (G 2))).setCell ⟨a11, 4, none⟩ (.int .i64 (G 3))).setCell ⟨a11, 5, none⟩ (.int .i64 (G 4))).setCell ⟨a11, 6, none⟩ (.int .i64 (G 5))).setCell ⟨a11, 7, none⟩ (.int .i64 (domL (mv G k2) : Nat))).setCell ⟨a11, 8, none⟩ (.int .i64 (imN k2 G : Nat))) = X7 at *
      try simp only [Act.put, List.setIfInBounds_toArray, List.set_cons_zero, List.set_cons_succ]
      refine wpAnyH_done (by kernel_rfl) ?_ _
      exact HK.out _ a10 a11 hA10 hA11 hV
    refine AllReadyH.cons (o := _) (by rw [List.getElem?_toArray]; rfl) (fun K hK => ?_) ?_
    · go_simp
      have hsz10 := hV.size
      replace hV := hV.alloc hV.size (.cells #[.int .i64 0, .int .i64 0, .int .i64 0, .int .i64 0, .int .i64 0, .int .i64 0, .int .i64 0, .int .i64 0, .int .i64 0] 65)
      have hA10 := Blk.new D0 65 #[.int .i64 0, .int .i64 0, .int .i64 0, .int .i64 0, .int .i64 0, .int .i64 0, .int .i64 0, .int .i64 0, .int .i64 0]
      refine hK.out _ _ ?_ (fun hHeld29 => ?_)
      · exact s14 (hc0.below hV hc0.lt) (hd0.below hV hd0.lt)
      clear hK K hHeld29
      generalize D0.alloc (.cells #[.int .i64 0, .int .i64 0, .int .i64 0, .int .i64 0, .int .i64 0, .int .i64 0, .int .i64 0, .int .i64 0, .int .i64 0] 65) = U10D0 at *
      generalize D0.heap.size = a10 at *
      try simp only [Act.put, List.setIfInBounds_toArray, List.set_cons_zero, List.set_cons_succ]
      refine wpAnyH_ready (rs := [1, 5]) (by kernel_rfl) (by simp) ?_
      refine AllReadyH.cons (o := _) (by rw [List.getElem?_toArray]; rfl) (fun K hK => ?_) ?_
      · go_simp
        refine (arrowOf_any k hk T hT _).mono ?_
        rintro e V1 ⟨rfl, hb1⟩
        replace hA10 := blk_keep hb1 hA10 rfl
        replace hV := bel_keep hb1 hV rfl rfl rfl rfl hV.size
        clear hb1
        refine hK.out _ _ ?_ (fun hHeld30 => ?_)
        · exact s14 (hc0.below hV hc0.lt) (hd0.below hV hd0.lt)
        clear hK K hHeld30
        try simp only [Act.put, List.setIfInBounds_toArray, List.set_cons_zero, List.set_cons_succ]
        refine wpAnyH_ready (rs := [3, 5]) (by kernel_rfl) (by simp) ?_
        refine AllReadyH.cons (o := _) (by rw [List.getElem?_toArray]; rfl) (fun K hK => ?_) ?_
        · go_simp
          refine (arrowOf_any k2 hk2 G hG _).mono ?_
          rintro e V2 ⟨rfl, hb1⟩
          replace hA10 := blk_keep hb1 hA10 rfl
          replace hV := bel_keep hb1 hV rfl rfl rfl rfl hV.size
          clear hb1
          refine hK.out _ _ ?_ (fun hHeld31 => ?_)
          · exact s14 (hc0.below hV hc0.lt) (hd0.below hV hd0.lt)
          clear hK K hHeld31
          try simp only [Act.put, List.setIfInBounds_toArray, List.set_cons_zero, List.set_cons_succ]
          refine wpAnyH_ready (rs := [5]) (by kernel_rfl) (by simp) ?_
          refine AllReadyH.cons (o := _) (by rw [List.getElem?_toArray]; rfl) (fun K hK => ?_) AllReadyH.nil
          go_simp
          have hsz11 := hV.size
          have hne := hA10.lt
          replace hA10 := hA10.alloc (.cells #[.int .i64 0, .int .i64 0, .int .i64 0, .int .i64 0, .int .i64 0, .int .i64 0, .int .i64 0, .int .i64 0, .int .i64 0] 65)
          replace hV := hV.alloc hV.size (.cells #[.int .i64 0, .int .i64 0, .int .i64 0, .int .i64 0, .int .i64 0, .int .i64 0, .int .i64 0, .int .i64 0, .int .i64 0] 65)
          have hA11 := Blk.new V2 65 #[.int .i64 0, .int .i64 0, .int .i64 0, .int .i64 0, .int .i64 0, .int .i64 0, .int .i64 0, .int .i64 0, .int .i64 0]
          refine hK.out _ _ ?_ (fun hHeld32 => ?_)
          · exact s14 (hc0.below hV hc0.lt) (hd0.below hV hd0.lt)
          clear hK K hHeld32
          generalize V2.alloc (.cells #[.int .i64 0, .int .i64 0, .int .i64 0, .int .i64 0, .int .i64 0, .int .i64 0, .int .i64 0, .int .i64 0, .int .i64 0] 65) = U11V2 at *
          generalize V2.heap.size = a11 at *
          try simp only [Act.put, List.setIfInBounds_toArray, List.set_cons_zero, List.set_cons_succ]
          refine wpAnyH_ready (rs := [6]) (by kernel_rfl) (by simp) ?_
          refine AllReadyH.cons (o := _) (by rw [List.getElem?_toArray]; rfl) (fun K hK => ?_) AllReadyH.nil
          have hq := b9 hA10
          have q0 := hq.1
          have q1 := hq.2.1
          have q2 := hq.2.2.1
          have q3 := hq.2.2.2.1
          have q4 := hq.2.2.2.2.1
          have q5 := hq.2.2.2.2.2.1
          have q6 := hq.2.2.2.2.2.2.1
          have q7 := hq.2.2.2.2.2.2.2.1
          have q8 := hq.2.2.2.2.2.2.2.2.1
          have f0 := hq.2.2.2.2.2.2.2.2.2.1
          have f1 := hq.2.2.2.2.2.2.2.2.2.2.1
          have f2 := hq.2.2.2.2.2.2.2.2.2.2.2.1
          have f3 := hq.2.2.2.2.2.2.2.2.2.2.2.2.1
          have f4 := hq.2.2.2.2.2.2.2.2.2.2.2.2.2.1
          have f5 := hq.2.2.2.2.2.2.2.2.2.2.2.2.2.2.1
          have f6 := hq.2.2.2.2.2.2.2.2.2.2.2.2.2.2.2.1
          have f7 := hq.2.2.2.2.2.2.2.2.2.2.2.2.2.2.2.2.1
          have f8 := hq.2.2.2.2.2.2.2.2.2.2.2.2.2.2.2.2.2.1
          have hlt := hq.2.2.2.2.2.2.2.2.2.2.2.2.2.2.2.2.2.2
          clear hq
          go_simp
          replace hA11 := blk_far9g hA11 (show a11 ≠ a10 by omega) (.int .i64 (k : Int)) (.int .i64 (T 0)) (.int .i64 (T 1)) (.int .i64 (T 2)) (.int .i64 (T 3)) (.int .i64 (T 4)) (.int .i64 (T 5)) (.int .i64 (domL (mv T k) : Nat)) (.int .i64 (imN k T : Nat))
          replace hA10 := blk_put9g hA10 (.int .i64 (k : Int)) (.int .i64 (T 0)) (.int .i64 (T 1)) (.int .i64 (T 2)) (.int .i64 (T 3)) (.int .i64 (T 4)) (.int .i64 (T 5)) (.int .i64 (domL (mv T k) : Nat)) (.int .i64 (imN k T : Nat))
          replace hV := bel_put9g hV (show V0.heap.size ≤ a10 by omega) (.int .i64 (k : Int)) (.int .i64 (T 0)) (.int .i64 (T 1)) (.int .i64 (T 2)) (.int .i64 (T 3)) (.int .i64 (T 4)) (.int .i64 (T 5)) (.int .i64 (domL (mv T k) : Nat)) (.int .i64 (imN k T : Nat))
          clear q0 q1 q2 q3 q4 q5 q6 q7 q8 f0 f1 f2 f3 f4 f5 f6 f7 f8 hlt
          refine hK.out _ _ ?_ (fun hHeld33 => ?_)
          · exact s14 (hc0.below hV hc0.lt) (hd0.below hV hd0.lt)
          clear hK K hHeld33
          generalize (((((((((U11V2.setCell ⟨a10, 0, none⟩ (.int .i64 (k : Int))).setCell ⟨a10, 1, none⟩ (.int .i64 (T 0))).setCell ⟨a10, 2, none⟩ (.int .i64 (T 1))).setCell ⟨a10, 3, none⟩ (.int .i64 (T 2))).setCell ⟨a10, 4, none⟩ (.int .i64 (T 3))).setCell ⟨a10, 5, none⟩ (.int .i64 (T 4))).setCell ⟨a10, 6, none⟩ (.int .i64 (T 5))).setCell ⟨a10, 7, none⟩ (.int .i64 (domL (mv T k) : Nat))).setCell ⟨a10, 8, none⟩ (.int .i64 (imN k T : Nat))) = X6 at *
          try simp only [Act.put, List.setIfInBounds_toArray, List.set_cons_zero, List.set_cons_succ]
          refine wpAnyH_ready (rs := [7]) (by kernel_rfl) (by simp) ?_
          refine AllReadyH.cons (o := _) (by rw [List.getElem?_toArray]; rfl) (fun K hK => ?_) AllReadyH.nil
          have hq := b9 hA11
          have q0 := hq.1
          have q1 := hq.2.1
          have q2 := hq.2.2.1
          have q3 := hq.2.2.2.1
          have q4 := hq.2.2.2.2.1
          have q5 := hq.2.2.2.2.2.1
          have q6 := hq.2.2.2.2.2.2.1
          have q7 := hq.2.2.2.2.2.2.2.1
          have q8 := hq.2.2.2.2.2.2.2.2.1
          have f0 := hq.2.2.2.2.2.2.2.2.2.1
          have f1 := hq.2.2.2.2.2.2.2.2.2.2.1
          have f2 := hq.2.2.2.2.2.2.2.2.2.2.2.1
          have f3 := hq.2.2.2.2.2.2.2.2.2.2.2.2.1
          have f4 := hq.2.2.2.2.2.2.2.2.2.2.2.2.2.1
          have f5 := hq.2.2.2.2.2.2.2.2.2.2.2.2.2.2.1
          have f6 := hq.2.2.2.2.2.2.2.2.2.2.2.2.2.2.2.1
          have f7 := hq.2.2.2.2.2.2.2.2.2.2.2.2.2.2.2.2.1
          have f8 := hq.2.2.2.2.2.2.2.2.2.2.2.2.2.2.2.2.2.1
          have hlt := hq.2.2.2.2.2.2.2.2.2.2.2.2.2.2.2.2.2.2
          clear hq
          go_simp
          replace hA10 := blk_far9g hA10 (show a10 ≠ a11 by omega) (.int .i64 (k2 : Int)) (.int .i64 (G 0)) (.int .i64 (G 1)) (.int .i64 (G 2)) (.int .i64 (G 3)) (.int .i64 (G 4)) (.int .i64 (G 5)) (.int .i64 (domL (mv G k2) : Nat)) (.int .i64 (imN k2 G : Nat))
          replace hA11 := blk_put9g hA11 (.int .i64 (k2 : Int)) (.int .i64 (G 0)) (.int .i64 (G 1)) (.int .i64 (G 2)) (.int .i64 (G 3)) (.int .i64 (G 4)) (.int .i64 (G 5)) (.int .i64 (domL (mv G k2) : Nat)) (.int .i64 (imN k2 G : Nat))
          replace hV := bel_put9g hV (show V0.heap.size ≤ a11 by omega) (.int .i64 (k2 : Int)) (.int .i64 (G 0)) (.int .i64 (G 1)) (.int .i64 (G 2)) (.int .i64 (G 3)) (.int .i64 (G 4)) (.int .i64 (G 5)) (.int .i64 (domL (mv G k2) : Nat)) (.int .i64 (imN k2 G : Nat))
          clear q0 q1 q2 q3 q4 q5 q6 q7 q8 f0 f1 f2 f3 f4 f5 f6 f7 f8 hlt
          refine hK.out _ _ ?_ (fun hHeld34 => ?_)
          · exact s14 (hc0.below hV hc0.lt) (hd0.below hV hd0.lt)
          clear hK K hHeld34
          generalize (((((((((X6.setCell ⟨a11, 0, none⟩ (.int .i64 (k2 : Int))).setCell ⟨a11, 1, none⟩ (.int .i64 (G 0))).setCell ⟨a11, 2, none⟩ (.int .i64 (G 1))).setCell ⟨a11, 3, none⟩ (.int .i64 (G 2))).setCell ⟨a11, 4, none⟩ (.int .i64 (G 3))).setCell ⟨a11, 5, none⟩ (.int .i64 (G 4))).setCell ⟨a11, 6, none⟩ (.int .i64 (G 5))).setCell ⟨a11, 7, none⟩ (.int .i64 (domL (mv G k2) : Nat))).setCell ⟨a11, 8, none⟩ (.int .i64 (imN k2 G : Nat))) = X7 at *
          try simp only [Act.put, List.setIfInBounds_toArray, List.set_cons_zero, List.set_cons_succ]
          refine wpAnyH_done (by kernel_rfl) ?_ _
          exact HK.out _ a10 a11 hA10 hA11 hV
        refine AllReadyH.cons (o := _) (by rw [List.getElem?_toArray]; rfl) (fun K hK => ?_) AllReadyH.nil
        go_simp
        have hsz11 := hV.size
        have hne := hA10.lt
        replace hA10 := hA10.alloc (.cells #[.int .i64 0, .int .i64 0, .int .i64 0, .int .i64 0, .int .i64 0, .int .i64 0, .int .i64 0, .int .i64 0, .int .i64 0] 65)
        replace hV := hV.alloc hV.size (.cells #[.int .i64 0, .int .i64 0, .int .i64 0, .int .i64 0, .int .i64 0, .int .i64 0, .int .i64 0, .int .i64 0, .int .i64 0] 65)
        have hA11 := Blk.new V1 65 #[.int .i64 0, .int .i64 0, .int .i64 0, .int .i64 0, .int .i64 0, .int .i64 0, .int .i64 0, .int .i64 0, .int .i64 0]
        refine hK.out _ _ ?_ (fun hHeld35 => ?_)
        · exact s14 (hc0.below hV hc0.lt) (hd0.below hV hd0.lt)
        clear hK K hHeld35
        generalize V1.alloc (.cells #[.int .i64 0, .int .i64 0, .int .i64 0, .int .i64 0, .int .i64 0, .int .i64 0, .int .i64 0, .int .i64 0, .int .i64 0] 65) = U11V1 at *
        generalize V1.heap.size = a11 at *
        try simp only [Act.put, List.setIfInBounds_toArray, List.set_cons_zero, List.set_cons_succ]
        refine wpAnyH_ready (rs := [3]) (by kernel_rfl) (by simp) ?_
        refine AllReadyH.cons (o := _) (by rw [List.getElem?_toArray]; rfl) (fun K hK => ?_) AllReadyH.nil
        go_simp
        refine (arrowOf_any k2 hk2 G hG _).mono ?_
        rintro e V2 ⟨rfl, hb1⟩
        replace hA10 := blk_keep hb1 hA10 rfl
        replace hA11 := blk_keep hb1 hA11 rfl
        replace hV := bel_keep hb1 hV rfl rfl rfl rfl hV.size
        clear hb1
        refine hK.out _ _ ?_ (fun hHeld36 => ?_)
        · exact s14 (hc0.below hV hc0.lt) (hd0.below hV hd0.lt)
        clear hK K hHeld36
        try simp only [Act.put, List.setIfInBounds_toArray, List.set_cons_zero, List.set_cons_succ]
        refine wpAnyH_ready (rs := [6]) (by kernel_rfl) (by simp) ?_
        refine AllReadyH.cons (o := _) (by rw [List.getElem?_toArray]; rfl) (fun K hK => ?_) AllReadyH.nil
        have hq := b9 hA10
        have q0 := hq.1
        have q1 := hq.2.1
        have q2 := hq.2.2.1
        have q3 := hq.2.2.2.1
        have q4 := hq.2.2.2.2.1
        have q5 := hq.2.2.2.2.2.1
        have q6 := hq.2.2.2.2.2.2.1
        have q7 := hq.2.2.2.2.2.2.2.1
        have q8 := hq.2.2.2.2.2.2.2.2.1
        have f0 := hq.2.2.2.2.2.2.2.2.2.1
        have f1 := hq.2.2.2.2.2.2.2.2.2.2.1
        have f2 := hq.2.2.2.2.2.2.2.2.2.2.2.1
        have f3 := hq.2.2.2.2.2.2.2.2.2.2.2.2.1
        have f4 := hq.2.2.2.2.2.2.2.2.2.2.2.2.2.1
        have f5 := hq.2.2.2.2.2.2.2.2.2.2.2.2.2.2.1
        have f6 := hq.2.2.2.2.2.2.2.2.2.2.2.2.2.2.2.1
        have f7 := hq.2.2.2.2.2.2.2.2.2.2.2.2.2.2.2.2.1
        have f8 := hq.2.2.2.2.2.2.2.2.2.2.2.2.2.2.2.2.2.1
        have hlt := hq.2.2.2.2.2.2.2.2.2.2.2.2.2.2.2.2.2.2
        clear hq
        go_simp
        replace hA11 := blk_far9g hA11 (show a11 ≠ a10 by omega) (.int .i64 (k : Int)) (.int .i64 (T 0)) (.int .i64 (T 1)) (.int .i64 (T 2)) (.int .i64 (T 3)) (.int .i64 (T 4)) (.int .i64 (T 5)) (.int .i64 (domL (mv T k) : Nat)) (.int .i64 (imN k T : Nat))
        replace hA10 := blk_put9g hA10 (.int .i64 (k : Int)) (.int .i64 (T 0)) (.int .i64 (T 1)) (.int .i64 (T 2)) (.int .i64 (T 3)) (.int .i64 (T 4)) (.int .i64 (T 5)) (.int .i64 (domL (mv T k) : Nat)) (.int .i64 (imN k T : Nat))
        replace hV := bel_put9g hV (show V0.heap.size ≤ a10 by omega) (.int .i64 (k : Int)) (.int .i64 (T 0)) (.int .i64 (T 1)) (.int .i64 (T 2)) (.int .i64 (T 3)) (.int .i64 (T 4)) (.int .i64 (T 5)) (.int .i64 (domL (mv T k) : Nat)) (.int .i64 (imN k T : Nat))
        clear q0 q1 q2 q3 q4 q5 q6 q7 q8 f0 f1 f2 f3 f4 f5 f6 f7 f8 hlt
        refine hK.out _ _ ?_ (fun hHeld37 => ?_)
        · exact s14 (hc0.below hV hc0.lt) (hd0.below hV hd0.lt)
        clear hK K hHeld37
        generalize (((((((((V2.setCell ⟨a10, 0, none⟩ (.int .i64 (k : Int))).setCell ⟨a10, 1, none⟩ (.int .i64 (T 0))).setCell ⟨a10, 2, none⟩ (.int .i64 (T 1))).setCell ⟨a10, 3, none⟩ (.int .i64 (T 2))).setCell ⟨a10, 4, none⟩ (.int .i64 (T 3))).setCell ⟨a10, 5, none⟩ (.int .i64 (T 4))).setCell ⟨a10, 6, none⟩ (.int .i64 (T 5))).setCell ⟨a10, 7, none⟩ (.int .i64 (domL (mv T k) : Nat))).setCell ⟨a10, 8, none⟩ (.int .i64 (imN k T : Nat))) = X6 at *
        try simp only [Act.put, List.setIfInBounds_toArray, List.set_cons_zero, List.set_cons_succ]
        refine wpAnyH_ready (rs := [7]) (by kernel_rfl) (by simp) ?_
        refine AllReadyH.cons (o := _) (by rw [List.getElem?_toArray]; rfl) (fun K hK => ?_) AllReadyH.nil
        have hq := b9 hA11
        have q0 := hq.1
        have q1 := hq.2.1
        have q2 := hq.2.2.1
        have q3 := hq.2.2.2.1
        have q4 := hq.2.2.2.2.1
        have q5 := hq.2.2.2.2.2.1
        have q6 := hq.2.2.2.2.2.2.1
        have q7 := hq.2.2.2.2.2.2.2.1
        have q8 := hq.2.2.2.2.2.2.2.2.1
        have f0 := hq.2.2.2.2.2.2.2.2.2.1
        have f1 := hq.2.2.2.2.2.2.2.2.2.2.1
        have f2 := hq.2.2.2.2.2.2.2.2.2.2.2.1
        have f3 := hq.2.2.2.2.2.2.2.2.2.2.2.2.1
        have f4 := hq.2.2.2.2.2.2.2.2.2.2.2.2.2.1
        have f5 := hq.2.2.2.2.2.2.2.2.2.2.2.2.2.2.1
        have f6 := hq.2.2.2.2.2.2.2.2.2.2.2.2.2.2.2.1
        have f7 := hq.2.2.2.2.2.2.2.2.2.2.2.2.2.2.2.2.1
        have f8 := hq.2.2.2.2.2.2.2.2.2.2.2.2.2.2.2.2.2.1
        have hlt := hq.2.2.2.2.2.2.2.2.2.2.2.2.2.2.2.2.2.2
        clear hq
        go_simp
        replace hA10 := blk_far9g hA10 (show a10 ≠ a11 by omega) (.int .i64 (k2 : Int)) (.int .i64 (G 0)) (.int .i64 (G 1)) (.int .i64 (G 2)) (.int .i64 (G 3)) (.int .i64 (G 4)) (.int .i64 (G 5)) (.int .i64 (domL (mv G k2) : Nat)) (.int .i64 (imN k2 G : Nat))
        replace hA11 := blk_put9g hA11 (.int .i64 (k2 : Int)) (.int .i64 (G 0)) (.int .i64 (G 1)) (.int .i64 (G 2)) (.int .i64 (G 3)) (.int .i64 (G 4)) (.int .i64 (G 5)) (.int .i64 (domL (mv G k2) : Nat)) (.int .i64 (imN k2 G : Nat))
        replace hV := bel_put9g hV (show V0.heap.size ≤ a11 by omega) (.int .i64 (k2 : Int)) (.int .i64 (G 0)) (.int .i64 (G 1)) (.int .i64 (G 2)) (.int .i64 (G 3)) (.int .i64 (G 4)) (.int .i64 (G 5)) (.int .i64 (domL (mv G k2) : Nat)) (.int .i64 (imN k2 G : Nat))
        clear q0 q1 q2 q3 q4 q5 q6 q7 q8 f0 f1 f2 f3 f4 f5 f6 f7 f8 hlt
        refine hK.out _ _ ?_ (fun hHeld38 => ?_)
        · exact s14 (hc0.below hV hc0.lt) (hd0.below hV hd0.lt)
        clear hK K hHeld38
        generalize (((((((((X6.setCell ⟨a11, 0, none⟩ (.int .i64 (k2 : Int))).setCell ⟨a11, 1, none⟩ (.int .i64 (G 0))).setCell ⟨a11, 2, none⟩ (.int .i64 (G 1))).setCell ⟨a11, 3, none⟩ (.int .i64 (G 2))).setCell ⟨a11, 4, none⟩ (.int .i64 (G 3))).setCell ⟨a11, 5, none⟩ (.int .i64 (G 4))).setCell ⟨a11, 6, none⟩ (.int .i64 (G 5))).setCell ⟨a11, 7, none⟩ (.int .i64 (domL (mv G k2) : Nat))).setCell ⟨a11, 8, none⟩ (.int .i64 (imN k2 G : Nat))) = X7 at *
        try simp only [Act.put, List.setIfInBounds_toArray, List.set_cons_zero, List.set_cons_succ]
        refine wpAnyH_done (by kernel_rfl) ?_ _
        exact HK.out _ a10 a11 hA10 hA11 hV
      refine AllReadyH.cons (o := _) (by rw [List.getElem?_toArray]; rfl) (fun K hK => ?_) AllReadyH.nil
      go_simp
      have hsz11 := hV.size
      have hne := hA10.lt
      replace hA10 := hA10.alloc (.cells #[.int .i64 0, .int .i64 0, .int .i64 0, .int .i64 0, .int .i64 0, .int .i64 0, .int .i64 0, .int .i64 0, .int .i64 0] 65)
      replace hV := hV.alloc hV.size (.cells #[.int .i64 0, .int .i64 0, .int .i64 0, .int .i64 0, .int .i64 0, .int .i64 0, .int .i64 0, .int .i64 0, .int .i64 0] 65)
      have hA11 := Blk.new U10D0 65 #[.int .i64 0, .int .i64 0, .int .i64 0, .int .i64 0, .int .i64 0, .int .i64 0, .int .i64 0, .int .i64 0, .int .i64 0]
      refine hK.out _ _ ?_ (fun hHeld39 => ?_)
      · exact s14 (hc0.below hV hc0.lt) (hd0.below hV hd0.lt)
      clear hK K hHeld39
      generalize U10D0.alloc (.cells #[.int .i64 0, .int .i64 0, .int .i64 0, .int .i64 0, .int .i64 0, .int .i64 0, .int .i64 0, .int .i64 0, .int .i64 0] 65) = U11U10D0 at *
      generalize U10D0.heap.size = a11 at *
      try simp only [Act.put, List.setIfInBounds_toArray, List.set_cons_zero, List.set_cons_succ]
      refine wpAnyH_ready (rs := [1]) (by kernel_rfl) (by simp) ?_
      refine AllReadyH.cons (o := _) (by rw [List.getElem?_toArray]; rfl) (fun K hK => ?_) AllReadyH.nil
      go_simp
      refine (arrowOf_any k hk T hT _).mono ?_
      rintro e V1 ⟨rfl, hb1⟩
      replace hA10 := blk_keep hb1 hA10 rfl
      replace hA11 := blk_keep hb1 hA11 rfl
      replace hV := bel_keep hb1 hV rfl rfl rfl rfl hV.size
      clear hb1
      refine hK.out _ _ ?_ (fun hHeld40 => ?_)
      · exact s14 (hc0.below hV hc0.lt) (hd0.below hV hd0.lt)
      clear hK K hHeld40
      try simp only [Act.put, List.setIfInBounds_toArray, List.set_cons_zero, List.set_cons_succ]
      refine wpAnyH_ready (rs := [3]) (by kernel_rfl) (by simp) ?_
      refine AllReadyH.cons (o := _) (by rw [List.getElem?_toArray]; rfl) (fun K hK => ?_) AllReadyH.nil
      go_simp
      refine (arrowOf_any k2 hk2 G hG _).mono ?_
      rintro e V2 ⟨rfl, hb1⟩
      replace hA10 := blk_keep hb1 hA10 rfl
      replace hA11 := blk_keep hb1 hA11 rfl
      replace hV := bel_keep hb1 hV rfl rfl rfl rfl hV.size
      clear hb1
      refine hK.out _ _ ?_ (fun hHeld41 => ?_)
      · exact s14 (hc0.below hV hc0.lt) (hd0.below hV hd0.lt)
      clear hK K hHeld41
      try simp only [Act.put, List.setIfInBounds_toArray, List.set_cons_zero, List.set_cons_succ]
      refine wpAnyH_ready (rs := [6]) (by kernel_rfl) (by simp) ?_
      refine AllReadyH.cons (o := _) (by rw [List.getElem?_toArray]; rfl) (fun K hK => ?_) AllReadyH.nil
      have hq := b9 hA10
      have q0 := hq.1
      have q1 := hq.2.1
      have q2 := hq.2.2.1
      have q3 := hq.2.2.2.1
      have q4 := hq.2.2.2.2.1
      have q5 := hq.2.2.2.2.2.1
      have q6 := hq.2.2.2.2.2.2.1
      have q7 := hq.2.2.2.2.2.2.2.1
      have q8 := hq.2.2.2.2.2.2.2.2.1
      have f0 := hq.2.2.2.2.2.2.2.2.2.1
      have f1 := hq.2.2.2.2.2.2.2.2.2.2.1
      have f2 := hq.2.2.2.2.2.2.2.2.2.2.2.1
      have f3 := hq.2.2.2.2.2.2.2.2.2.2.2.2.1
      have f4 := hq.2.2.2.2.2.2.2.2.2.2.2.2.2.1
      have f5 := hq.2.2.2.2.2.2.2.2.2.2.2.2.2.2.1
      have f6 := hq.2.2.2.2.2.2.2.2.2.2.2.2.2.2.2.1
      have f7 := hq.2.2.2.2.2.2.2.2.2.2.2.2.2.2.2.2.1
      have f8 := hq.2.2.2.2.2.2.2.2.2.2.2.2.2.2.2.2.2.1
      have hlt := hq.2.2.2.2.2.2.2.2.2.2.2.2.2.2.2.2.2.2
      clear hq
      go_simp
      replace hA11 := blk_far9g hA11 (show a11 ≠ a10 by omega) (.int .i64 (k : Int)) (.int .i64 (T 0)) (.int .i64 (T 1)) (.int .i64 (T 2)) (.int .i64 (T 3)) (.int .i64 (T 4)) (.int .i64 (T 5)) (.int .i64 (domL (mv T k) : Nat)) (.int .i64 (imN k T : Nat))
      replace hA10 := blk_put9g hA10 (.int .i64 (k : Int)) (.int .i64 (T 0)) (.int .i64 (T 1)) (.int .i64 (T 2)) (.int .i64 (T 3)) (.int .i64 (T 4)) (.int .i64 (T 5)) (.int .i64 (domL (mv T k) : Nat)) (.int .i64 (imN k T : Nat))
      replace hV := bel_put9g hV (show V0.heap.size ≤ a10 by omega) (.int .i64 (k : Int)) (.int .i64 (T 0)) (.int .i64 (T 1)) (.int .i64 (T 2)) (.int .i64 (T 3)) (.int .i64 (T 4)) (.int .i64 (T 5)) (.int .i64 (domL (mv T k) : Nat)) (.int .i64 (imN k T : Nat))
      clear q0 q1 q2 q3 q4 q5 q6 q7 q8 f0 f1 f2 f3 f4 f5 f6 f7 f8 hlt
      refine hK.out _ _ ?_ (fun hHeld42 => ?_)
      · exact s14 (hc0.below hV hc0.lt) (hd0.below hV hd0.lt)
      clear hK K hHeld42
      generalize (((((((((V2.setCell ⟨a10, 0, none⟩ (.int .i64 (k : Int))).setCell ⟨a10, 1, none⟩ (.int .i64 (T 0))).setCell ⟨a10, 2, none⟩ (.int .i64 (T 1))).setCell ⟨a10, 3, none⟩ (.int .i64 (T 2))).setCell ⟨a10, 4, none⟩ (.int .i64 (T 3))).setCell ⟨a10, 5, none⟩ (.int .i64 (T 4))).setCell ⟨a10, 6, none⟩ (.int .i64 (T 5))).setCell ⟨a10, 7, none⟩ (.int .i64 (domL (mv T k) : Nat))).setCell ⟨a10, 8, none⟩ (.int .i64 (imN k T : Nat))) = X6 at *
      try simp only [Act.put, List.setIfInBounds_toArray, List.set_cons_zero, List.set_cons_succ]
      refine wpAnyH_ready (rs := [7]) (by kernel_rfl) (by simp) ?_
      refine AllReadyH.cons (o := _) (by rw [List.getElem?_toArray]; rfl) (fun K hK => ?_) AllReadyH.nil
      have hq := b9 hA11
      have q0 := hq.1
      have q1 := hq.2.1
      have q2 := hq.2.2.1
      have q3 := hq.2.2.2.1
      have q4 := hq.2.2.2.2.1
      have q5 := hq.2.2.2.2.2.1
      have q6 := hq.2.2.2.2.2.2.1
      have q7 := hq.2.2.2.2.2.2.2.1
      have q8 := hq.2.2.2.2.2.2.2.2.1
      have f0 := hq.2.2.2.2.2.2.2.2.2.1
      have f1 := hq.2.2.2.2.2.2.2.2.2.2.1
      have f2 := hq.2.2.2.2.2.2.2.2.2.2.2.1
      have f3 := hq.2.2.2.2.2.2.2.2.2.2.2.2.1
      have f4 := hq.2.2.2.2.2.2.2.2.2.2.2.2.2.1
      have f5 := hq.2.2.2.2.2.2.2.2.2.2.2.2.2.2.1
      have f6 := hq.2.2.2.2.2.2.2.2.2.2.2.2.2.2.2.1
      have f7 := hq.2.2.2.2.2.2.2.2.2.2.2.2.2.2.2.2.1
      have f8 := hq.2.2.2.2.2.2.2.2.2.2.2.2.2.2.2.2.2.1
      have hlt := hq.2.2.2.2.2.2.2.2.2.2.2.2.2.2.2.2.2.2
      clear hq
      go_simp
      replace hA10 := blk_far9g hA10 (show a10 ≠ a11 by omega) (.int .i64 (k2 : Int)) (.int .i64 (G 0)) (.int .i64 (G 1)) (.int .i64 (G 2)) (.int .i64 (G 3)) (.int .i64 (G 4)) (.int .i64 (G 5)) (.int .i64 (domL (mv G k2) : Nat)) (.int .i64 (imN k2 G : Nat))
      replace hA11 := blk_put9g hA11 (.int .i64 (k2 : Int)) (.int .i64 (G 0)) (.int .i64 (G 1)) (.int .i64 (G 2)) (.int .i64 (G 3)) (.int .i64 (G 4)) (.int .i64 (G 5)) (.int .i64 (domL (mv G k2) : Nat)) (.int .i64 (imN k2 G : Nat))
      replace hV := bel_put9g hV (show V0.heap.size ≤ a11 by omega) (.int .i64 (k2 : Int)) (.int .i64 (G 0)) (.int .i64 (G 1)) (.int .i64 (G 2)) (.int .i64 (G 3)) (.int .i64 (G 4)) (.int .i64 (G 5)) (.int .i64 (domL (mv G k2) : Nat)) (.int .i64 (imN k2 G : Nat))
      clear q0 q1 q2 q3 q4 q5 q6 q7 q8 f0 f1 f2 f3 f4 f5 f6 f7 f8 hlt
      refine hK.out _ _ ?_ (fun hHeld43 => ?_)
      · exact s14 (hc0.below hV hc0.lt) (hd0.below hV hd0.lt)
      clear hK K hHeld43
      generalize (((((((((X6.setCell ⟨a11, 0, none⟩ (.int .i64 (k2 : Int))).setCell ⟨a11, 1, none⟩ (.int .i64 (G 0))).setCell ⟨a11, 2, none⟩ (.int .i64 (G 1))).setCell ⟨a11, 3, none⟩ (.int .i64 (G 2))).setCell ⟨a11, 4, none⟩ (.int .i64 (G 3))).setCell ⟨a11, 5, none⟩ (.int .i64 (G 4))).setCell ⟨a11, 6, none⟩ (.int .i64 (G 5))).setCell ⟨a11, 7, none⟩ (.int .i64 (domL (mv G k2) : Nat))).setCell ⟨a11, 8, none⟩ (.int .i64 (imN k2 G : Nat))) = X7 at *
      try simp only [Act.put, List.setIfInBounds_toArray, List.set_cons_zero, List.set_cons_succ]
      refine wpAnyH_done (by kernel_rfl) ?_ _
      exact HK.out _ a10 a11 hA10 hA11 hV
    refine AllReadyH.cons (o := _) (by rw [List.getElem?_toArray]; rfl) (fun K hK => ?_) AllReadyH.nil
    go_simp
    have hsz11 := hV.size
    replace hV := hV.alloc hV.size (.cells #[.int .i64 0, .int .i64 0, .int .i64 0, .int .i64 0, .int .i64 0, .int .i64 0, .int .i64 0, .int .i64 0, .int .i64 0] 65)
    have hA11 := Blk.new D0 65 #[.int .i64 0, .int .i64 0, .int .i64 0, .int .i64 0, .int .i64 0, .int .i64 0, .int .i64 0, .int .i64 0, .int .i64 0]
    refine hK.out _ _ ?_ (fun hHeld44 => ?_)
    · exact s14 (hc0.below hV hc0.lt) (hd0.below hV hd0.lt)
    clear hK K hHeld44
    generalize D0.alloc (.cells #[.int .i64 0, .int .i64 0, .int .i64 0, .int .i64 0, .int .i64 0, .int .i64 0, .int .i64 0, .int .i64 0, .int .i64 0] 65) = U11D0 at *
    generalize D0.heap.size = a11 at *
    try simp only [Act.put, List.setIfInBounds_toArray, List.set_cons_zero, List.set_cons_succ]
    refine wpAnyH_ready (rs := [1, 4]) (by kernel_rfl) (by simp) ?_
    refine AllReadyH.cons (o := _) (by rw [List.getElem?_toArray]; rfl) (fun K hK => ?_) ?_
    · go_simp
      refine (arrowOf_any k hk T hT _).mono ?_
      rintro e V1 ⟨rfl, hb1⟩
      replace hA11 := blk_keep hb1 hA11 rfl
      replace hV := bel_keep hb1 hV rfl rfl rfl rfl hV.size
      clear hb1
      refine hK.out _ _ ?_ (fun hHeld45 => ?_)
      · exact s14 (hc0.below hV hc0.lt) (hd0.below hV hd0.lt)
      clear hK K hHeld45
      try simp only [Act.put, List.setIfInBounds_toArray, List.set_cons_zero, List.set_cons_succ]
      refine wpAnyH_ready (rs := [3, 4]) (by kernel_rfl) (by simp) ?_
      refine AllReadyH.cons (o := _) (by rw [List.getElem?_toArray]; rfl) (fun K hK => ?_) ?_
      · go_simp
        refine (arrowOf_any k2 hk2 G hG _).mono ?_
        rintro e V2 ⟨rfl, hb1⟩
        replace hA11 := blk_keep hb1 hA11 rfl
        replace hV := bel_keep hb1 hV rfl rfl rfl rfl hV.size
        clear hb1
        refine hK.out _ _ ?_ (fun hHeld46 => ?_)
        · exact s14 (hc0.below hV hc0.lt) (hd0.below hV hd0.lt)
        clear hK K hHeld46
        try simp only [Act.put, List.setIfInBounds_toArray, List.set_cons_zero, List.set_cons_succ]
        refine wpAnyH_ready (rs := [4]) (by kernel_rfl) (by simp) ?_
        refine AllReadyH.cons (o := _) (by rw [List.getElem?_toArray]; rfl) (fun K hK => ?_) AllReadyH.nil
        go_simp
        have hsz10 := hV.size
        have hne := hA11.lt
        replace hA11 := hA11.alloc (.cells #[.int .i64 0, .int .i64 0, .int .i64 0, .int .i64 0, .int .i64 0, .int .i64 0, .int .i64 0, .int .i64 0, .int .i64 0] 65)
        replace hV := hV.alloc hV.size (.cells #[.int .i64 0, .int .i64 0, .int .i64 0, .int .i64 0, .int .i64 0, .int .i64 0, .int .i64 0, .int .i64 0, .int .i64 0] 65)
        have hA10 := Blk.new V2 65 #[.int .i64 0, .int .i64 0, .int .i64 0, .int .i64 0, .int .i64 0, .int .i64 0, .int .i64 0, .int .i64 0, .int .i64 0]
        refine hK.out _ _ ?_ (fun hHeld47 => ?_)
        · exact s14 (hc0.below hV hc0.lt) (hd0.below hV hd0.lt)
        clear hK K hHeld47
        generalize V2.alloc (.cells #[.int .i64 0, .int .i64 0, .int .i64 0, .int .i64 0, .int .i64 0, .int .i64 0, .int .i64 0, .int .i64 0, .int .i64 0] 65) = U10V2 at *
        generalize V2.heap.size = a10 at *
        try simp only [Act.put, List.setIfInBounds_toArray, List.set_cons_zero, List.set_cons_succ]
        refine wpAnyH_ready (rs := [6]) (by kernel_rfl) (by simp) ?_
        refine AllReadyH.cons (o := _) (by rw [List.getElem?_toArray]; rfl) (fun K hK => ?_) AllReadyH.nil
        have hq := b9 hA10
        have q0 := hq.1
        have q1 := hq.2.1
        have q2 := hq.2.2.1
        have q3 := hq.2.2.2.1
        have q4 := hq.2.2.2.2.1
        have q5 := hq.2.2.2.2.2.1
        have q6 := hq.2.2.2.2.2.2.1
        have q7 := hq.2.2.2.2.2.2.2.1
        have q8 := hq.2.2.2.2.2.2.2.2.1
        have f0 := hq.2.2.2.2.2.2.2.2.2.1
        have f1 := hq.2.2.2.2.2.2.2.2.2.2.1
        have f2 := hq.2.2.2.2.2.2.2.2.2.2.2.1
        have f3 := hq.2.2.2.2.2.2.2.2.2.2.2.2.1
        have f4 := hq.2.2.2.2.2.2.2.2.2.2.2.2.2.1
        have f5 := hq.2.2.2.2.2.2.2.2.2.2.2.2.2.2.1
        have f6 := hq.2.2.2.2.2.2.2.2.2.2.2.2.2.2.2.1
        have f7 := hq.2.2.2.2.2.2.2.2.2.2.2.2.2.2.2.2.1
        have f8 := hq.2.2.2.2.2.2.2.2.2.2.2.2.2.2.2.2.2.1
        have hlt := hq.2.2.2.2.2.2.2.2.2.2.2.2.2.2.2.2.2.2
        clear hq
        go_simp
        replace hA11 := blk_far9g hA11 (show a11 ≠ a10 by omega) (.int .i64 (k : Int)) (.int .i64 (T 0)) (.int .i64 (T 1)) (.int .i64 (T 2)) (.int .i64 (T 3)) (.int .i64 (T 4)) (.int .i64 (T 5)) (.int .i64 (domL (mv T k) : Nat)) (.int .i64 (imN k T : Nat))
        replace hA10 := blk_put9g hA10 (.int .i64 (k : Int)) (.int .i64 (T 0)) (.int .i64 (T 1)) (.int .i64 (T 2)) (.int .i64 (T 3)) (.int .i64 (T 4)) (.int .i64 (T 5)) (.int .i64 (domL (mv T k) : Nat)) (.int .i64 (imN k T : Nat))
        replace hV := bel_put9g hV (show V0.heap.size ≤ a10 by omega) (.int .i64 (k : Int)) (.int .i64 (T 0)) (.int .i64 (T 1)) (.int .i64 (T 2)) (.int .i64 (T 3)) (.int .i64 (T 4)) (.int .i64 (T 5)) (.int .i64 (domL (mv T k) : Nat)) (.int .i64 (imN k T : Nat))
        clear q0 q1 q2 q3 q4 q5 q6 q7 q8 f0 f1 f2 f3 f4 f5 f6 f7 f8 hlt
        refine hK.out _ _ ?_ (fun hHeld48 => ?_)
        · exact s14 (hc0.below hV hc0.lt) (hd0.below hV hd0.lt)
        clear hK K hHeld48
        generalize (((((((((U10V2.setCell ⟨a10, 0, none⟩ (.int .i64 (k : Int))).setCell ⟨a10, 1, none⟩ (.int .i64 (T 0))).setCell ⟨a10, 2, none⟩ (.int .i64 (T 1))).setCell ⟨a10, 3, none⟩ (.int .i64 (T 2))).setCell ⟨a10, 4, none⟩ (.int .i64 (T 3))).setCell ⟨a10, 5, none⟩ (.int .i64 (T 4))).setCell ⟨a10, 6, none⟩ (.int .i64 (T 5))).setCell ⟨a10, 7, none⟩ (.int .i64 (domL (mv T k) : Nat))).setCell ⟨a10, 8, none⟩ (.int .i64 (imN k T : Nat))) = X6 at *
        try simp only [Act.put, List.setIfInBounds_toArray, List.set_cons_zero, List.set_cons_succ]
        refine wpAnyH_ready (rs := [7]) (by kernel_rfl) (by simp) ?_
        refine AllReadyH.cons (o := _) (by rw [List.getElem?_toArray]; rfl) (fun K hK => ?_) AllReadyH.nil
        have hq := b9 hA11
        have q0 := hq.1
        have q1 := hq.2.1
        have q2 := hq.2.2.1
        have q3 := hq.2.2.2.1
        have q4 := hq.2.2.2.2.1
        have q5 := hq.2.2.2.2.2.1
        have q6 := hq.2.2.2.2.2.2.1
        have q7 := hq.2.2.2.2.2.2.2.1
        have q8 := hq.2.2.2.2.2.2.2.2.1
        have f0 := hq.2.2.2.2.2.2.2.2.2.1
        have f1 := hq.2.2.2.2.2.2.2.2.2.2.1
        have f2 := hq.2.2.2.2.2.2.2.2.2.2.2.1
        have f3 := hq.2.2.2.2.2.2.2.2.2.2.2.2.1
        have f4 := hq.2.2.2.2.2.2.2.2.2.2.2.2.2.1
        have f5 := hq.2.2.2.2.2.2.2.2.2.2.2.2.2.2.1
        have f6 := hq.2.2.2.2.2.2.2.2.2.2.2.2.2.2.2.1
        have f7 := hq.2.2.2.2.2.2.2.2.2.2.2.2.2.2.2.2.1
        have f8 := hq.2.2.2.2.2.2.2.2.2.2.2.2.2.2.2.2.2.1
        have hlt := hq.2.2.2.2.2.2.2.2.2.2.2.2.2.2.2.2.2.2
        clear hq
        go_simp
        replace hA10 := blk_far9g hA10 (show a10 ≠ a11 by omega) (.int .i64 (k2 : Int)) (.int .i64 (G 0)) (.int .i64 (G 1)) (.int .i64 (G 2)) (.int .i64 (G 3)) (.int .i64 (G 4)) (.int .i64 (G 5)) (.int .i64 (domL (mv G k2) : Nat)) (.int .i64 (imN k2 G : Nat))
        replace hA11 := blk_put9g hA11 (.int .i64 (k2 : Int)) (.int .i64 (G 0)) (.int .i64 (G 1)) (.int .i64 (G 2)) (.int .i64 (G 3)) (.int .i64 (G 4)) (.int .i64 (G 5)) (.int .i64 (domL (mv G k2) : Nat)) (.int .i64 (imN k2 G : Nat))
        replace hV := bel_put9g hV (show V0.heap.size ≤ a11 by omega) (.int .i64 (k2 : Int)) (.int .i64 (G 0)) (.int .i64 (G 1)) (.int .i64 (G 2)) (.int .i64 (G 3)) (.int .i64 (G 4)) (.int .i64 (G 5)) (.int .i64 (domL (mv G k2) : Nat)) (.int .i64 (imN k2 G : Nat))
        clear q0 q1 q2 q3 q4 q5 q6 q7 q8 f0 f1 f2 f3 f4 f5 f6 f7 f8 hlt
        refine hK.out _ _ ?_ (fun hHeld49 => ?_)
        · exact s14 (hc0.below hV hc0.lt) (hd0.below hV hd0.lt)
        clear hK K hHeld49
        generalize (((((((((X6.setCell ⟨a11, 0, none⟩ (.int .i64 (k2 : Int))).setCell ⟨a11, 1, none⟩ (.int .i64 (G 0))).setCell ⟨a11, 2, none⟩ (.int .i64 (G 1))).setCell ⟨a11, 3, none⟩ (.int .i64 (G 2))).setCell ⟨a11, 4, none⟩ (.int .i64 (G 3))).setCell ⟨a11, 5, none⟩ (.int .i64 (G 4))).setCell ⟨a11, 6, none⟩ (.int .i64 (G 5))).setCell ⟨a11, 7, none⟩ (.int .i64 (domL (mv G k2) : Nat))).setCell ⟨a11, 8, none⟩ (.int .i64 (imN k2 G : Nat))) = X7 at *
        try simp only [Act.put, List.setIfInBounds_toArray, List.set_cons_zero, List.set_cons_succ]
        refine wpAnyH_done (by kernel_rfl) ?_ _
        exact HK.out _ a10 a11 hA10 hA11 hV
      refine AllReadyH.cons (o := _) (by rw [List.getElem?_toArray]; rfl) (fun K hK => ?_) AllReadyH.nil
      go_simp
      have hsz10 := hV.size
      have hne := hA11.lt
      replace hA11 := hA11.alloc (.cells #[.int .i64 0, .int .i64 0, .int .i64 0, .int .i64 0, .int .i64 0, .int .i64 0, .int .i64 0, .int .i64 0, .int .i64 0] 65)
      replace hV := hV.alloc hV.size (.cells #[.int .i64 0, .int .i64 0, .int .i64 0, .int .i64 0, .int .i64 0, .int .i64 0, .int .i64 0, .int .i64 0, .int .i64 0] 65)
      have hA10 := Blk.new V1 65 #[.int .i64 0, .int .i64 0, .int .i64 0, .int .i64 0, .int .i64 0, .int .i64 0, .int .i64 0, .int .i64 0, .int .i64 0]
      refine hK.out _ _ ?_ (fun hHeld50 => ?_)
      · exact s14 (hc0.below hV hc0.lt) (hd0.below hV hd0.lt)
      clear hK K hHeld50
      generalize V1.alloc (.cells #[.int .i64 0, .int .i64 0, .int .i64 0, .int .i64 0, .int .i64 0, .int .i64 0, .int .i64 0, .int .i64 0, .int .i64 0] 65) = U10V1 at *
      generalize V1.heap.size = a10 at *
      try simp only [Act.put, List.setIfInBounds_toArray, List.set_cons_zero, List.set_cons_succ]
      refine wpAnyH_ready (rs := [3]) (by kernel_rfl) (by simp) ?_
      refine AllReadyH.cons (o := _) (by rw [List.getElem?_toArray]; rfl) (fun K hK => ?_) AllReadyH.nil
      go_simp
      refine (arrowOf_any k2 hk2 G hG _).mono ?_
      rintro e V2 ⟨rfl, hb1⟩
      replace hA10 := blk_keep hb1 hA10 rfl
      replace hA11 := blk_keep hb1 hA11 rfl
      replace hV := bel_keep hb1 hV rfl rfl rfl rfl hV.size
      clear hb1
      refine hK.out _ _ ?_ (fun hHeld51 => ?_)
      · exact s14 (hc0.below hV hc0.lt) (hd0.below hV hd0.lt)
      clear hK K hHeld51
      try simp only [Act.put, List.setIfInBounds_toArray, List.set_cons_zero, List.set_cons_succ]
      refine wpAnyH_ready (rs := [6]) (by kernel_rfl) (by simp) ?_
      refine AllReadyH.cons (o := _) (by rw [List.getElem?_toArray]; rfl) (fun K hK => ?_) AllReadyH.nil
      have hq := b9 hA10
      have q0 := hq.1
      have q1 := hq.2.1
      have q2 := hq.2.2.1
      have q3 := hq.2.2.2.1
      have q4 := hq.2.2.2.2.1
      have q5 := hq.2.2.2.2.2.1
      have q6 := hq.2.2.2.2.2.2.1
      have q7 := hq.2.2.2.2.2.2.2.1
      have q8 := hq.2.2.2.2.2.2.2.2.1
      have f0 := hq.2.2.2.2.2.2.2.2.2.1
      have f1 := hq.2.2.2.2.2.2.2.2.2.2.1
      have f2 := hq.2.2.2.2.2.2.2.2.2.2.2.1
      have f3 := hq.2.2.2.2.2.2.2.2.2.2.2.2.1
      have f4 := hq.2.2.2.2.2.2.2.2.2.2.2.2.2.1
      have f5 := hq.2.2.2.2.2.2.2.2.2.2.2.2.2.2.1
      have f6 := hq.2.2.2.2.2.2.2.2.2.2.2.2.2.2.2.1
      have f7 := hq.2.2.2.2.2.2.2.2.2.2.2.2.2.2.2.2.1
      have f8 := hq.2.2.2.2.2.2.2.2.2.2.2.2.2.2.2.2.2.1
      have hlt := hq.2.2.2.2.2.2.2.2.2.2.2.2.2.2.2.2.2.2
      clear hq
      go_simp
      replace hA11 := blk_far9g hA11 (show a11 ≠ a10 by omega) (.int .i64 (k : Int)) (.int .i64 (T 0)) (.int .i64 (T 1)) (.int .i64 (T 2)) (.int .i64 (T 3)) (.int .i64 (T 4)) (.int .i64 (T 5)) (.int .i64 (domL (mv T k) : Nat)) (.int .i64 (imN k T : Nat))
      replace hA10 := blk_put9g hA10 (.int .i64 (k : Int)) (.int .i64 (T 0)) (.int .i64 (T 1)) (.int .i64 (T 2)) (.int .i64 (T 3)) (.int .i64 (T 4)) (.int .i64 (T 5)) (.int .i64 (domL (mv T k) : Nat)) (.int .i64 (imN k T : Nat))
      replace hV := bel_put9g hV (show V0.heap.size ≤ a10 by omega) (.int .i64 (k : Int)) (.int .i64 (T 0)) (.int .i64 (T 1)) (.int .i64 (T 2)) (.int .i64 (T 3)) (.int .i64 (T 4)) (.int .i64 (T 5)) (.int .i64 (domL (mv T k) : Nat)) (.int .i64 (imN k T : Nat))
      clear q0 q1 q2 q3 q4 q5 q6 q7 q8 f0 f1 f2 f3 f4 f5 f6 f7 f8 hlt
      refine hK.out _ _ ?_ (fun hHeld52 => ?_)
      · exact s14 (hc0.below hV hc0.lt) (hd0.below hV hd0.lt)
      clear hK K hHeld52
      generalize (((((((((V2.setCell ⟨a10, 0, none⟩ (.int .i64 (k : Int))).setCell ⟨a10, 1, none⟩ (.int .i64 (T 0))).setCell ⟨a10, 2, none⟩ (.int .i64 (T 1))).setCell ⟨a10, 3, none⟩ (.int .i64 (T 2))).setCell ⟨a10, 4, none⟩ (.int .i64 (T 3))).setCell ⟨a10, 5, none⟩ (.int .i64 (T 4))).setCell ⟨a10, 6, none⟩ (.int .i64 (T 5))).setCell ⟨a10, 7, none⟩ (.int .i64 (domL (mv T k) : Nat))).setCell ⟨a10, 8, none⟩ (.int .i64 (imN k T : Nat))) = X6 at *
      try simp only [Act.put, List.setIfInBounds_toArray, List.set_cons_zero, List.set_cons_succ]
      refine wpAnyH_ready (rs := [7]) (by kernel_rfl) (by simp) ?_
      refine AllReadyH.cons (o := _) (by rw [List.getElem?_toArray]; rfl) (fun K hK => ?_) AllReadyH.nil
      have hq := b9 hA11
      have q0 := hq.1
      have q1 := hq.2.1
      have q2 := hq.2.2.1
      have q3 := hq.2.2.2.1
      have q4 := hq.2.2.2.2.1
      have q5 := hq.2.2.2.2.2.1
      have q6 := hq.2.2.2.2.2.2.1
      have q7 := hq.2.2.2.2.2.2.2.1
      have q8 := hq.2.2.2.2.2.2.2.2.1
      have f0 := hq.2.2.2.2.2.2.2.2.2.1
      have f1 := hq.2.2.2.2.2.2.2.2.2.2.1
      have f2 := hq.2.2.2.2.2.2.2.2.2.2.2.1
      have f3 := hq.2.2.2.2.2.2.2.2.2.2.2.2.1
      have f4 := hq.2.2.2.2.2.2.2.2.2.2.2.2.2.1
      have f5 := hq.2.2.2.2.2.2.2.2.2.2.2.2.2.2.1
      have f6 := hq.2.2.2.2.2.2.2.2.2.2.2.2.2.2.2.1
      have f7 := hq.2.2.2.2.2.2.2.2.2.2.2.2.2.2.2.2.1
      have f8 := hq.2.2.2.2.2.2.2.2.2.2.2.2.2.2.2.2.2.1
      have hlt := hq.2.2.2.2.2.2.2.2.2.2.2.2.2.2.2.2.2.2
      clear hq
      go_simp
      replace hA10 := blk_far9g hA10 (show a10 ≠ a11 by omega) (.int .i64 (k2 : Int)) (.int .i64 (G 0)) (.int .i64 (G 1)) (.int .i64 (G 2)) (.int .i64 (G 3)) (.int .i64 (G 4)) (.int .i64 (G 5)) (.int .i64 (domL (mv G k2) : Nat)) (.int .i64 (imN k2 G : Nat))
      replace hA11 := blk_put9g hA11 (.int .i64 (k2 : Int)) (.int .i64 (G 0)) (.int .i64 (G 1)) (.int .i64 (G 2)) (.int .i64 (G 3)) (.int .i64 (G 4)) (.int .i64 (G 5)) (.int .i64 (domL (mv G k2) : Nat)) (.int .i64 (imN k2 G : Nat))
      replace hV := bel_put9g hV (show V0.heap.size ≤ a11 by omega) (.int .i64 (k2 : Int)) (.int .i64 (G 0)) (.int .i64 (G 1)) (.int .i64 (G 2)) (.int .i64 (G 3)) (.int .i64 (G 4)) (.int .i64 (G 5)) (.int .i64 (domL (mv G k2) : Nat)) (.int .i64 (imN k2 G : Nat))
      clear q0 q1 q2 q3 q4 q5 q6 q7 q8 f0 f1 f2 f3 f4 f5 f6 f7 f8 hlt
      refine hK.out _ _ ?_ (fun hHeld53 => ?_)
      · exact s14 (hc0.below hV hc0.lt) (hd0.below hV hd0.lt)
      clear hK K hHeld53
      generalize (((((((((X6.setCell ⟨a11, 0, none⟩ (.int .i64 (k2 : Int))).setCell ⟨a11, 1, none⟩ (.int .i64 (G 0))).setCell ⟨a11, 2, none⟩ (.int .i64 (G 1))).setCell ⟨a11, 3, none⟩ (.int .i64 (G 2))).setCell ⟨a11, 4, none⟩ (.int .i64 (G 3))).setCell ⟨a11, 5, none⟩ (.int .i64 (G 4))).setCell ⟨a11, 6, none⟩ (.int .i64 (G 5))).setCell ⟨a11, 7, none⟩ (.int .i64 (domL (mv G k2) : Nat))).setCell ⟨a11, 8, none⟩ (.int .i64 (imN k2 G : Nat))) = X7 at *
      try simp only [Act.put, List.setIfInBounds_toArray, List.set_cons_zero, List.set_cons_succ]
      refine wpAnyH_done (by kernel_rfl) ?_ _
      exact HK.out _ a10 a11 hA10 hA11 hV
    refine AllReadyH.cons (o := _) (by rw [List.getElem?_toArray]; rfl) (fun K hK => ?_) AllReadyH.nil
    go_simp
    have hsz10 := hV.size
    have hne := hA11.lt
    replace hA11 := hA11.alloc (.cells #[.int .i64 0, .int .i64 0, .int .i64 0, .int .i64 0, .int .i64 0, .int .i64 0, .int .i64 0, .int .i64 0, .int .i64 0] 65)
    replace hV := hV.alloc hV.size (.cells #[.int .i64 0, .int .i64 0, .int .i64 0, .int .i64 0, .int .i64 0, .int .i64 0, .int .i64 0, .int .i64 0, .int .i64 0] 65)
    have hA10 := Blk.new U11D0 65 #[.int .i64 0, .int .i64 0, .int .i64 0, .int .i64 0, .int .i64 0, .int .i64 0, .int .i64 0, .int .i64 0, .int .i64 0]
    refine hK.out _ _ ?_ (fun hHeld54 => ?_)
    · exact s14 (hc0.below hV hc0.lt) (hd0.below hV hd0.lt)
    clear hK K hHeld54
    generalize U11D0.alloc (.cells #[.int .i64 0, .int .i64 0, .int .i64 0, .int .i64 0, .int .i64 0, .int .i64 0, .int .i64 0, .int .i64 0, .int .i64 0] 65) = U10U11D0 at *
    generalize U11D0.heap.size = a10 at *
    try simp only [Act.put, List.setIfInBounds_toArray, List.set_cons_zero, List.set_cons_succ]
    refine wpAnyH_ready (rs := [1]) (by kernel_rfl) (by simp) ?_
    refine AllReadyH.cons (o := _) (by rw [List.getElem?_toArray]; rfl) (fun K hK => ?_) AllReadyH.nil
    go_simp
    refine (arrowOf_any k hk T hT _).mono ?_
    rintro e V1 ⟨rfl, hb1⟩
    replace hA10 := blk_keep hb1 hA10 rfl
    replace hA11 := blk_keep hb1 hA11 rfl
    replace hV := bel_keep hb1 hV rfl rfl rfl rfl hV.size
    clear hb1
    refine hK.out _ _ ?_ (fun hHeld55 => ?_)
    · exact s14 (hc0.below hV hc0.lt) (hd0.below hV hd0.lt)
    clear hK K hHeld55
    try simp only [Act.put, List.setIfInBounds_toArray, List.set_cons_zero, List.set_cons_succ]
    refine wpAnyH_ready (rs := [3]) (by kernel_rfl) (by simp) ?_
    refine AllReadyH.cons (o := _) (by rw [List.getElem?_toArray]; rfl) (fun K hK => ?_) AllReadyH.nil
    go_simp
    refine (arrowOf_any k2 hk2 G hG _).mono ?_
    rintro e V2 ⟨rfl, hb1⟩
    replace hA10 := blk_keep hb1 hA10 rfl
    replace hA11 := blk_keep hb1 hA11 rfl
    replace hV := bel_keep hb1 hV rfl rfl rfl rfl hV.size
    clear hb1
    refine hK.out _ _ ?_ (fun hHeld56 => ?_)
    · exact s14 (hc0.below hV hc0.lt) (hd0.below hV hd0.lt)
    clear hK K hHeld56
    try simp only [Act.put, List.setIfInBounds_toArray, List.set_cons_zero, List.set_cons_succ]
    refine wpAnyH_ready (rs := [6]) (by kernel_rfl) (by simp) ?_
    refine AllReadyH.cons (o := _) (by rw [List.getElem?_toArray]; rfl) (fun K hK => ?_) AllReadyH.nil
    have hq := b9 hA10
    have q0 := hq.1
    have q1 := hq.2.1
    have q2 := hq.2.2.1
    have q3 := hq.2.2.2.1
    have q4 := hq.2.2.2.2.1
    have q5 := hq.2.2.2.2.2.1
    have q6 := hq.2.2.2.2.2.2.1
    have q7 := hq.2.2.2.2.2.2.2.1
    have q8 := hq.2.2.2.2.2.2.2.2.1
    have f0 := hq.2.2.2.2.2.2.2.2.2.1
    have f1 := hq.2.2.2.2.2.2.2.2.2.2.1
    have f2 := hq.2.2.2.2.2.2.2.2.2.2.2.1
    have f3 := hq.2.2.2.2.2.2.2.2.2.2.2.2.1
    have f4 := hq.2.2.2.2.2.2.2.2.2.2.2.2.2.1
    have f5 := hq.2.2.2.2.2.2.2.2.2.2.2.2.2.2.1
    have f6 := hq.2.2.2.2.2.2.2.2.2.2.2.2.2.2.2.1
    have f7 := hq.2.2.2.2.2.2.2.2.2.2.2.2.2.2.2.2.1
    have f8 := hq.2.2.2.2.2.2.2.2.2.2.2.2.2.2.2.2.2.1
    have hlt := hq.2.2.2.2.2.2.2.2.2.2.2.2.2.2.2.2.2.2
    clear hq
    go_simp
    replace hA11 := blk_far9g hA11 (show a11 ≠ a10 by omega) (.int .i64 (k : Int)) (.int .i64 (T 0)) (.int .i64 (T 1)) (.int .i64 (T 2)) (.int .i64 (T 3)) (.int .i64 (T 4)) (.int .i64 (T 5)) (.int .i64 (domL (mv T k) : Nat)) (.int .i64 (imN k T : Nat))
    replace hA10 := blk_put9g hA10 (.int .i64 (k : Int)) (.int .i64 (T 0)) (.int .i64 (T 1)) (.int .i64 (T 2)) (.int .i64 (T 3)) (.int .i64 (T 4)) (.int .i64 (T 5)) (.int .i64 (domL (mv T k) : Nat)) (.int .i64 (imN k T : Nat))
    replace hV := bel_put9g hV (show V0.heap.size ≤ a10 by omega) (.int .i64 (k : Int)) (.int .i64 (T 0)) (.int .i64 (T 1)) (.int .i64 (T 2)) (.int .i64 (T 3)) (.int .i64 (T 4)) (.int .i64 (T 5)) (.int .i64 (domL (mv T k) : Nat)) (.int .i64 (imN k T : Nat))
    clear q0 q1 q2 q3 q4 q5 q6 q7 q8 f0 f1 f2 f3 f4 f5 f6 f7 f8 hlt
    refine hK.out _ _ ?_ (fun hHeld57 => ?_)
    · exact s14 (hc0.below hV hc0.lt) (hd0.below hV hd0.lt)
    clear hK K hHeld57
    generalize (((((((((V2.setCell ⟨a10, 0, none⟩ (.int .i64 (k : Int))).setCell ⟨a10, 1, none⟩ (.int .i64 (T 0))).setCell ⟨a10, 2, none⟩ (.int .i64 (T 1))).setCell ⟨a10, 3, none⟩ (.int .i64 (T 2))).setCell ⟨a10, 4, none⟩ (.int .i64 (T 3))).setCell ⟨a10, 5, none⟩ (.int .i64 (T 4))).setCell ⟨a10, 6, none⟩ (.int .i64 (T 5))).setCell ⟨a10, 7, none⟩ (.int .i64 (domL (mv T k) : Nat))).setCell ⟨a10, 8, none⟩ (.int .i64 (imN k T : Nat))) = X6 at *
    try simp only [Act.put, List.setIfInBounds_toArray, List.set_cons_zero, List.set_cons_succ]
    refine wpAnyH_ready (rs := [7]) (by kernel_rfl) (by simp) ?_
    refine AllReadyH.cons (o := _) (by rw [List.getElem?_toArray]; rfl) (fun K hK => ?_) AllReadyH.nil
    have hq := b9 hA11
    have q0 := hq.1
    have q1 := hq.2.1
    have q2 := hq.2.2.1
    have q3 := hq.2.2.2.1
    have q4 := hq.2.2.2.2.1
    have q5 := hq.2.2.2.2.2.1
    have q6 := hq.2.2.2.2.2.2.1
    have q7 := hq.2.2.2.2.2.2.2.1
    have q8 := hq.2.2.2.2.2.2.2.2.1
    have f0 := hq.2.2.2.2.2.2.2.2.2.1
    have f1 := hq.2.2.2.2.2.2.2.2.2.2.1
    have f2 := hq.2.2.2.2.2.2.2.2.2.2.2.1
    have f3 := hq.2.2.2.2.2.2.2.2.2.2.2.2.1
    have f4 := hq.2.2.2.2.2.2.2.2.2.2.2.2.2.1
    have f5 := hq.2.2.2.2.2.2.2.2.2.2.2.2.2.2.1
    have f6 := hq.2.2.2.2.2.2.2.2.2.2.2.2.2.2.2.1
    have f7 := hq.2.2.2.2.2.2.2.2.2.2.2.2.2.2.2.2.1
    have f8 := hq.2.2.2.2.2.2.2.2.2.2.2.2.2.2.2.2.2.1
    have hlt := hq.2.2.2.2.2.2.2.2.2.2.2.2.2.2.2.2.2.2
    clear hq
    go_simp
    replace hA10 := blk_far9g hA10 (show a10 ≠ a11 by omega) (.int .i64 (k2 : Int)) (.int .i64 (G 0)) (.int .i64 (G 1)) (.int .i64 (G 2)) (.int .i64 (G 3)) (.int .i64 (G 4)) (.int .i64 (G 5)) (.int .i64 (domL (mv G k2) : Nat)) (.int .i64 (imN k2 G : Nat))
    replace hA11 := blk_put9g hA11 (.int .i64 (k2 : Int)) (.int .i64 (G 0)) (.int .i64 (G 1)) (.int .i64 (G 2)) (.int .i64 (G 3)) (.int .i64 (G 4)) (.int .i64 (G 5)) (.int .i64 (domL (mv G k2) : Nat)) (.int .i64 (imN k2 G : Nat))
    replace hV := bel_put9g hV (show V0.heap.size ≤ a11 by omega) (.int .i64 (k2 : Int)) (.int .i64 (G 0)) (.int .i64 (G 1)) (.int .i64 (G 2)) (.int .i64 (G 3)) (.int .i64 (G 4)) (.int .i64 (G 5)) (.int .i64 (domL (mv G k2) : Nat)) (.int .i64 (imN k2 G : Nat))
    clear q0 q1 q2 q3 q4 q5 q6 q7 q8 f0 f1 f2 f3 f4 f5 f6 f7 f8 hlt
    refine hK.out _ _ ?_ (fun hHeld58 => ?_)
    · exact s14 (hc0.below hV hc0.lt) (hd0.below hV hd0.lt)
    clear hK K hHeld58
    generalize (((((((((X6.setCell ⟨a11, 0, none⟩ (.int .i64 (k2 : Int))).setCell ⟨a11, 1, none⟩ (.int .i64 (G 0))).setCell ⟨a11, 2, none⟩ (.int .i64 (G 1))).setCell ⟨a11, 3, none⟩ (.int .i64 (G 2))).setCell ⟨a11, 4, none⟩ (.int .i64 (G 3))).setCell ⟨a11, 5, none⟩ (.int .i64 (G 4))).setCell ⟨a11, 6, none⟩ (.int .i64 (G 5))).setCell ⟨a11, 7, none⟩ (.int .i64 (domL (mv G k2) : Nat))).setCell ⟨a11, 8, none⟩ (.int .i64 (imN k2 G : Nat))) = X7 at *
    try simp only [Act.put, List.setIfInBounds_toArray, List.set_cons_zero, List.set_cons_succ]
    refine wpAnyH_done (by kernel_rfl) ?_ _
    exact HK.out _ a10 a11 hA10 hA11 hV
  intro W x y hAx hAy hV
  refine aK1 _ _ ?_
  have hownW := own_below hown0 hV
  have hBW := hB0.trans (hV.mono hB0.size)
  have hC1 := containsAr_any (m0 zs) _ k (domL (mv T k) : Nat) (imN k T : Nat) T _ (atLs zs p) hq W hownW
  rw [cont_is HY.out HNO.out] at hC1
  clear hc0 hd0 hown0 hB0 hV aK1
  obtain ⟨a0, a1, a2, a3, a4, a5, a6, a7, a8⟩ := ar9 hAx
  cases hfm : decide (f ∈ atLs zs p)
  · have HR : Hid (giB zs f g p = false) := by show _ = _; rw [HGI.out, hfm]; rfl
    rw [hfm] at hC1
    clear hfm
    go_wp2_with fail
    refine hC1.mono ?_
    rintro e w5 ⟨rfl, hb5⟩
    have hB5 := hBW.trans (hb5.mono hBW.size)
    clear hC1 hb5
    go_wp2
    go_ret
    exact ⟨by rw [HR.out]; rfl, hB5⟩
  · have hfin : f ∈ atLs zs p := of_decide_eq_true hfm
    have HGI2 : Hid (giB zs f g p = (decide (g ∈ atLs zs p) && geB f g (ldN (atLs zs p)))) := by show _ = _; rw [HGI.out, hfm]; rfl
    rw [hfm] at hC1
    clear hfm
    go_wp2_with fail
    refine hC1.mono ?_
    rintro e w5 ⟨rfl, hb5⟩
    have hB5 := hBW.trans (hb5.mono hBW.size)
    have hown5 := own_below hownW hb5
    have hC2 := containsAr_any (m0 zs) _ k2 (domL (mv G k2) : Nat) (imN k2 G : Nat) G _ (atLs zs p) hq w5 hown5
    rw [cont_is HY2.out HNO2.out] at hC2
    replace hAx := hAx.below hb5 hAx.lt
    replace hAy := hAy.below hb5 hAy.lt
    obtain ⟨c0, c1, c2, c3, c4, c5, c6, c7, c8⟩ := ar9 hAy
    clear hC1 hb5 hownW hBW a0 a1 a2 a3 a4 a5 a6 a7 a8
    cases hgm : decide (g ∈ atLs zs p)
    · have HR : Hid (giB zs f g p = false) := by show _ = _; rw [HGI2.out, hgm]; rfl
      rw [hgm] at hC2
      clear hgm
      go_wp2_with fail
      refine hC2.mono ?_
      rintro e w6 ⟨rfl, hb6⟩
      have hB6 := hB5.trans (hb6.mono hB5.size)
      clear hC2 hb6
      go_wp2
      go_ret
      exact ⟨by rw [HR.out]; rfl, hB6⟩
    · have hgin : g ∈ atLs zs p := of_decide_eq_true hgm
      have HGI3 : Hid (giB zs f g p = geB f g (ldN (atLs zs p))) := by show _ = _; rw [HGI2.out, hgm]; rfl
      rw [hgm] at hC2
      obtain ⟨cf, lf⟩ := HLA.out f hfin
      obtain ⟨cg, lg⟩ := HLA.out g hgin
      obtain ⟨ek, eT⟩ := HY.out cf
      obtain ⟨ek2, eG⟩ := HY2.out cg
      obtain rfl : k2 = k := by omega
      have hlo := leastObj_any (m0 zs) w.heap.size (.slice Av (atLs zs p).length cv) (atLs zs p) hq
      have hld := ldN_64 (atLs zs p)
      have HCF : Hid (isC f = true ∧ isC g = true ∧ f.length = g.length ∧ f.length = k2) := ⟨cf, cg, by omega, by omega⟩
      have HTT : Hid (∀ j, j < 6 → T j = ofL f j) := eT
      have HGG : Hid (∀ j, j < 6 → G j = ofL g j) := eG
      clear hgm hfin hgin cf cg lf lg ek ek2 eT eG HY HY2 HNO HNO2 HLA HGI2 HGI
      go_wp2_with fail
      refine hC2.mono ?_
      rintro e w6 ⟨rfl, hb6⟩
      have hB6 := hB5.trans (hb6.mono hB5.size)
      have hlo6 := hlo w6 (own_below hown5 hb6)
      replace hAx := hAx.below hb6 hAx.lt
      replace hAy := hAy.below hb6 hAy.lt
      clear hC2 hb6 hown5 hB5 hlo c0 c1 c2 c3 c4 c5 c6 c7 c8
      generalize ldN (atLs zs p) = ld at *
      go_wp2_with fail
      refine hlo6.mono ?_
      rintro e w7 ⟨rfl, hb7⟩
      have hB7 := hB6.trans (hb7.mono hB6.size)
      replace hAx := hAx.below hb7 hAx.lt
      replace hAy := hAy.below hb7 hAy.lt
      clear hlo6 hb7 hB6
      go_wp2_with fail
      refine wp_region_held_drew (S := (fun w' => w'.cell? ⟨x, 0, none⟩ = some (.int .i64 (k2 : Int)) ∧ w'.cell? ⟨x, 1, none⟩ = some (.int .i64 (T 0)) ∧ w'.cell? ⟨x, 2, none⟩ = some (.int .i64 (T 1)) ∧ w'.cell? ⟨x, 3, none⟩ = some (.int .i64 (T 2)) ∧ w'.cell? ⟨x, 4, none⟩ = some (.int .i64 (T 3)) ∧ w'.cell? ⟨x, 5, none⟩ = some (.int .i64 (T 4)) ∧ w'.cell? ⟨x, 6, none⟩ = some (.int .i64 (T 5)) ∧ w'.cell? ⟨x, 7, none⟩ = some (.int .i64 (domL (mv T k2) : Nat)) ∧ w'.cell? ⟨x, 8, none⟩ = some (.int .i64 (imN k2 T : Nat)) ∧ w'.cell? ⟨y, 0, none⟩ = some (.int .i64 (k2 : Int)) ∧ w'.cell? ⟨y, 1, none⟩ = some (.int .i64 (G 0)) ∧ w'.cell? ⟨y, 2, none⟩ = some (.int .i64 (G 1)) ∧ w'.cell? ⟨y, 3, none⟩ = some (.int .i64 (G 2)) ∧ w'.cell? ⟨y, 4, none⟩ = some (.int .i64 (G 3)) ∧ w'.cell? ⟨y, 5, none⟩ = some (.int .i64 (G 4)) ∧ w'.cell? ⟨y, 6, none⟩ = some (.int .i64 (G 5)) ∧ w'.cell? ⟨y, 7, none⟩ = some (.int .i64 (domL (mv G k2) : Nat)) ∧ w'.cell? ⟨y, 8, none⟩ = some (.int .i64 (imN k2 G : Nat)))) (by kernel_rfl) ?_ (fun hHeld => ?_)
      · exact s18g hAx hAy
      replace hAx := hAx.drew
      replace hAy := hAy.drew
      replace hB7 := hB7.drew
      clear hHeld
      generalize w7.drew = E0 at *
      refine wpAnyH_take (i := 0) (v := .agg #[.int .i64 (k2 : Int), .int .i64 (T 0), .int .i64 (T 1), .int .i64 (T 2), .int .i64 (T 3), .int .i64 (T 4), .int .i64 (T 5), .int .i64 (domL (mv T k2) : Nat), .int .i64 (imN k2 T : Nat)]) (by rw [List.getElem?_toArray]; rfl) (by kernel_rfl) (by kernel_rfl) (by kernel_rfl) (by exact fun _ _ _ h => h) (Or.inl ⟨by rfl, fun w hSw => by (try dsimp only at hSw); go_simp⟩) (s18g hAx hAy) ?_
      try simp only [Act.put, List.setIfInBounds_toArray, List.set_cons_zero, List.set_cons_succ]
      refine wpAnyH_take (i := 1) (v := .int .i64 (ld : Int)) (by rw [List.getElem?_toArray]; rfl) (by kernel_rfl) (by kernel_rfl) (by kernel_rfl) (by exact fun _ _ _ h => h) (Or.inl ⟨by rfl, fun w hSw => by (try dsimp only at hSw); go_simp⟩) (s18g hAx hAy) ?_
      try simp only [Act.put, List.setIfInBounds_toArray, List.set_cons_zero, List.set_cons_succ]
      refine wpAnyH_take (i := 3) (v := .agg #[.int .i64 (k2 : Int), .int .i64 (G 0), .int .i64 (G 1), .int .i64 (G 2), .int .i64 (G 3), .int .i64 (G 4), .int .i64 (G 5), .int .i64 (domL (mv G k2) : Nat), .int .i64 (imN k2 G : Nat)]) (by rw [List.getElem?_toArray]; rfl) (by kernel_rfl) (by kernel_rfl) (by kernel_rfl) (by exact fun _ _ _ h => h) (Or.inl ⟨by rfl, fun w hSw => by (try dsimp only at hSw); go_simp⟩) (s18g hAx hAy) ?_
      try simp only [Act.put, List.setIfInBounds_toArray, List.set_cons_zero, List.set_cons_succ]
      refine wpAnyH_take (i := 4) (v := .int .i64 (ld : Int)) (by rw [List.getElem?_toArray]; rfl) (by kernel_rfl) (by kernel_rfl) (by kernel_rfl) (by exact fun _ _ _ h => h) (Or.inl ⟨by rfl, fun w hSw => by (try dsimp only at hSw); go_simp⟩) (s18g hAx hAy) ?_
      try simp only [Act.put, List.setIfInBounds_toArray, List.set_cons_zero, List.set_cons_succ]
      refine wpAnyH_ready (rs := [2]) (by kernel_rfl) (by simp) ?_
      refine AllReadyH.cons (o := _) (by rw [List.getElem?_toArray]; rfl) (fun K hK => ?_) AllReadyH.nil
      go_simp
      refine (germ_any k2 hk T hT _ _ ld hld _).mono ?_
      rintro e E1 ⟨T', rfl, HTd, hb1⟩
      replace hAx := blk_keep hb1 hAx rfl
      replace hAy := blk_keep hb1 hAy rfl
      replace hB7 := bel_keep hb1 hB7 rfl rfl rfl rfl hB7.size
      clear hb1
      refine hK.out _ _ ?_ (fun hHeldE1 => ?_)
      · exact s18g hAx hAy
      clear hK K hHeldE1
      try simp only [Act.put, List.setIfInBounds_toArray, List.set_cons_zero, List.set_cons_succ]
      refine wpAnyH_ready (rs := [5]) (by kernel_rfl) (by simp) ?_
      refine AllReadyH.cons (o := _) (by rw [List.getElem?_toArray]; rfl) (fun K hK => ?_) AllReadyH.nil
      go_simp
      refine (germ_any k2 hk G hG _ _ ld hld _).mono ?_
      rintro e E2 ⟨G', rfl, HGd, hb1⟩
      replace hAx := blk_keep hb1 hAx rfl
      replace hAy := blk_keep hb1 hAy rfl
      replace hB7 := bel_keep hb1 hB7 rfl rfl rfl rfl hB7.size
      clear hb1
      refine hK.out _ _ ?_ (fun hHeldE2 => ?_)
      · exact s18g hAx hAy
      clear hK K hHeldE2
      try simp only [Act.put, List.setIfInBounds_toArray, List.set_cons_zero, List.set_cons_succ]
      have habe := ge_is HCF.out.1 HCF.out.2.1 HCF.out.2.2.1 (cut_at HCF.out.1 HTT.out (ld := ld) (T' := T') (by rw [HCF.out.2.2.2]; exact HTd.out)) (cut_at HCF.out.2.1 HGG.out (ld := ld) (T' := G') (by rw [← HCF.out.2.2.1, HCF.out.2.2.2]; exact HGd.out))
      obtain ⟨ab, hab⟩ : ∃ ab : Bool, (T' 0 == G' 0 && (T' 1 == G' 1 && (T' 2 == G' 2 && (T' 3 == G' 3 && (T' 4 == G' 4 && T' 5 == G' 5))))) = ab := ⟨_, rfl⟩
      have harr : ∀ W, (Op.equalIn 9999 59 (.agg #[.int .i64 (T' 0), .int .i64 (T' 1), .int .i64 (T' 2), .int .i64 (T' 3), .int .i64 (T' 4), .int .i64 (T' 5)]) (.agg #[.int .i64 (G' 0), .int .i64 (G' 1), .int .i64 (G' 2), .int .i64 (G' 3), .int .i64 (G' 4), .int .i64 (G' 5)])).run Tryz.prog W = .ok ab W := fun W => by rw [← hab]; exact arr_eq _ _ _ _ _ _ _ _ _ _ _ _ W
      rw [hab] at habe
      have HAB := Lib.hid habe
      clear hab habe
      refine wpAnyH_take (i := 6) (v := .bool ab) (by rw [List.getElem?_toArray]; rfl) (by kernel_rfl) (by kernel_rfl) (by kernel_rfl) (by exact fun _ _ _ h => h) (Or.inl ⟨by rfl, fun w hSw => by (try dsimp only at hSw); (go_simp <;> (cases ab <;> simp))⟩) (s18g hAx hAy) ?_
      try simp only [Act.put, List.setIfInBounds_toArray, List.set_cons_zero, List.set_cons_succ]
      refine wpAnyH_take (i := 7) (v := .bool ab) (by rw [List.getElem?_toArray]; rfl) (by kernel_rfl) (by kernel_rfl) (by kernel_rfl) (by exact fun _ _ _ h => h) (Or.inl ⟨by rfl, fun w hSw => by (try dsimp only at hSw); go_simp⟩) (s18g hAx hAy) ?_
      try simp only [Act.put, List.setIfInBounds_toArray, List.set_cons_zero, List.set_cons_succ]
      refine wpAnyH_done (by kernel_rfl) ?_ _
      clear harr hAx hAy
      go_wp2
      go_ret
      exact ⟨by rw [HGI3.out, ← HAB.out]; rfl, hB7⟩
end

/-! two germs are the same: mathematics (giB = gsB). -/
section
open Go.RowKit Go.Maps

theorem fold_bit (j : Nat) : ∀ (Ls : List (List Int)) (m : Nat), (Ls.foldl (fun m L => m &&& doN L) m).testBit j = (m.testBit j && Ls.all (fun L => (doN L).testBit j))
  | [], m => by simp
  | L :: Ls, m => by rw [List.foldl_cons, fold_bit j Ls, Nat.testBit_and, List.all_cons, Bool.and_assoc]
theorem ld_bit {j : Nat} (hj : j < 6) (Ls : List (List Int)) : (ldN Ls).testBit j = Ls.all (fun L => (doN L).testBit j) := by
  unfold ldN
  rw [fold_bit]
  have : (63 : Nat).testBit j = true := by
    rcases (show j = 0 ∨ j = 1 ∨ j = 2 ∨ j = 3 ∨ j = 4 ∨ j = 5 by omega) with rfl | rfl | rfl | rfl | rfl | rfl <;> decide
  rw [this, Bool.true_and]
theorem idem_at3 {f : List Int} (h : isC f = true) : doN (tiL f (tuL f)) = doN f ∧ idB (tiL f (tuL f)) = true := by
  obtain ⟨h1, _, h3⟩ := domain_law h
  obtain ⟨_, h5, h6⟩ := set_law h1
  rw [h3]
  exact ⟨by omega, h6⟩
theorem idem_on {e f : List Int} (h : isP e f = true) (he : idB e = true) {j : Nat} (hj : j < e.length) : ofL (tiL e f) j = if (doN e).testBit j = true then ofL f j else -1 := by
  obtain ⟨ce, cf, hl⟩ := isP_yes h
  rw [tiL_get h hj, doN_bit ce]
  unfold cmp
  rcases (idB_iff ce).1 he j hj with e1 | e1
  · rw [e1, if_neg (by omega), if_neg (by simp)]
  · rw [e1, if_pos (by omega), if_pos (by simp [hj])]; rfl
theorem two_idem {e f : List Int} (h : isP e f = true) (he : idB e = true) (hf : idB f = true) : idB (tiL e f) = true ∧ ∀ j, (doN (tiL e f)).testBit j = ((doN e).testBit j && (doN f).testBit j) := by
  obtain ⟨ce, cf, hl⟩ := isP_yes h
  have ct := tiL_isC h
  have lt := tiL_len h
  constructor
  · refine (idB_iff ct).2 (fun j hj => ?_)
    rw [idem_on h he (by omega)]
    split
    · exact (idB_iff cf).1 hf j (by omega)
    · exact .inl rfl
  · intro j
    rw [doN_bit ct]
    by_cases hj : j < e.length
    · rw [idem_on h he hj, decide_eq_true (show j < (tiL e f).length by omega), Bool.true_and, doN_bit cf, decide_eq_true (show j < f.length by omega), Bool.true_and]
      by_cases hb : (doN e).testBit j = true
      · rw [if_pos hb, hb, Bool.true_and]
      · rw [if_neg hb, Bool.eq_false_iff.2 hb, Bool.false_and]; rfl
    · rw [doN_bit ce, decide_eq_false (show ¬ j < (tiL e f).length by omega), decide_eq_false hj]; rfl
theorem obj_and {zs : List (List Int)} (S : Sg zs) : ∀ (Ls : List (List Int)), (∀ L ∈ Ls, L ∈ zs) → ∀ E0 ∈ zs, idB E0 = true → ∃ E ∈ zs, idB E = true ∧ ∀ j, (doN E).testBit j = ((doN E0).testBit j && Ls.all (fun L => (doN L).testBit j))
  | [], _, E0, h0, hi => ⟨E0, h0, hi, fun j => by simp⟩
  | L :: Ls, hL, E0, h0, hi => by
    have hz := hL L (List.mem_cons_self ..)
    have cL := S.ch L hz
    obtain ⟨i1, i2⟩ := idem_at3 cL.1
    have hI := S.ti L hz _ (S.tu L hz)
    have cI := S.ch _ hI
    have c0 := S.ch E0 h0
    obtain ⟨t1, t2⟩ := two_idem (isP_of c0.1 cI.1 (c0.2.trans cI.2.symm)) hi i2
    obtain ⟨E, e1, e2, e3⟩ := obj_and S Ls (fun M hM => hL M (List.mem_cons_of_mem _ hM)) _ (S.ti E0 h0 _ hI) t1
    exact ⟨E, e1, e2, fun j => by rw [e3, t2, i1, List.all_cons, Bool.and_assoc]⟩
theorem at_mv {zs : List (List Int)} {f : List Int} {p : Int} : f ∈ atLs zs p ↔ sgS zs = true ∧ mvD zs f p = true := by
  constructor
  · intro h
    obtain ⟨hS, h0, hp, hz, hm⟩ := atLs_mem h
    have c := (sgS_iff.1 hS).ch f hz
    have hl : f.length = m0 zs := c.2
    refine ⟨hS, ?_⟩
    unfold mvB at hm
    rw [doN_bit c.1, Bool.and_eq_true, decide_eq_true_eq, decide_eq_true_eq] at hm
    unfold mvD
    rw [Bool.and_eq_true, Bool.and_eq_true, decide_eq_true_eq, decide_eq_true_eq]
    refine ⟨hz, ?_, ?_⟩
    · unfold inB; exact decide_eq_true ⟨h0, by omega⟩
    · rcases plc_ent c.1 hm.1 with e | ⟨q, _, e⟩
      · exact absurd e hm.2
      · omega
  · rintro ⟨hS, h⟩
    unfold mvD at h
    rw [Bool.and_eq_true, Bool.and_eq_true, decide_eq_true_eq, decide_eq_true_eq] at h
    obtain ⟨hz, hb, h0⟩ := h
    have c := (sgS_iff.1 hS).ch f hz
    have hl : f.length = m0 zs := c.2
    have hpb : 0 ≤ p ∧ p ≤ (f.length : Int) - 1 := by unfold inB at hb; exact of_decide_eq_true hb
    have hok : atOK zs p = true := atOK_iff.2 ⟨hS, hpb.1, by omega⟩
    unfold atLs
    rw [if_pos hok]
    refine List.mem_filter.2 ⟨hz, ?_⟩
    unfold mvB
    rw [doN_bit c.1, Bool.and_eq_true, decide_eq_true_eq, decide_eq_true_eq]
    exact ⟨by omega, by omega⟩
theorem ge_gm {zs : List (List Int)} {f g : List Int} {p : Int} (hf : f ∈ atLs zs p) (hg : g ∈ atLs zs p) : geB f g (ldN (atLs zs p)) = gmB zs f g p.toNat := by
  obtain ⟨hS, h0, hp, hfz, _⟩ := atLs_mem hf
  obtain ⟨_, _, _, hgz, _⟩ := atLs_mem hg
  have S := sgS_iff.1 hS
  have cf := S.ch f hfz
  have cg := S.ch g hgz
  have lf : f.length = m0 zs := cf.2
  have lg : g.length = m0 zs := cg.2
  have h6 := (isC_len cf.1).2
  have hLz : ∀ L ∈ atLs zs p, L ∈ zs ∧ mvB p L = true := fun L h => by obtain ⟨_, _, _, a, b⟩ := atLs_mem h; exact ⟨a, b⟩
  have hbit : ∀ j, j < 6 → (ldN (atLs zs p)).testBit j = (atLs zs p).all (fun L => (doN L).testBit j) := fun j hj => ld_bit hj _
  rw [Bool.eq_iff_iff]
  unfold geB gmB
  rw [decide_eq_true_eq, List.any_eq_true]
  constructor
  · intro h
    obtain ⟨i1, i2⟩ := idem_at3 cf.1
    obtain ⟨E, e1, e2, e3⟩ := obj_and S (atLs zs p) (fun L hL => (hLz L hL).1) _ (S.ti f hfz _ (S.tu f hfz)) i2
    have cE := S.ch E e1
    have lE : E.length = m0 zs := cE.2
    have hEf := isP_of cE.1 cf.1 (cE.2.trans cf.2.symm)
    have hEb : ∀ j, j < 6 → (doN E).testBit j = (ldN (atLs zs p)).testBit j := fun j hj => by
      rw [e3, i1, hbit j hj]
      cases ha : (atLs zs p).all (fun L => (doN L).testBit j)
      · rw [Bool.and_false]
      · rw [Bool.and_true]; exact List.all_eq_true.1 ha f hf
    have ct := tiL_isC hEf
    have lt := tiL_len hEf
    have hpE : (doN E).testBit p.toNat = true := by
      rw [hEb _ (by omega), hbit _ (by omega), List.all_eq_true]
      exact fun L hL => (hLz L hL).2
    refine ⟨tiL E f, S.ti E e1 f hfz, ?_⟩
    unfold gmP
    rw [Bool.and_eq_true, Bool.and_eq_true, decide_eq_true_eq]
    refine ⟨?_, (beB_iff (isP_of ct cf.1 (by omega))).2 (fun j hj => ?_), (beB_iff (isP_of ct cg.1 (by omega))).2 (fun j hj => ?_)⟩
    · rw [idem_on hEf e2 (by omega), if_pos hpE]
      have := (at_mv.1 hf).2
      unfold mvD at this
      rw [Bool.and_eq_true, Bool.and_eq_true, decide_eq_true_eq, decide_eq_true_eq] at this
      exact this.2.2
    · rw [idem_on hEf e2 (by omega)]
      split
      · exact .inr rfl
      · exact .inl rfl
    · rw [idem_on hEf e2 (by omega)]
      split
      · rename_i hb
        exact .inr (h j (by omega) (by rw [← hEb j (by omega)]; exact hb))
      · exact .inl rfl
  · rintro ⟨L, hL, hm⟩ j hj hb
    unfold gmP at hm
    rw [Bool.and_eq_true, Bool.and_eq_true, decide_eq_true_eq] at hm
    obtain ⟨hp0, b1, b2⟩ := hm
    have cL := S.ch L hL
    have lL : L.length = m0 zs := cL.2
    have hLa : L ∈ atLs zs p := at_mv.2 ⟨hS, by
      unfold mvD
      rw [Bool.and_eq_true, Bool.and_eq_true, decide_eq_true_eq, decide_eq_true_eq]
      exact ⟨hL, by unfold inB; exact decide_eq_true ⟨h0, by omega⟩, hp0⟩⟩
    rw [hbit j (by omega)] at hb
    have hj1 := List.all_eq_true.1 hb L hLa
    rw [doN_bit cL.1, Bool.and_eq_true, decide_eq_true_eq, decide_eq_true_eq] at hj1
    rcases (beB_iff (beB_isP b1)).1 b1 j (by omega) with e | e
    · exact absurd e hj1.2
    · rcases (beB_iff (beB_isP b2)).1 b2 j (by omega) with e' | e'
      · exact absurd e' hj1.2
      · rw [← e, ← e']
theorem gi_gs (zs : List (List Int)) (f g : List Int) (p : Int) : giB zs f g p = gsB zs f g p := by
  unfold giB gsB
  by_cases hf : f ∈ atLs zs p
  · obtain ⟨hS, mf⟩ := at_mv.1 hf
    rw [decide_eq_true hf, hS, mf, Bool.true_and, Bool.true_and, Bool.true_and]
    by_cases hg : g ∈ atLs zs p
    · rw [decide_eq_true hg, (at_mv.1 hg).2, Bool.true_and, Bool.true_and, ge_gm hf hg]
    · have : mvD zs g p = false := by
        cases e : mvD zs g p
        · rfl
        · exact absurd (at_mv.2 ⟨hS, e⟩) hg
      rw [decide_eq_false hg, this, Bool.false_and, Bool.false_and]
  · rw [decide_eq_false hf, Bool.false_and]
    cases hS : sgS zs
    · rfl
    · have : mvD zs f p = false := by
        cases e : mvD zs f p
        · rfl
        · exact absurd (at_mv.2 ⟨hS, e⟩) hf
      rw [this]; rfl
theorem implGs_any (A B C : Option Addr) (n c m d m' d' : Nat) (zs : List (List Int)) (f g : List Int) (p : Int) (w : World) (h : RSS w A n zs) (hf : RI w B m f) (hg : RI w C m' g) (he : EtAt w) :
    Calls Tryz.prog 14 #[.slice A n c, .slice B m d, .slice C m' d', .int .i64 p] w fun e w' => e = .returned (.bool (gsB zs f g p)) ∧ Below w.heap.size w w' := by
  rw [← gi_gs]; exact implGsame_any A B C n c m d m' d' zs f g p w h hf hg he
end

/-! draws for GermSame: a semigroup and two charts. -/
section
open Go.RowKit Go.Maps

theorem row_apart {w : World} {R q n : Nat} {A : Option Addr} {zs : List (List Int)} (h : Rd w R q) (hK : ∀ W', w.grownBy W' (some R) → RSS W' A n zs) (hn : 0 < n) : ∃ ad, A = some ad ∧ ad.block ≠ R := by
  obtain ⟨_, _, _, _, hb, _⟩ := h
  have hg : w.grownBy { w with heap := w.heap.setIfInBounds R (.map #[] 0) } (some R) := ⟨rfl, rfl, rfl, by simp, fun i _ hi => Array.getElem?_setIfInBounds_ne (fun e => hi (by rw [e]))⟩
  obtain ⟨ad, Ay, cy, e, _, hc, _⟩ := (hK _ hg).at_ (k := 0) hn
  refine ⟨ad, e, fun hR => ?_⟩
  have hs : (w.heap.setIfInBounds R (.map #[] 0))[R]? = some (.map #[] 0) := Array.getElem?_setIfInBounds_self_of_lt (by
    rcases Nat.lt_or_ge R w.heap.size with h | h
    · exact h
    · rw [Array.getElem?_eq_none h] at hb; cases hb)
  unfold World.cell? at hc
  rw [block_of_add, hR, hs] at hc
  simp at hc
theorem row_keepR {w : World} {R q n : Nat} {A : Option Addr} {zs : List (List Int)} (h : Rd w R q) (hK : ∀ W', w.grownBy W' (some R) → RSS W' A n zs) {y : Nat} (hy : y < n) :
    ∃ (ad : Addr) (Ay : Option Addr) (cy : Nat), A = some ad ∧ w.cell? (ad.add y) = some (.slice Ay (zs[y]?.getD []).length cy) ∧ ∀ W', w.grownBy W' (some R) → RI W' Ay (zs[y]?.getD []).length (zs[y]?.getD []) := by
  obtain ⟨ad, rfl, hne⟩ := row_apart h hK (by omega)
  obtain ⟨ad', Ay, cy, e, hbl, hc, _⟩ := (hK _ (gb_refl _ _)).at_ hy
  obtain rfl := Option.some.inj e
  refine ⟨ad, Ay, cy, rfl, hc, fun W' hg => ?_⟩
  obtain ⟨ad', Ay', cy', e', _, hc', hr⟩ := (hK _ hg).at_ hy
  obtain rfl := Option.some.inj e'
  have he : W'.cell? (ad.add y) = w.cell? (ad.add y) := by
    unfold World.cell?
    rw [block_of_add, hg.block ad.block hbl (fun e => hne (Option.some.inj e))]
  rw [he, hc] at hc'
  injection hc' with hc'
  injection hc' with hA _ _
  rw [hA]; exact hr
def WthK (w : World) (R : Nat) (e : Ending) (w' : World) : Prop := ∃ (A B : Option Addr) (n c m d : Nat) (zs : List (List Int)) (f : List Int) (q : Nat), e = .returned (.tuple #[.slice A n c, .slice B m d]) ∧ (∀ W', w'.grownBy W' (some R) → RSS W' A n zs) ∧ (∀ W', w'.grownBy W' (some R) → RI W' B m f) ∧ n ≤ 400 ∧ n ≤ c ∧ (∀ L ∈ zs, L.length ≤ 7) ∧ f.length ≤ 7 ∧ Rd w' R q ∧ q ≤ 100 ∧ Below w.heap.size w w'
set_option maxHeartbeats 1000000 in
theorem l91WithK_any (R : Nat) (w w0 : World) (h : Rd w R 0) (hB : Below w0.heap.size w0 w) (hRl : w0.heap.size ≤ R) :
    Calls Tryz.prog 44 #[.pointer (some ⟨R, 0, none⟩)] w (WthK w0 R) := by
  go_enter Tryz.func44, Tryz.ntmps44
  go_wp2_with fail
  refine (l91Semi_any R 0 w h (by omega)).mono ?_
  rintro e w1 ⟨A, n, c, zs, p1, rfl, hK, h4, hnc, h7, hg1, hRd1, hp1⟩
  have HK := Lib.hid hK
  clear h hK
  have last : ∀ (q : Nat) (wq : World), Rd wq R q → q ≤ 60 → w1.grownBy wq (some R) → ∀ z : Nat, z < 4 → Calls Tryz.prog 86 #[.pointer (some ⟨R, 0, none⟩), .int .i64 (1 + (z : Int))] wq fun e w' => ∃ (B : Option Addr) (m d : Nat) (f : List Int), e = .returned (.slice B m d) ∧ (∀ W', w'.grownBy W' (some R) → RI W' B m f) ∧ f.length ≤ 7 ∧ w1.grownBy w' (some R) ∧ Rd w' R (q + (1 + z) + 1) := by
    intro q wq hR hq hg z hz
    have hc := l91Chart_any R q (1 + z) wq hR (by omega) (by omega) (by omega)
    rw [show ((1 + z : Nat) : Int) = 1 + (z : Int) from by omega] at hc
    refine hc.mono ?_
    rintro e w' ⟨v, rfl, L, hL, o, hg', hRd'⟩
    obtain ⟨B, d, rfl⟩ := own_slice o
    exact ⟨B, _, d, L, rfl, fun W' hg2 => RI.of_own (own_rd o hg2 (Nat.lt_of_lt_of_le hR.lt (Nat.le_refl _))), hL, gb_trans hg hg', hRd'⟩
  have LAST := Lib.hid last
  clear last
  by_cases hn0 : 0 < n
  · have hd : decide ((0 : Int) < (n : Int)) = true := decide_eq_true (by omega)
    go_wp2_with fail
    refine (pick_any R p1 12 _ hRd1 (by omega) (by omega) (by omega)).mono ?_
    rintro e w2 ⟨z, rfl, hz, hRd2, hg2⟩
    by_cases hz0 : 0 < z
    · have hd0 : decide ((0 : Int) < (z : Int)) = true := decide_eq_true (by omega)
      obtain ⟨ad, rfl⟩ : ∃ ad, A = some ad := by
        obtain ⟨ad, _, _, e, _⟩ := (HK.out _ (gb_refl _ _)).at_ (k := 0) hn0
        exact ⟨ad, e⟩
      go_wp2_with fail
      refine wp_region_held_drew (S := fun _ => True) (by kernel_rfl) ?_ (fun hHeld => ?_)
      · trivial
      refine wpAnyH_take (i := 0) (v := .slice (some ad) n c) (by rw [List.getElem?_toArray]; rfl) (by kernel_rfl) (by kernel_rfl) (by kernel_rfl) (by exact fun _ _ _ h => h) (Or.inl ⟨by rfl, fun w hSw => by (try dsimp only at hSw); go_simp⟩) (by assumption) ?_
      try simp only [Act.put, List.setIfInBounds_toArray, List.set_cons_zero, List.set_cons_succ]
      refine wpAnyH_take (i := 1) (v := .slice (some ad) n c) (by rw [List.getElem?_toArray]; rfl) (by kernel_rfl) (by kernel_rfl) (by kernel_rfl) (by exact fun _ _ _ h => h) (Or.inl ⟨by rfl, fun w hSw => by (try dsimp only at hSw); go_simp⟩) (by assumption) ?_
      try simp only [Act.put, List.setIfInBounds_toArray, List.set_cons_zero, List.set_cons_succ]
      refine wpAnyH_take (i := 2) (v := .pointer (some ⟨R, 0, none⟩)) (by rw [List.getElem?_toArray]; rfl) (by kernel_rfl) (by kernel_rfl) (by kernel_rfl) (by exact fun _ _ _ h => h) (Or.inl ⟨by rfl, fun w hSw => by (try dsimp only at hSw); go_simp⟩) (by assumption) ?_
      try simp only [Act.put, List.setIfInBounds_toArray, List.set_cons_zero, List.set_cons_succ]
      refine wpAnyH_take (i := 3) (v := .slice (some ad) n c) (by rw [List.getElem?_toArray]; rfl) (by kernel_rfl) (by kernel_rfl) (by kernel_rfl) (by exact fun _ _ _ h => h) (Or.inl ⟨by rfl, fun w hSw => by (try dsimp only at hSw); go_simp⟩) (by assumption) ?_
      try simp only [Act.put, List.setIfInBounds_toArray, List.set_cons_zero, List.set_cons_succ]
      refine wpAnyH_take (i := 4) (v := .int .i64 (n : Int)) (by rw [List.getElem?_toArray]; rfl) (by kernel_rfl) (by kernel_rfl) (by kernel_rfl) (by exact fun _ _ _ h => h) (Or.inl ⟨by rfl, fun w hSw => by (try dsimp only at hSw); go_simp⟩) (by assumption) ?_
      try simp only [Act.put, List.setIfInBounds_toArray, List.set_cons_zero, List.set_cons_succ]
      refine wpAnyH_ready (rs := [5]) (by kernel_rfl) (by simp) ?_
      refine AllReadyH.cons (o := _) (by rw [List.getElem?_toArray]; rfl) (fun K hK => ?_) AllReadyH.nil
      go_simp
      go_at_call 45
      refine (pick_any R (p1 + 1) n _ (show Rd w2.drew R (p1 + 1) from hRd2) (by omega) (by omega) (by omega)).mono ?_
      rintro e w3 ⟨y, rfl, hy, hRd3, hg3'⟩
      have hg3 : w2.grownBy w3 (some R) := ⟨hg3'.os, hg3'.tape, hg3'.output, hg3'.size, hg3'.block⟩
      have hg13 := gb_trans hg2 hg3
      have hR3 := HK.out _ hg13
      obtain ⟨ad', Ay, cy, he, hcy, hry⟩ := row_keepR hRd3 (fun W' hg => HK.out _ (gb_trans hg13 hg)) hy
      obtain rfl := Option.some.inj he
      have hly : (zs[y]?.getD []).length ≤ 7 := get_len zs (k := y) h7
      have hyn : (y : Int) < (n : Int) := by omega
      have HR3 := Lib.hid hR3
      have HRY := Lib.hid hry
      clear hR3 hry he
      generalize zs[y]?.getD [] = L at *
      refine hK.out _ _ ?_ (fun hHeld5 => ?_)
      · trivial
      clear hK K
      try simp only [Act.put, List.setIfInBounds_toArray, List.set_cons_zero, List.set_cons_succ]
      refine wpAnyH_take (i := 6) (v := .pointer (some (ad.add y))) (by rw [List.getElem?_toArray]; rfl) (by kernel_rfl) (by kernel_rfl) (by kernel_rfl) (by exact fun _ _ _ h => h) (Or.inl ⟨by rfl, fun w hSw => by (try dsimp only at hSw); go_simp⟩) (by assumption) ?_
      try simp only [Act.put, List.setIfInBounds_toArray, List.set_cons_zero, List.set_cons_succ]
      refine wpAnyH_take (i := 8) (v := .slice (some ad) n c) (by rw [List.getElem?_toArray]; rfl) (by kernel_rfl) (by kernel_rfl) (by kernel_rfl) (by exact fun _ _ _ h => h) (Or.inl ⟨by rfl, fun w hSw => by (try dsimp only at hSw); go_simp⟩) (by assumption) ?_
      try simp only [Act.put, List.setIfInBounds_toArray, List.set_cons_zero, List.set_cons_succ]
      refine wpAnyH_ready (rs := [7]) (by kernel_rfl) (by simp) ?_
      refine AllReadyH.cons (o := _) (by rw [List.getElem?_toArray]; rfl) (fun K hK => ?_) AllReadyH.nil
      go_simp
      refine hK.out _ _ ?_ (fun hHeld7 => ?_)
      · trivial
      clear hK K
      try simp only [Act.put, List.setIfInBounds_toArray, List.set_cons_zero, List.set_cons_succ]
      refine wpAnyH_take (i := 9) (v := .slice Ay L.length cy) (by rw [List.getElem?_toArray]; rfl) (by kernel_rfl) (by kernel_rfl) (by kernel_rfl) (by exact fun _ _ _ h => h) (Or.inl ⟨by rfl, fun w hSw => by (try dsimp only at hSw); go_simp⟩) (by assumption) ?_
      try simp only [Act.put, List.setIfInBounds_toArray, List.set_cons_zero, List.set_cons_succ]
      refine wpAnyH_done (by kernel_rfl) ?_ _
      have hBF := below_gb (below_gb hB (Nat.le_refl _) hg1 hRl) (Nat.le_refl _) hg13 hRl
      have HRK : Hid (∀ W', w3.grownBy W' (some R) → RSS W' (some ad) n zs) := fun W' hg => HK.out _ (gb_trans hg13 hg)
      clear hg1 hg2 hg3 hg3' hRd1 hRd2 HR3
      go_wp2
      go_ret2
      exact ⟨_, _, n, c, _, _, zs, L, _, rfl, HRK.out, HRY.out, h4, hnc, h7, hly, hRd3, by omega, hBF⟩
    · have hd0 : decide ((0 : Int) < (z : Int)) = false := decide_eq_false (by omega)
      go_wp2_with fail
      refine (pick_any R (p1 + 1) 4 _ hRd2 (by omega) (by omega) (by omega)).mono ?_
      rintro e w3 ⟨y, rfl, hy, hRd3, hg3⟩
      have hg13 := gb_trans hg2 hg3
      clear hg2 hg3 hRd1 hRd2
      go_wp2_with fail
      refine (LAST.out _ _ hRd3 (by omega) hg13 y hy).mono ?_
      rintro e w4 ⟨B, m, d, f, rfl, hrf, hf7, hg4, hRd4⟩
      have hBF := below_gb (below_gb hB (Nat.le_refl _) hg1 hRl) (Nat.le_refl _) hg4 hRl
      have HR4 : Hid (∀ W', w4.grownBy W' (some R) → RSS W' A n zs) := fun W' hg => HK.out _ (gb_trans hg4 hg)
      have HRF := Lib.hid hrf
      clear hrf hg1 hg4 hg13 hRd3
      go_wp2
      go_ret2
      exact ⟨_, _, n, c, _, _, zs, f, _, rfl, HR4.out, HRF.out, h4, hnc, h7, hf7, hRd4, by omega, hBF⟩
  · have hd : decide ((0 : Int) < (n : Int)) = false := decide_eq_false (by omega)
    go_wp2_with fail
    refine (pick_any R p1 4 _ hRd1 (by omega) (by omega) (by omega)).mono ?_
    rintro e w3 ⟨y, rfl, hy, hRd3, hg3⟩
    clear hRd1
    go_wp2_with fail
    refine (LAST.out _ _ hRd3 (by omega) hg3 y hy).mono ?_
    rintro e w4 ⟨B, m, d, f, rfl, hrf, hf7, hg4, hRd4⟩
    have hBF := below_gb (below_gb hB (Nat.le_refl _) hg1 hRl) (Nat.le_refl _) hg4 hRl
    have HR4 : Hid (∀ W', w4.grownBy W' (some R) → RSS W' A n zs) := fun W' hg => HK.out _ (gb_trans hg4 hg)
    have HRF := Lib.hid hrf
    clear hrf hg1 hg4 hg3 hRd3
    go_wp2
    go_ret2
    exact ⟨_, _, n, c, _, _, zs, f, _, rfl, HR4.out, HRF.out, h4, hnc, h7, hf7, hRd4, by omega, hBF⟩
theorem res_four {fn : Func} {t u v x : Tmp} (h : fn.results = #[.tmp t, .tmp u, .tmp v, .tmp x]) (tmps : Array Value) (P : Program) (w : World) :
    (results fn tmps).run P w = .ok (.tuple #[tmps.getD t undef, tmps.getD u undef, tmps.getD v undef, tmps.getD x undef]) w := by
  simp [results, h]
def DrwGs (w : World) (e : Ending) (w' : World) : Prop := ∃ (A B C : Option Addr) (n c m d m2 d2 : Nat) (zs : List (List Int)) (f g : List Int) (p : Nat), e = .returned (.tuple #[.slice A n c, .slice B m d, .slice C m2 d2, .int .i64 (p : Int)]) ∧ RSS w' A n zs ∧ RI w' B m f ∧ RI w' C m2 g ∧ n ≤ 400 ∧ n ≤ c ∧ (∀ L ∈ zs, L.length ≤ 7) ∧ Below w.heap.size w w'
set_option maxHeartbeats 1000000 in
theorem drawGs_any (A : Option Addr) (n c : Nat) (bs : Nat → Nat) (w : World) (h : Src w w.heap.size A n bs) (hnc : n ≤ c) (hn : n ≤ 1048576) :
    Calls Tryz.prog 13 #[.slice A n c] w (DrwGs w) := by
  go_enter Tryz.func13, Tryz.ntmps13
  go_wp2_with fail
  refine (open_any _ _ _ _ _ h hnc hn).mono ?_
  rintro e w0 ⟨R, rfl, hRl, hRs, hRd, hB⟩
  clear h
  go_wp2_with fail
  refine (l91WithK_any R w0 w hRd hB hRl).mono ?_
  rintro e w1 ⟨A, B, n, c, m, d, zs, f, q, rfl, hK, hf, h4, hnc, h7, hf7, hRd1, hq, hB1⟩
  have HK := Lib.hid hK
  have HF := Lib.hid hf
  clear hB hRd hK hf
  by_cases hn0 : 0 < n
  · have hd : decide ((0 : Int) < (n : Int)) = true := decide_eq_true (by omega)
    go_wp2_with fail
    refine (pick_any R q 3 _ hRd1 (by omega) (by omega) (by omega)).mono ?_
    rintro e w2 ⟨z, rfl, hz, hRd2, hg2⟩
    by_cases hz0 : 0 < z
    · have hd0 : decide ((0 : Int) < (z : Int)) = true := decide_eq_true (by omega)
      go_wp2_with fail
      refine (pick_any R (q + 1) n _ hRd2 (by omega) (by omega) (by omega)).mono ?_
      rintro e w3 ⟨y, rfl, hy, hRd3, hg3⟩
      have hg13 := gb_trans hg2 hg3
      obtain ⟨ad, Ay, cy, rfl, hcy, hry⟩ := row_keepR hRd3 (fun W' hg => HK.out _ (gb_trans hg13 hg)) hy
      have hyn : (y : Int) < (n : Int) := by omega
      have HRY := Lib.hid hry
      have hB3 := below_gb hB1 (Nat.le_refl _) hg13 hRl
      have HG := Lib.hid hg13
      clear hRd1 hRd2 hg2 hg3 hg13 hry hd hd0 hz0
      generalize zs[y]?.getD [] = g at *
      go_wp2_with fail
      refine (pick_any R (q + 1 + 1) 4 _ hRd3 (by omega) (by omega) (by omega)).mono ?_
      rintro e w4 ⟨p, rfl, hp, hRd4, hg4⟩
      have hB4 := below_gb hB3 (Nat.le_refl _) hg4 hRl
      have hR4 := HK.out _ (gb_trans HG.out hg4)
      have hF4 := HF.out _ (gb_trans HG.out hg4)
      have hG4 := HRY.out _ hg4
      clear hRd3 hRd4 hg4 hcy hB3
      go_wp2
      (try simp only [Exit.inBlock, Exit.then])
      refine bodyPost_ret (res_four rfl _ _ _) rfl ?_
      exact ⟨_, _, _, n, c, _, _, _, _, zs, f, g, p, rfl, hR4, hF4, hG4, h4, hnc, h7, hB4⟩
    · have hd0 : decide ((0 : Int) < (z : Int)) = false := decide_eq_false (by omega)
      go_wp2_with fail
      refine (pick_any R (q + 1) 4 _ hRd2 (by omega) (by omega) (by omega)).mono ?_
      rintro e w4 ⟨p, rfl, hp, hRd4, hg4⟩
      have hg14 := gb_trans hg2 hg4
      have hB4 := below_gb hB1 (Nat.le_refl _) hg14 hRl
      have hR4 := HK.out _ hg14
      have hF4 := HF.out _ hg14
      clear hRd1 hRd2 hRd4 hg4 hg2 hg14
      go_wp2
      (try simp only [Exit.inBlock, Exit.then])
      refine bodyPost_ret (res_four rfl _ _ _) rfl ?_
      exact ⟨_, _, _, n, c, _, _, _, _, zs, f, f, p, rfl, hR4, hF4, hF4, h4, hnc, h7, hB4⟩
  · have hd : decide ((0 : Int) < (n : Int)) = false := decide_eq_false (by omega)
    go_wp2_with fail
    refine (pick_any R q 4 _ hRd1 (by omega) (by omega) (by omega)).mono ?_
    rintro e w4 ⟨p, rfl, hp, hRd4, hg4⟩
    have hB4 := below_gb hB1 (Nat.le_refl _) hg4 hRl
    have hR4 := HK.out _ hg4
    have hF4 := HF.out _ hg4
    clear hRd1 hRd4 hg4
    go_wp2
    (try simp only [Exit.inBlock, Exit.then])
    refine bodyPost_ret (res_four rfl _ _ _) rfl ?_
    exact ⟨_, _, _, n, c, _, _, _, _, zs, f, f, p, rfl, hR4, hF4, hF4, h4, hnc, h7, hB4⟩
theorem gs_sym {zs : List (List Int)} {f g : List Int} {p : Int} (h : gsB zs f g p = true) : gsB zs g f p = true := by
  unfold gsB at h ⊢
  simp only [Bool.and_eq_true] at h ⊢
  obtain ⟨h1, h2, h3, h4⟩ := h
  refine ⟨h1, h3, h2, ?_⟩
  unfold gmB at h4 ⊢
  rw [List.any_eq_true] at h4 ⊢
  obtain ⟨L, hL, e⟩ := h4
  refine ⟨L, hL, ?_⟩
  unfold gmP at e ⊢
  simp only [Bool.and_eq_true] at e ⊢
  exact ⟨e.1, e.2.2, e.2.1⟩
theorem gs_in {zs : List (List Int)} {f g : List Int} {p : Nat} (h : gsB zs f g (p : Int) = true) : p < f.length ∧ p < g.length := by
  unfold gsB mvD at h
  simp only [Bool.and_eq_true] at h
  obtain ⟨_, ⟨_, h2, _⟩, ⟨_, h3, _⟩, _⟩ := h
  have h2 := of_decide_eq_true h2
  have h3 := of_decide_eq_true h3
  constructor <;> omega
theorem gs_at {zs : List (List Int)} {f g : List Int} {p : Nat} (h : gsB zs f g (p : Int) = true) : ofL f p = ofL g p := by
  unfold gsB mvD at h
  simp only [Bool.and_eq_true] at h
  obtain ⟨h1, ⟨hf, h2, _⟩, ⟨hg, _, _⟩, h4⟩ := h
  have S := sgS_iff.1 h1
  have h2 := of_decide_eq_true h2
  have hf := of_decide_eq_true hf
  have hg := of_decide_eq_true hg
  unfold gmB at h4
  rw [List.any_eq_true] at h4
  obtain ⟨L, hL, e⟩ := h4
  unfold gmP at e
  simp only [Bool.and_eq_true, decide_eq_true_eq] at e
  obtain ⟨e0, e1, e2⟩ := e
  simp only [Int.toNat_natCast] at e0
  have cL := S.ch L hL
  have cf := S.ch f hf
  have cg := S.ch g hg
  have h1 := (beB_iff (beB_isP e1)).1 e1 p (by have := cL.2; have := cf.2; omega)
  have h2 := (beB_iff (beB_isP e2)).1 e2 p (by have := cL.2; have := cf.2; omega)
  omega
end

end Go.Proofs.YtmknjifmmmnjjaaGreatDoor
