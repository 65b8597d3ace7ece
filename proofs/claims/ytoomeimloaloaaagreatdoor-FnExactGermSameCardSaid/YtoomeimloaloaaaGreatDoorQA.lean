/-
  Bb7.
-/
import Derived.Test.YtoomeimloaloaaaGreatDoorNB
import Derived.Test.YtoomeimloaloaaaGreatDoorNT
import Derived.Test.YtoomeimloaloaaaGreatDoorPM
namespace Go.Proofs.YtoomeimloaloaaaGreatDoor
set_option maxRecDepth 100000
set_option linter.unusedVariables false
set_option linter.unusedSimpArgs false
set_option linter.unusedSectionVars false

/-! spec.l7Germ, spec.l7Moves, spec.GermSame. -/
section
open Go.RowKit Go.Maps

/-- a chart below both that moves the point -/
def gmP (f g : List Int) (p : Nat) (L : List Int) : Bool := decide (0 ≤ ofL L p) && (beB L f && beB L g)
def gmB (zs : List (List Int)) (f g : List Int) (p : Nat) : Bool := zs.any (gmP f g p)
def mvD (zs : List (List Int)) (f : List Int) (p : Int) : Bool := decide (f ∈ zs) && (inB p 0 ((f.length : Int) - 1) && decide (0 ≤ ofL f p.toNat))
def gsB (zs : List (List Int)) (f g : List Int) (p : Int) : Bool := sgS zs && (mvD zs f p && (mvD zs g p && gmB zs f g p.toNat))
theorem any_step2 {zs : List (List Int)} {p : List Int → Bool} {k : Nat} (hk : k < zs.length) : (zs.take (k + 1)).any p = ((zs.take k).any p || p (ent zs k)) := by
  have e : ent zs k = zs[k] := by unfold ent; rw [List.getElem?_eq_getElem hk]; rfl
  rw [List.take_succ_eq_append_getElem hk, List.any_append, e]; simp
set_option maxHeartbeats 2000000 in
theorem l7Germ_any (A B C : Option Addr) (n c d d' m : Nat) (zs : List (List Int)) (f g : List Int) (p : Nat) (w : World) (h : RSS w A n zs) (hf : RI w B m f) (hg : RI w C m g) (hz : ∀ L ∈ zs, isP L f = true ∧ isP L g = true ∧ L.length = m) (hp : p < m) (hn : n ≤ 1048576) (hm : m ≤ 6) :
    Calls Tryz.prog 49 #[.slice A n c, .slice B m d, .slice C m d', .int .i64 (p : Int)] w fun e w' => e = .returned (.bool (gmB zs f g p)) ∧ Below w.heap.size w w' := by
  have HL := Lib.hid h.len
  have HH := Lib.hid h
  have HF := Lib.hid hf
  have HG := Lib.hid hg
  have HZ := Lib.hid hz
  have hpm : (p : Int) < (m : Int) := by omega
  clear h hf hg hz
  go_enter Tryz.func49, Tryz.ntmps49
  go_wp2
  go_loopw [9] (fun i wr => ∃ k : Nat, k ≤ n ∧ i = .int .i64 (k : Int) ∧ Hid ((zs.take k).any (gmP f g p) = false) ∧ Below w.heap.size w wr) (fun i _ => n - (intOf i).toNat)
  case atStart => exact ⟨0, Nat.zero_le _, rfl, rfl, Below.refl _ _⟩
  case round =>
    obtain ⟨k, hk, rfl, HN, hB⟩ := hrel
    by_cases hlt : k < n
    · have hkl : k < zs.length := by have := HL.out; omega
      obtain ⟨ad, Ai, ci, rfl, hab, hci, hri⟩ := (HH.out.below hB).at_ hlt
      have hent : zs[k]?.getD [] = ent zs k := rfl
      obtain ⟨hP1, hP2, hlen⟩ := HZ.out _ (ent_mem hkl)
      rw [hent, hlen] at hci hri
      obtain ⟨ai, rfl, hai, hcl⟩ := hri.at_ (k := p) (by omega)
      have hof : (ent zs k)[p]?.getD 0 = ofL (ent zs k) p := rfl
      rw [hof] at hcl
      have HST := Lib.hid (any_step2 (p := gmP f g p) hkl)
      have HPT : Hid (gmP f g p (ent zs k) = (decide (0 ≤ ofL (ent zs k) p) && (beB (ent zs k) f && beB (ent zs k) g))) := rfl
      have HC1 : Hid (∀ j, Calls Tryz.prog 79 #[.slice (some ai) m ci, .slice B m d] (wr.drewN j) fun e w' => e = .returned (.bool (beB (ent zs k) f)) ∧ ∃ q, w' = (wr.drewN j).drewN q) := fun j => l1Below_c _ _ _ _ _ _ _ _ (hri.drawn j) ((HF.out.below hB).drawn j) hP1
      have HC2 : Hid (∀ j, Calls Tryz.prog 79 #[.slice (some ai) m ci, .slice C m d'] (wr.drewN j) fun e w' => e = .returned (.bool (beB (ent zs k) g)) ∧ ∃ q, w' = (wr.drewN j).drewN q) := fun j => l1Below_c _ _ _ _ _ _ _ _ (hri.drawn j) ((HG.out.below hB).drawn j) hP2
      clear hent hP1 hP2 hlen hof hkl hab hri
      generalize ofL (ent zs k) p = z at *
      generalize gmP f g p (ent zs k) = gp at *
      by_cases hz0 : 0 ≤ z
      · have hge : decide (z ≥ 0) = true := decide_eq_true hz0
        have HP2 : Hid (gp = (beB (ent zs k) f && beB (ent zs k) g)) := by show _ = _; rw [HPT.out, decide_eq_true hz0]; rfl
        clear hz0
        cases h1 : beB (ent zs k) f
        · have HN2 : Hid ((zs.take (k + 1)).any (gmP f g p) = false) := by show _ = _; rw [HST.out, HN.out, HP2.out, h1]; rfl
          have hc1 := HC1.out 0
          rw [h1] at hc1
          clear h1
          go_wp2_with fail
          refine Calls.mono hc1 ?_
          rintro e w2 ⟨rfl, q2, rfl⟩
          clear hc1
          go_wp2
          go_roundw
          case rel => exact ⟨k + 1, by omega, by go_num, HN2, below_drewN hB _⟩
          case measure => simp [intOf]; omega
        · have hc1 := HC1.out 0
          rw [h1] at hc1
          have HP3 : Hid (gp = beB (ent zs k) g) := by show _ = _; rw [HP2.out, h1]; rfl
          clear h1
          go_wp2_with fail
          refine Calls.mono hc1 ?_
          rintro e w2 ⟨rfl, q2, rfl⟩
          have hci2 : ((wr.drewN 0).drewN q2).cell? (ad.add k) = some (.slice (some ai) m ci) := hci
          have hc2 := HC2.out q2
          rw [show wr.drewN q2 = (wr.drewN 0).drewN q2 from rfl] at hc2
          clear hc1
          cases h2 : beB (ent zs k) g
          · rw [h2] at hc2
            have HN2 : Hid ((zs.take (k + 1)).any (gmP f g p) = false) := by show _ = _; rw [HST.out, HN.out, HP3.out, h2]; rfl
            clear h2
            go_wp2_with fail
            refine Calls.mono hc2 ?_
            rintro e w3 ⟨rfl, q3, rfl⟩
            clear hc2
            go_wp2
            go_roundw
            case rel => exact ⟨k + 1, by omega, by go_num, HN2, below_drewN hB _⟩
            case measure => simp [intOf]; omega
          · rw [h2] at hc2
            have HY : Hid (gmB zs f g p = true) := by
              have hk1 : (zs.take (k + 1)).any (gmP f g p) = true := by rw [HST.out, HP3.out, h2, Bool.or_true]
              obtain ⟨x, hx, hx2⟩ := List.any_eq_true.1 hk1
              exact List.any_eq_true.2 ⟨x, List.mem_of_mem_take hx, hx2⟩
            clear h2
            go_wp2_with fail
            refine Calls.mono hc2 ?_
            rintro e w3 ⟨rfl, q3, rfl⟩
            clear hc2
            go_wp2
            go_ret
            exact ⟨by rw [HY.out]; rfl, below_drewN hB _⟩
      · have hge : decide (z ≥ 0) = false := decide_eq_false (by omega)
        have HN2 : Hid ((zs.take (k + 1)).any (gmP f g p) = false) := by show _ = _; rw [HST.out, HN.out, HPT.out, decide_eq_false hz0]; rfl
        clear hz0
        go_wp2
        go_roundw
        case rel => exact ⟨k + 1, by omega, by go_num, HN2, hB⟩
        case measure => simp [intOf]; omega
    · obtain rfl : k = n := by omega
      have HE : Hid (gmB zs f g p = false) := by have := HN.out; rw [List.take_of_length_le (by have := HL.out; omega)] at this; exact this
      go_wp2
      go_ret
      exact ⟨by rw [HE.out]; rfl, hB⟩
set_option maxHeartbeats 1000000 in
theorem l7Moves_any (A B : Option Addr) (n c m d : Nat) (zs : List (List Int)) (f : List Int) (p : Int) (w : World) (h : RSS w A n zs) (hf : RI w B m f) (hS : Sg zs) (hn : n ≤ 1048576) (hl : ∀ L ∈ zs, L.length ≤ 1048576) :
    Calls Tryz.prog 48 #[.slice A n c, .slice B m d, .int .i64 p] w fun e w' => e = .returned (.bool (mvD zs f p)) ∧ Below w.heap.size w w' := by
  have hF := l3Find_any A B n m c d zs f w h hf hn hl
  have hiff := fndI_iff (f := f) hS.srt
  obtain rfl := hf.len
  have HD : Hid (mvD zs f p = (decide (f ∈ zs) && (inB p 0 ((f.length : Int) - 1) && decide (0 ≤ ofL f p.toNat)))) := rfl
  have hfl : f ∈ zs → 1 ≤ f.length ∧ f.length ≤ 6 := fun hm => isC_len (hS.ch f hm).1
  have HFF := Lib.hid hf
  clear h hf hS hl
  generalize fndI zs f = t at *
  by_cases ht : 0 ≤ t
  · have hge : decide (t ≥ 0) = true := decide_eq_true ht
    have hm := hiff.1 ht
    obtain ⟨h1, h6⟩ := hfl hm
    have HD2 : Hid (mvD zs f p = (inB p 0 ((f.length : Int) - 1) && decide (0 ≤ ofL f p.toNat))) := by show _ = _; rw [HD.out, decide_eq_true hm]; rfl
    clear hiff hm hfl ht
    go_enter Tryz.func48, Tryz.ntmps48
    go_wp2_with fail
    refine Calls.mono hF ?_
    rintro e w2 ⟨rfl, q2, rfl⟩
    have hI := l6In_any p 0 ((f.length : Int) - 1) (w.drewN q2)
    clear hF
    cases hi : inB p 0 ((f.length : Int) - 1)
    · have HD3 : Hid (mvD zs f p = false) := by show _ = _; rw [HD2.out, hi]; rfl
      rw [hi] at hI
      clear hi
      go_wp2_with fail
      refine hI.mono ?_
      rintro e w3 ⟨rfl, rfl⟩
      clear hI
      go_wp2
      go_ret
      exact ⟨by rw [HD3.out]; rfl, below_drewN (Below.refl _ _) _⟩
    · have hpb : 0 ≤ p ∧ p ≤ (f.length : Int) - 1 := by unfold inB at hi; exact of_decide_eq_true hi
      obtain ⟨k, rfl⟩ : ∃ k : Nat, p = (k : Int) := ⟨p.toNat, by omega⟩
      have hkf : k < f.length := by omega
      obtain ⟨ad, rfl, hab, hc⟩ := HFF.out.at_ hkf
      replace hc : (w.drewN q2).cell? (ad.add k) = some (.int .i64 (ofL f k)) := hc
      have hki : (k : Int) < (f.length : Int) := by omega
      have HD3 : Hid (mvD zs f (k : Int) = decide (0 ≤ ofL f k)) := by show _ = _; rw [HD2.out, hi]; rfl
      rw [hi] at hI
      clear hi hpb HFF
      generalize ofL f k = z at *
      go_wp2_with fail
      refine hI.mono ?_
      rintro e w3 ⟨rfl, rfl⟩
      clear hI
      go_wp2
      go_ret
      exact ⟨by rw [HD3.out]; rfl, below_drewN (Below.refl _ _) _⟩
  · have hge : decide (t ≥ 0) = false := decide_eq_false (by omega)
    have HD2 : Hid (mvD zs f p = false) := by show _ = _; rw [HD.out, decide_eq_false (fun hm => ht (hiff.2 hm))]; rfl
    clear hiff hfl ht
    go_enter Tryz.func48, Tryz.ntmps48
    go_wp2_with fail
    refine Calls.mono hF ?_
    rintro e w2 ⟨rfl, q2, rfl⟩
    clear hF
    go_wp2
    go_ret
    exact ⟨by rw [HD2.out]; rfl, below_drewN (Below.refl _ _) _⟩
set_option maxHeartbeats 1000000 in
theorem specGsame_any (A B C : Option Addr) (n c m d m' d' : Nat) (zs : List (List Int)) (f g : List Int) (p : Int) (w : World) (h : RSS w A n zs) (hf : RI w B m f) (hg : RI w C m' g) (hn : n ≤ 1048576) (hl : ∀ L ∈ zs, L.length ≤ 1048576) :
    Calls Tryz.prog 27 #[.slice A n c, .slice B m d, .slice C m' d', .int .i64 p] w fun e w' => e = .returned (.bool (gsB zs f g p)) ∧ Below w.heap.size w w' := by
  have hsg := specSg_any A n c zs w h hn hl
  have HD : Hid (gsB zs f g p = (sgS zs && (mvD zs f p && (mvD zs g p && gmB zs f g p.toNat)))) := rfl
  cases hS : sgS zs
  · have HK : Hid (gsB zs f g p = false) := by show _ = _; rw [HD.out, hS]; rfl
    rw [hS] at hsg
    clear hS h hf hg hl
    go_enter Tryz.func27, Tryz.ntmps27
    go_wp2_with fail
    refine hsg.mono ?_
    rintro e w1 ⟨rfl, hb⟩
    clear hsg
    go_wp2
    go_ret
    exact ⟨by rw [HK.out]; rfl, hb⟩
  · have HX := Lib.hid (sgS_iff.1 hS)
    have HM1 : Hid (∀ W, Below w.heap.size w W → Calls Tryz.prog 48 #[.slice A n c, .slice B m d, .int .i64 p] W fun e w' => e = .returned (.bool (mvD zs f p)) ∧ Below W.heap.size W w') := fun W hW => l7Moves_any A B n c m d zs f p W (h.below hW) (hf.below hW) HX.out hn hl
    have HM2 : Hid (∀ W, Below w.heap.size w W → Calls Tryz.prog 48 #[.slice A n c, .slice C m' d', .int .i64 p] W fun e w' => e = .returned (.bool (mvD zs g p)) ∧ Below W.heap.size W w') := fun W hW => l7Moves_any A C n c m' d' zs g p W (h.below hW) (hg.below hW) HX.out hn hl
    have HM3 : Hid (∀ W, Below w.heap.size w W → mvD zs f p = true → mvD zs g p = true → Calls Tryz.prog 49 #[.slice A n c, .slice B m d, .slice C m' d', .int .i64 p] W fun e w' => e = .returned (.bool (gmB zs f g p.toNat)) ∧ Below W.heap.size W w') := fun W hW h1 h2 => by
      unfold mvD at h1 h2
      rw [Bool.and_eq_true, Bool.and_eq_true, decide_eq_true_eq] at h1 h2
      have c1 := HX.out.ch f h1.1
      have c2 := HX.out.ch g h2.1
      have l1 := hf.len
      have l2 := hg.len
      have hpb : 0 ≤ p ∧ p ≤ (f.length : Int) - 1 := by have := h1.2.1; unfold inB at this; exact of_decide_eq_true this
      have h6 := (isC_len c1.1).2
      obtain ⟨k, rfl⟩ : ∃ k : Nat, p = (k : Int) := ⟨p.toNat, by omega⟩
      obtain rfl : m' = m := by omega
      exact l7Germ_any A B C n c d d' m' zs f g k W (h.below hW) (hf.below hW) (hg.below hW) (fun L hL => by
        have c3 := HX.out.ch L hL
        exact ⟨isP_of c3.1 c1.1 (c3.2.trans c1.2.symm), isP_of c3.1 c2.1 (c3.2.trans c2.2.symm), by omega⟩) (by omega) hn (by omega)
    have HD2 : Hid (gsB zs f g p = (mvD zs f p && (mvD zs g p && gmB zs f g p.toNat))) := by show _ = _; rw [HD.out, hS]; rfl
    rw [hS] at hsg
    clear hS h hf hg hl
    go_enter Tryz.func27, Tryz.ntmps27
    go_wp2_with fail
    refine hsg.mono ?_
    rintro e w1 ⟨rfl, hb⟩
    have h1 := HM1.out w1 hb
    clear hsg
    cases e1 : mvD zs f p
    · have HK : Hid (gsB zs f g p = false) := by show _ = _; rw [HD2.out, e1]; rfl
      rw [e1] at h1
      clear e1
      go_wp2_with fail
      refine h1.mono ?_
      rintro e w2 ⟨rfl, hb2⟩
      have hB2 := hb.trans (hb2.mono hb.size)
      clear h1
      go_wp2
      go_ret
      exact ⟨by rw [HK.out]; rfl, hB2⟩
    · have HD3 : Hid (gsB zs f g p = (mvD zs g p && gmB zs f g p.toNat)) := by show _ = _; rw [HD2.out, e1]; rfl
      have HM3 := Lib.hid (fun W hW => HM3.out W hW e1)
      rw [e1] at h1
      clear e1
      go_wp2_with fail
      refine h1.mono ?_
      rintro e w2 ⟨rfl, hb2⟩
      have hB2 := hb.trans (hb2.mono hb.size)
      have h2 := HM2.out w2 hB2
      clear h1 hb hb2
      cases e2 : mvD zs g p
      · have HK : Hid (gsB zs f g p = false) := by show _ = _; rw [HD3.out, e2]; rfl
        rw [e2] at h2
        clear e2
        go_wp2_with fail
        refine h2.mono ?_
        rintro e w3 ⟨rfl, hb3⟩
        have hB3 := hB2.trans (hb3.mono hB2.size)
        clear h2
        go_wp2
        go_ret
        exact ⟨by rw [HK.out]; rfl, hB3⟩
      · have HK : Hid (gsB zs f g p = gmB zs f g p.toNat) := by show _ = _; rw [HD3.out, e2]; rfl
        rw [e2] at h2
        have HM4 := Lib.hid (fun W hW => HM3.out W hW e2)
        clear e2
        go_wp2_with fail
        refine h2.mono ?_
        rintro e w3 ⟨rfl, hb3⟩
        have hB3 := hB2.trans (hb3.mono hB2.size)
        have h3 := HM4.out w3 hB3
        clear h2 hb3 hB2
        generalize gmB zs f g p.toNat = r at *
        go_wp2_with fail
        refine h3.mono ?_
        rintro e w4 ⟨rfl, hb4⟩
        have hB4 := hB3.trans (hb4.mono hB3.size)
        clear h3
        go_wp2
        go_ret
        exact ⟨by rw [HK.out]; rfl, hB4⟩
end

end Go.Proofs.YtoomeimloaloaaaGreatDoor
