/-
  S3A.
-/
import Derived.Test.YtkfiehndlgplgaaGreatDoorME
import Derived.Test.YtkfiehndlgplgaaGreatDoorNA
namespace Go.Proofs.YtkfiehndlgplgaaGreatDoor
set_option maxRecDepth 100000
set_option linter.unusedVariables false
set_option linter.unusedSimpArgs false
set_option linter.unusedSectionVars false

/-! spec: lists compared, a list among others by halving; they only read. -/
section
open Go.RowKit

theorem RI.drawn {w : World} {A : Option Addr} {n : Nat} {zs : List Int} (h : RI w A n zs) (k : Nat) : RI (w.drewN k) A n zs := h.below ⟨rfl, rfl, rfl, Nat.le_refl _, fun _ _ => rfl⟩
theorem RSS.drawn {w : World} {A : Option Addr} {n : Nat} {zs : List (List Int)} (h : RSS w A n zs) (k : Nat) : RSS (w.drewN k) A n zs := h.below ⟨rfl, rfl, rfl, Nat.le_refl _, fun _ _ => rfl⟩

theorem drawn_on {w wr : World} {q : Nat} (hw : wr = w.drewN q) (k : Nat) : ∃ r, wr.drewN k = w.drewN r := ⟨q + k, by rw [hw]; exact World.drewN_drewN _ _ _⟩
theorem drawn_on1 {w wr : World} {q : Nat} (hw : wr = w.drewN q) : ∃ r, wr = w.drewN r := ⟨q, hw⟩

set_option maxHeartbeats 400000 in
theorem l3Less_any (A B : Option Addr) (n m c d : Nat) (zs ys : List Int) (w : World) (h : RI w A n zs) (h' : RI w B m ys) (hn : n ≤ 1048576) :
    Calls Tryz.prog 90 #[.slice A n c, .slice B m d] w fun e w' => e = .returned (.bool (lexB zs ys)) ∧ ∃ q, w' = w.drewN q := by
  have HL := Lib.hid h.len
  have HL' := Lib.hid h'.len
  go_enter Tryz.func90, Tryz.ntmps90
  go_wp2
  go_loopw [5] (fun i wr => ∃ k : Nat, k ≤ n ∧ k ≤ m ∧ i = .int .i64 k ∧ Hid (zs.take k = ys.take k) ∧ ∃ q, wr = w.drewN q) (fun i _ => n - (intOf i).toNat)
  case atStart => exact ⟨0, Nat.zero_le _, Nat.zero_le _, rfl, Lib.hid rfl, 0, rfl⟩
  case round =>
    obtain ⟨k, hk, hk', rfl, HT, q, hw⟩ := hrel
    have hR : RI wr A n zs := by rw [hw]; exact h.drawn q
    have hR' : RI wr B m ys := by rw [hw]; exact h'.drawn q
    have HW := Lib.hid hw
    clear hw h h'
    by_cases hlt : k < n
    · by_cases hlt' : k < m
      · obtain ⟨ad, rfl, hab, hc⟩ := hR.at_ hlt
        obtain ⟨ad', rfl, hab', hc'⟩ := hR'.at_ hlt'
        clear hR hR' hab hab'
        by_cases he : zs[k]?.getD 0 = ys[k]?.getD 0
        · have ht : ((zs[k]?.getD 0 : Int) != ys[k]?.getD 0) = false := by simp [he]
          have HE := Lib.hid he
          clear he
          go_wp2
          go_quiet (fail)
          all_goals go_wp2
          go_roundw
          case rel =>
            refine ⟨k + 1, by omega, by omega, by go_num, ?_, drawn_on HW.out _⟩
            show zs.take (k + 1) = ys.take (k + 1)
            rw [take_snoc_get zs (by have := HL.out; omega), take_snoc_get ys (by have := HL'.out; omega), HT.out, HE.out]
          case measure => simp [intOf]; omega
        · have ht : ((zs[k]?.getD 0 : Int) != ys[k]?.getD 0) = true := by simp [he]
          have HA := Lib.hid (lexB_at HT.out (by have := HL.out; omega) (by have := HL'.out; omega) he)
          clear he
          generalize zs[k]?.getD 0 = x at *
          generalize ys[k]?.getD 0 = y at *
          go_wp2
          go_quiet (fail)
          all_goals go_wp2
          have g1 : (wr.drewN nq).cell? (ad.add k) = some (.int .i64 x) := hc
          have g2 : (wr.drewN nq).cell? (ad'.add k) = some (.int .i64 y) := hc'
          obtain ⟨q2, hw2⟩ := drawn_on HW.out nq
          clear hc hc'
          generalize wr.drewN nq = W2 at *
          have HW2 := Lib.hid hw2
          clear hw2
          go_quiet (fail)
          all_goals go_wp2
          go_ret
          exact ⟨by rw [HA.out]; rfl, drawn_on HW2.out _⟩
      · have HE := Lib.hid (lexB_end (k := k) HT.out (by have := HL.out; omega) (by have := HL'.out; omega) (.inr (by have := HL'.out; omega)))
        go_wp2
        go_ret
        exact ⟨by rw [HE.out, HL.out, HL'.out]; simp, q, HW.out⟩
    · have HE := Lib.hid (lexB_end (k := k) HT.out (by have := HL.out; omega) (by have := HL'.out; omega) (.inl (by have := HL.out; omega)))
      go_wp2
      go_ret
      exact ⟨by rw [HE.out, HL.out, HL'.out]; simp, q, HW.out⟩
set_option maxHeartbeats 400000 in
theorem l2Same_q (A B : Option Addr) (n m c d : Nat) (zs ys : List Int) (w : World) (h : RI w A n zs) (h' : RI w B m ys) (hn : n ≤ 1048576) :
    Calls Tryz.prog 46 #[.slice A n c, .slice B m d] w fun e w' => e = .returned (.bool (decide (zs = ys))) ∧ ∃ q, w' = w.drewN q := by
  have HL := Lib.hid h.len
  have HL' := Lib.hid h'.len
  by_cases hnm : n = m
  · subst hnm
    go_enter Tryz.func46, Tryz.ntmps46
    go_wp2
    go_loopw [5] (fun i wr => ∃ k : Nat, k ≤ n ∧ i = .int .i64 k ∧ Hid (zs.take k = ys.take k) ∧ ∃ q, wr = w.drewN q) (fun i _ => n - (intOf i).toNat)
    case atStart => exact ⟨0, Nat.zero_le _, rfl, Lib.hid rfl, 0, rfl⟩
    case round =>
      obtain ⟨k, hk, rfl, HT, q, hw⟩ := hrel
      have hR : RI wr A n zs := by rw [hw]; exact h.drawn q
      have hR' : RI wr B n ys := by rw [hw]; exact h'.drawn q
      have HW := Lib.hid hw
      clear hw h h'
      by_cases hlt : k < n
      · obtain ⟨ad, rfl, hab, hc⟩ := hR.at_ hlt
        obtain ⟨ad', rfl, hab', hc'⟩ := hR'.at_ hlt
        clear hR hR' hab hab'
        by_cases he : zs[k]?.getD 0 = ys[k]?.getD 0
        · have ht : ((zs[k]?.getD 0 : Int) != ys[k]?.getD 0) = false := by simp [he]
          have HE := Lib.hid he
          clear he
          go_wp2
          go_quiet (fail)
          all_goals go_wp2
          go_roundw
          case rel =>
            refine ⟨k + 1, by omega, by go_num, ?_, drawn_on HW.out _⟩
            show zs.take (k + 1) = ys.take (k + 1)
            rw [take_snoc_get zs (by have := HL.out; omega), take_snoc_get ys (by have := HL'.out; omega), HT.out, HE.out]
          case measure => simp [intOf]; omega
        · have ht : ((zs[k]?.getD 0 : Int) != ys[k]?.getD 0) = true := by simp [he]
          go_wp2
          go_quiet (fail)
          all_goals go_wp2
          go_ret
          exact ⟨by rw [decide_eq_false (fun e => he (by rw [e]))]; rfl, drawn_on HW.out _⟩
      · obtain rfl : k = n := by omega
        go_wp2
        go_ret
        exact ⟨by rw [decide_eq_true (eq_of_take HL.out HL'.out HT.out)]; rfl, q, HW.out⟩
  · have hb : ((n : Int) != (m : Int)) = true := by rw [bne_iff_ne]; omega
    go_enter Tryz.func46, Tryz.ntmps46
    go_wp2
    go_ret
    exact ⟨by rw [decide_eq_false (fun e => hnm (by rw [← HL.out, ← HL'.out, e]))]; rfl, 0, rfl⟩

theorem mid_half (lo hi : Nat) : ((lo : Int) + (hi : Int)).tdiv 2 = (((lo + hi) / 2 : Nat) : Int) := by
  rw [Int.tdiv_eq_ediv_of_nonneg (by omega)]; push_cast; rfl
set_option maxHeartbeats 400000 in
theorem l3Find_any (A B : Option Addr) (n m c d : Nat) (zs : List (List Int)) (f : List Int) (w : World) (h : RSS w A n zs) (h' : RI w B m f) (hn : n ≤ 1048576) (hl : ∀ L ∈ zs, L.length ≤ 1048576) :
    Calls Tryz.prog 67 #[.slice A n c, .slice B m d] w fun e w' => e = .returned (.int .i64 (fndI zs f)) ∧ ∃ q, w' = w.drewN q := by
  have HL := Lib.hid h.len
  have HLL := Lib.hid hl
  clear hl
  have HP : Hid (bsF zs f n 0 n = fndP zs f) := by show _ = _; unfold fndP; rw [HL.out]
  go_enter Tryz.func67, Tryz.ntmps67
  go_wp2
  go_loopw [5, 6] (fun u v wr => ∃ lo hi fu : Nat, lo ≤ hi ∧ hi ≤ n ∧ hi - lo ≤ fu ∧ u = .int .i64 (lo : Int) ∧ v = .int .i64 (hi : Int) ∧ Hid (bsF zs f fu lo hi = fndP zs f) ∧ ∃ q, wr = w.drewN q) (fun u v _ => (intOf v).toNat - (intOf u).toNat)
  case atStart => exact ⟨0, n, n, Nat.zero_le _, Nat.le_refl _, by omega, rfl, rfl, HP, 0, rfl⟩
  case round =>
    obtain ⟨lo, hi, fu, h1, h2, h3, rfl, rfl, HB, q, hw⟩ := hrel
    have hR : RSS wr A n zs := by rw [hw]; exact h.drawn q
    have hR' : RI wr B m f := by rw [hw]; exact h'.drawn q
    have HW := Lib.hid hw
    clear hw h h'
    by_cases hlt : lo < hi
    · obtain ⟨fu, rfl⟩ : ∃ k, fu = k + 1 := ⟨fu - 1, by omega⟩
      obtain ⟨md, hmd⟩ : ∃ md, md = (lo + hi) / 2 := ⟨_, rfl⟩
      have hm1 : lo ≤ md ∧ md < hi := by omega
      have hq := mid_half lo hi
      rw [← hmd] at hq
      have HBL : Hid (lexB (ent zs md) f = true → bsF zs f fu (md + 1) hi = fndP zs f) := fun hl => by rw [← HB.out, bsF_low hlt (by rw [← hmd]; exact hl), hmd]
      have HBH : Hid (lexB (ent zs md) f = false → bsF zs f fu lo md = fndP zs f) := fun hl => by rw [← HB.out, bsF_high hlt (by rw [← hmd]; exact hl), hmd]
      obtain ⟨ad, Ai, ci, rfl, hab, hc, hr⟩ := hR.at_ (show md < n by omega)
      have hent : zs[md]?.getD [] = ent zs md := rfl
      rw [hent] at hc hr
      have hle : (ent zs md).length ≤ 1048576 := HLL.out _ (ent_mem (by have := HL.out; omega))
      clear hmd hab
      go_wp2_with fail
      refine (l3Less_any _ _ _ _ _ _ _ _ _ hr hR' hle).mono ?_
      rintro e w' ⟨rfl, q1, rfl⟩
      cases hl : lexB (ent zs md) f
      · have HX := Lib.hid (HBH.out hl)
        clear hl
        go_wp2
        go_roundw
        case rel => exact ⟨lo, md, fu, by omega, by omega, by omega, rfl, rfl, HX, drawn_on HW.out _⟩
        case measure => simp [intOf]; omega
      · have HX := Lib.hid (HBL.out hl)
        clear hl
        go_wp2
        go_roundw
        case rel => exact ⟨md + 1, hi, fu, by omega, by omega, by omega, by go_num, rfl, HX, drawn_on HW.out _⟩
        case measure => simp [intOf]; omega
    · have hP : fndP zs f = lo := by rw [← HB.out, bsF_stop _ _ _ hlt]
      by_cases hln : lo < n
      · obtain ⟨ad, Ai, ci, rfl, hab, hc, hr⟩ := hR.at_ hln
        have hent : zs[lo]?.getD [] = ent zs lo := rfl
        rw [hent] at hc hr
        have hle : (ent zs lo).length ≤ 1048576 := HLL.out _ (ent_mem (by have := HL.out; omega))
        clear hab
        by_cases he : ent zs lo = f
        · have HF : Hid (fndI zs f = (lo : Int)) := by show _ = _; unfold fndI; rw [hP, if_pos ⟨by have := HL.out; omega, he⟩]
          have HD : Hid (decide (ent zs lo = f) = true) := decide_eq_true he
          clear he hP
          go_wp2_with fail
          refine (l2Same_q _ _ _ _ _ _ _ _ _ hr hR' hle).mono ?_
          rintro e w' ⟨rfl, q1, rfl⟩
          rw [HD.out]
          go_wp2
          go_ret
          exact ⟨by rw [HF.out]; rfl, drawn_on HW.out _⟩
        · have HF : Hid (fndI zs f = -1) := by show _ = _; unfold fndI; rw [hP, if_neg (fun e => he e.2)]
          have HD : Hid (decide (ent zs lo = f) = false) := decide_eq_false he
          clear he hP
          go_wp2_with fail
          refine (l2Same_q _ _ _ _ _ _ _ _ _ hr hR' hle).mono ?_
          rintro e w' ⟨rfl, q1, rfl⟩
          rw [HD.out]
          go_wp2
          go_ret
          exact ⟨by rw [HF.out]; rfl, drawn_on HW.out _⟩
      · have HF : Hid (fndI zs f = -1) := by show _ = _; unfold fndI; rw [hP, if_neg (fun e => by have := e.1; have := HL.out; omega)]
        clear hP
        go_wp2
        go_ret
        exact ⟨by rw [HF.out]; rfl, q, HW.out⟩
end

end Go.Proofs.YtkfiehndlgplgaaGreatDoor
