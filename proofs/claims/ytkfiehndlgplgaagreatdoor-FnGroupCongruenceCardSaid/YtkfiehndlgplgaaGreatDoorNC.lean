/-
  S3B.
-/
import Derived.Test.YtkfiehndlgplgaaGreatDoorNB
namespace Go.Proofs.YtkfiehndlgplgaaGreatDoor
set_option maxRecDepth 100000
set_option linter.unusedVariables false
set_option linter.unusedSimpArgs false
set_option linter.unusedSectionVars false

/-! spec: lists of charts of as many points; semigroups. -/
section
open Go.RowKit

theorem add_zero_ {ad : Addr} : ad.add 0 = ad := by unfold Addr.add; split <;> simp_all
theorem chB_step {zs : List (List Int)} {k : Nat} (hk : k < zs.length) (P : List Int → Bool) (h : (zs.take k).all P = true) (hp : P (ent zs k) = true) : (zs.take (k + 1)).all P = true := by
  rw [List.take_succ_eq_append_getElem hk, List.all_append, h]
  unfold ent at hp
  rw [List.getElem?_eq_getElem hk] at hp
  simp only [Option.getD_some] at hp
  simp [hp]
theorem chB_no {zs : List (List Int)} {k : Nat} (hk : k < zs.length) (h : (isC (ent zs k) && decide ((ent zs k).length = (ent zs 0).length)) = false) : chB zs = false := by
  cases hc : chB zs
  · rfl
  · have := (chB_iff.1 hc).2 _ (ent_mem hk)
    rw [this.1, decide_eq_true this.2] at h; cases h

set_option maxHeartbeats 600000 in
theorem l3Charts_any (A : Option Addr) (n c : Nat) (zs : List (List Int)) (w : World) (h : RSS w A n zs) (hn : n ≤ 1048576) (hl : ∀ L ∈ zs, L.length ≤ 1048576) :
    Calls Tryz.prog 89 #[.slice A n c] w fun e w' => e = .returned (.bool (chB zs)) ∧ ∃ q, w' = w.drewN q := by
  have HL := Lib.hid h.len
  have HLL := Lib.hid hl
  clear hl
  go_enter Tryz.func89, Tryz.ntmps89
  go_wp2
  go_loopw [3] (fun i wr => ∃ k : Nat, k ≤ n ∧ i = .int .i64 (k : Int) ∧ Hid ((zs.take k).all (fun L => isC L && decide (L.length = (ent zs 0).length)) = true) ∧ ∃ q, wr = w.drewN q) (fun i _ => n - (intOf i).toNat)
  case atStart => exact ⟨0, Nat.zero_le _, rfl, Lib.hid rfl, 0, rfl⟩
  case round =>
    obtain ⟨k, hk, rfl, HT, q, hw⟩ := hrel
    have hR : RSS wr A n zs := by rw [hw]; exact h.drawn q
    have HW := Lib.hid hw
    clear hw h
    by_cases hlt : k < n
    · obtain ⟨ad, Ai, ci, rfl, hab, hc, hr⟩ := hR.at_ hlt
      obtain ⟨ad', A0, c0, he, hab', hc', hr'⟩ := hR.at_ (show 0 < n by omega)
      obtain rfl := Option.some.inj he
      have hkl : k < zs.length := by have := HL.out; omega
      have hent : zs[k]?.getD [] = ent zs k := rfl
      have hent0 : zs[0]?.getD [] = ent zs 0 := rfl
      rw [hent] at hc hr
      rw [hent0, add_zero_] at hc'
      have hle : (ent zs k).length ≤ 1048576 := HLL.out _ (ent_mem hkl)
      have HNO := Lib.hid (chB_no hkl)
      have HST := Lib.hid (chB_step hkl _ HT.out)
      clear hent hent0 hab hab' hr' hR he hkl
      have HC0 : Hid (∀ j, Calls Tryz.prog 120 #[.slice Ai (ent zs k).length ci] (wr.drewN j) fun e w' => e = .returned (.bool (isC (ent zs k))) ∧ ∃ m, w' = wr.drewN m) := fun j => (specIn_any _ _ _ _ _ (hr.drawn j) hle).mono fun e w' h => ⟨h.1, j, h.2.symm⟩
      clear hr
      generalize (ent zs 0).length = l0 at *
      cases hC : isC (ent zs k)
      · have HF := Lib.hid (HNO.out (by rw [hC]; rfl))
        rw [hC] at HC0
        clear hC
        generalize (ent zs k).length = l1 at *
        go_wp2
        go_quiet (exact HC0.out _)
        all_goals go_wp2
        all_goals go_ret
        all_goals exact ⟨by rw [HF.out]; rfl, drawn_on HW.out _⟩
      · by_cases hd : (ent zs k).length = l0
        · have HS1 := Lib.hid (HST.out (by rw [hC, decide_eq_true hd]; rfl))
          rw [hC] at HC0
          have hbe : (((ent zs k).length : Int) != (l0 : Int)) = false := by simp [hd]
          clear hC hd
          generalize (ent zs k).length = l1 at *
          go_wp2
          go_quiet (exact HC0.out _)
          all_goals go_wp2
          all_goals go_roundw
          case rel => exact ⟨k + 1, by omega, by go_num, HS1, drawn_on HW.out _⟩
          case measure => simp [intOf]; omega
        · have HF := Lib.hid (HNO.out (by rw [decide_eq_false hd, Bool.and_false]))
          rw [hC] at HC0
          have hbe : (((ent zs k).length : Int) != (l0 : Int)) = true := by simp; omega
          clear hC hd
          generalize (ent zs k).length = l1 at *
          go_wp2
          go_quiet (exact HC0.out _)
          all_goals go_wp2
          all_goals go_ret
          all_goals exact ⟨by rw [HF.out]; rfl, drawn_on HW.out _⟩
    · obtain rfl : k = n := by omega
      have HF : Hid (chB zs = decide (0 < k)) := by
        show _ = _
        have := HT.out
        rw [List.take_of_length_le (by rw [HL.out]; exact Nat.le_refl _)] at this
        unfold chB; rw [this, HL.out, Bool.true_and]
      go_wp2
      go_ret
      exact ⟨by rw [HF.out]; simp, q, HW.out⟩
end

end Go.Proofs.YtkfiehndlgplgaaGreatDoor
