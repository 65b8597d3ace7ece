/-
  S3C.
-/
import Derived.Test.YtkfiehndlgplgaaGreatDoorMC
import Derived.Test.YtkfiehndlgplgaaGreatDoorNC
namespace Go.Proofs.YtkfiehndlgplgaaGreatDoor
set_option maxRecDepth 100000
set_option linter.unusedVariables false
set_option linter.unusedSimpArgs false
set_option linter.unusedSectionVars false

/-! spec: whether a list of lists is a semigroup. -/
section
open Go.RowKit

theorem RI.heap {w W : World} {A : Option Addr} {n : Nat} {zs : List Int} (h : RI w A n zs) (e : W.heap = w.heap) : RI W A n zs := by
  cases W; cases w; simp only at e; subst e; exact h
theorem RSS.heap {w W : World} {A : Option Addr} {n : Nat} {zs : List (List Int)} (h : RSS w A n zs) (e : W.heap = w.heap) : RSS W A n zs := by
  cases W; cases w; simp only at e; subst e; exact h
theorem sg_len {zs : List (List Int)} (h : chB zs = true) {k : Nat} (hk : k < zs.length) : isC (ent zs k) = true ∧ (ent zs k).length = (ent zs 0).length := (chB_iff.1 h).2 _ (ent_mem hk)
theorem all_false {n k : Nat} {P : Nat → Bool} (hk : k < n) (h : P k = false) : (List.range n).all P = false := by
  cases hc : (List.range n).all P
  · rfl
  · have := List.all_eq_true.1 hc k (List.mem_range.2 hk); rw [h] at this; cases this
theorem sgS_no1 {zs : List (List Int)} {k : Nat} (hk : k < zs.length) (h : s1B zs k = false) : sgS zs = false := by
  unfold sgS; rw [all_false hk h]; simp
theorem sgS_no2 {zs : List (List Int)} {i k : Nat} (hi : i < zs.length) (hk : k < zs.length) (h : s2B zs i k = false) : sgS zs = false := by
  unfold sgS; rw [all_false (P := fun i => (List.range zs.length).all (s2B zs i)) hi (all_false hk h)]; simp
theorem sgS_yes {zs : List (List Int)} (h : chB zs = true) (h4 : zs.length ≤ 400) (h1 : ∀ i, i < zs.length → s1B zs i = true) (h2 : ∀ i, i < zs.length → ∀ k, k < zs.length → s2B zs i k = true) : sgS zs = true := by
  unfold sgS
  rw [h, decide_eq_true h4, List.all_eq_true.2 (fun i hi => h1 i (List.mem_range.1 hi)), List.all_eq_true.2 (fun i hi => List.all_eq_true.2 (fun k hk => h2 i (List.mem_range.1 hi) k (List.mem_range.1 hk)))]
  rfl

theorem s1_yes {zs : List (List Int)} {k : Nat} (h : k = 0 ∨ lexB (ent zs (k - 1)) (ent zs k) = true) (hf : ¬ fndI zs (tuL (ent zs k)) < 0) : s1B zs k = true := by
  unfold s1B
  rw [show decide (0 ≤ fndI zs (tuL (ent zs k))) = true from decide_eq_true (by omega), Bool.and_true, Bool.or_eq_true]
  rcases h with h | h
  · exact .inl (decide_eq_true h)
  · exact .inr h
theorem s1_no {zs : List (List Int)} {k : Nat} (hf : fndI zs (tuL (ent zs k)) < 0) : s1B zs k = false := by
  unfold s1B; rw [show decide (0 ≤ fndI zs (tuL (ent zs k))) = false from decide_eq_false (by omega), Bool.and_false]
theorem s1_unsorted {zs : List (List Int)} {k : Nat} (hk : k ≠ 0) (h : lexB (ent zs (k - 1)) (ent zs k) = false) : s1B zs k = false := by
  unfold s1B; rw [decide_eq_false hk, h]; rfl
theorem s2_yes {zs : List (List Int)} {i k : Nat} (hf : ¬ fndI zs (tiL (ent zs i) (ent zs k)) < 0) : s2B zs i k = true := decide_eq_true (by omega)
theorem s2_no {zs : List (List Int)} {i k : Nat} (hf : fndI zs (tiL (ent zs i) (ent zs k)) < 0) : s2B zs i k = false := decide_eq_false (by omega)
theorem upto_step {P : Nat → Prop} {k : Nat} (h : ∀ j, j < k → P j) (hk : P k) : ∀ j, j < k + 1 → P j := fun j hj => by
  rcases Nat.lt_or_eq_of_le (Nat.le_of_lt_succ hj) with h' | rfl
  · exact h j h'
  · exact hk

theorem l1Tu_any (A : Option Addr) (n c : Nat) (L : List Int) (w : World) (h : RI w A n L) (hC : isC L = true) :
    Calls Tryz.prog 91 #[.slice A n c] w fun e w' => ∃ v, e = .returned v ∧ NewL w (tuL L) v w' := by
  obtain rfl := h.len
  have := l1Turned_any A _ c L w h (isC_len hC).2 (isC_ent hC)
  rwa [tuL_yes hC] at this
theorem l1Ti_any (A B : Option Addr) (n c d : Nat) (L M : List Int) (w : World) (h : RI w A n L) (h' : RI w B n M) (hP : isP L M = true) :
    Calls Tryz.prog 92 #[.slice A n c, .slice B n d] w fun e w' => ∃ v, e = .returned v ∧ NewL w (tiL L M) v w' := by
  obtain rfl := h.len
  obtain ⟨hf, hg, hfg⟩ := isP_yes hP
  have HT : LT L.length (timesL L.length (ofL M) (mv (ofL L) L.length)) = tiL L M := by unfold tiL; rw [pk_yes hP, pF_yes hP, pG_yes hP]
  have := l1Times_any A B _ c d L M w h h' (isC_len hf).2 (isC_ent hf)
  rwa [HT] at this

set_option maxHeartbeats 30000000 in
theorem specSg_any (A : Option Addr) (n c : Nat) (zs : List (List Int)) (w : World) (h : RSS w A n zs) (hn : n ≤ 1048576) (hl : ∀ L ∈ zs, L.length ≤ 1048576) :
    Calls Tryz.prog 45 #[.slice A n c] w fun e w' => e = .returned (.bool (sgS zs)) ∧ Below w.heap.size w w' := by
  have HL := Lib.hid h.len
  have HLL := Lib.hid hl
  have HR0 := Lib.hid h
  have HCH := Lib.hid (l3Charts_any A n c zs w h hn hl)
  clear hl h
  cases hC : chB zs
  · have HF : Hid (sgS zs = false) := by show _ = _; unfold sgS; rw [hC]; rfl
    rw [hC] at HCH
    clear hC
    go_enter Tryz.func45, Tryz.ntmps45
    go_wp2_with fail
    refine HCH.out.mono ?_
    rintro e w' ⟨rfl, q, rfl⟩
    go_wp2
    go_ret
    exact ⟨by rw [HF.out]; rfl, below_drewN (Below.refl _ _) _⟩
  · by_cases h4 : 400 < n
    · have HF : Hid (sgS zs = false) := by show _ = _; unfold sgS; rw [hC, decide_eq_false (by have := HL.out; omega)]; rfl
      rw [hC] at HCH
      clear hC
      go_enter Tryz.func45, Tryz.ntmps45
      go_wp2_with fail
      refine HCH.out.mono ?_
      rintro e w' ⟨rfl, q, rfl⟩
      go_wp2
      go_ret
      exact ⟨by rw [HF.out]; rfl, below_drewN (Below.refl _ _) _⟩
    · have HC := Lib.hid hC
      rw [hC] at HCH
      clear hC
      go_enter Tryz.func45, Tryz.ntmps45
      go_wp2_with fail
      refine HCH.out.mono ?_
      rintro e w' ⟨rfl, q, rfl⟩
      clear HCH
      have hB0 : Below w.heap.size w (w.drewN q) := below_drewN (Below.refl _ _) _
      go_wp2
      go_loopw [3] (fun i wr => ∃ k : Nat, k ≤ n ∧ i = .int .i64 (k : Int) ∧ Hid (∀ j, j < k → s1B zs j = true) ∧ Below w.heap.size w wr) (fun i _ => n - (intOf i).toNat)
      case atStart => exact ⟨0, Nat.zero_le _, rfl, Lib.hid (fun j hj => absurd hj (Nat.not_lt_zero _)), hB0⟩
      case round =>
        clear hB0
        obtain ⟨k, hk, rfl, HS, hB⟩ := hrel
        have hR : RSS wr A n zs := HR0.out.below hB
        by_cases hlt : k < n
        · have hkl : k < zs.length := by have := HL.out; omega
          obtain ⟨ad, Ai, ci, rfl, hab, hc, hr⟩ := hR.at_ hlt
          have hent : zs[k]?.getD [] = ent zs k := rfl
          rw [hent] at hc hr
          have HCk := Lib.hid (sg_len HC.out hkl).1
          have HNO := Lib.hid (sgS_no1 hkl)
          have HSk : Hid (s1B zs k = ((decide (k = 0) || lexB (ent zs (k - 1)) (ent zs k)) && decide (0 ≤ fndI zs (tuL (ent zs k))))) := rfl
          have hle : (ent zs k).length ≤ 1048576 := HLL.out _ (ent_mem hkl)
          clear hent hab hkl
          have tok1 : True := trivial
          have tok2 : True := trivial
          -- WALK
          by_cases hk0 : k = 0
          · have hgz : ¬ (0 < k) := by omega
            have HK0 := Lib.hid hk0
            clear hk0
            go_wp2
            refine wp_region_any (by kernel_rfl) ?_
            refine wpAny_take (i := 0) (v := .int .i64 (k : Int)) rfl (by kernel_rfl) (by kernel_rfl) (by kernel_rfl) (fun _ _ _ h => h) (Or.inl ⟨by kernel_rfl, fun w => by go_simp⟩) ?_
            refine wpAny_take (i := 1) (v := .bool false) rfl (by kernel_rfl) (by kernel_rfl) (by kernel_rfl) (fun _ _ _ h => h) (Or.inl ⟨by kernel_rfl, fun w => by go_simp⟩) ?_
            refine wpAny_take (i := 2) (v := .bool false) rfl (by kernel_rfl) (by kernel_rfl) (by kernel_rfl) (fun _ _ _ h => h) (Or.inl ⟨by kernel_rfl, fun w => by go_simp⟩) ?_
            refine wpAny_take (i := 3) (v := undef) rfl (by kernel_rfl) (by kernel_rfl) (by kernel_rfl) (fun _ _ _ h => h) (Or.inr ⟨by kernel_rfl, rfl⟩) ?_
            refine wpAny_take (i := 4) (v := undef) rfl (by kernel_rfl) (by kernel_rfl) (by kernel_rfl) (fun _ _ _ h => h) (Or.inr ⟨by kernel_rfl, rfl⟩) ?_
            refine wpAny_take (i := 5) (v := undef) rfl (by kernel_rfl) (by kernel_rfl) (by kernel_rfl) (fun _ _ _ h => h) (Or.inr ⟨by kernel_rfl, rfl⟩) ?_
            refine wpAny_take (i := 6) (v := undef) rfl (by kernel_rfl) (by kernel_rfl) (by kernel_rfl) (fun _ _ _ h => h) (Or.inr ⟨by kernel_rfl, rfl⟩) ?_
            refine wpAny_take (i := 7) (v := undef) rfl (by kernel_rfl) (by kernel_rfl) (by kernel_rfl) (fun _ _ _ h => h) (Or.inr ⟨by kernel_rfl, rfl⟩) ?_
            refine wpAny_take (i := 8) (v := undef) rfl (by kernel_rfl) (by kernel_rfl) (by kernel_rfl) (fun _ _ _ h => h) (Or.inr ⟨by kernel_rfl, rfl⟩) ?_
            refine wpAny_take (i := 9) (v := undef) rfl (by kernel_rfl) (by kernel_rfl) (by kernel_rfl) (fun _ _ _ h => h) (Or.inr ⟨by kernel_rfl, rfl⟩) ?_
            refine wpAny_take (i := 10) (v := undef) rfl (by kernel_rfl) (by kernel_rfl) (by kernel_rfl) (fun _ _ _ h => h) (Or.inr ⟨by kernel_rfl, rfl⟩) ?_
            refine wpAny_take (i := 11) (v := undef) rfl (by kernel_rfl) (by kernel_rfl) (by kernel_rfl) (fun _ _ _ h => h) (Or.inr ⟨by kernel_rfl, rfl⟩) ?_
            refine wpAny_take (i := 12) (v := undef) rfl (by kernel_rfl) (by kernel_rfl) (by kernel_rfl) (fun _ _ _ h => h) (Or.inr ⟨by kernel_rfl, rfl⟩) ?_
            refine wpAny_take (i := 13) (v := undef) rfl (by kernel_rfl) (by kernel_rfl) (by kernel_rfl) (fun _ _ _ h => h) (Or.inr ⟨by kernel_rfl, rfl⟩) ?_
            refine wpAny_take (i := 14) (v := .bool false) rfl (by kernel_rfl) (by kernel_rfl) (by kernel_rfl) (fun _ _ _ h => h) (Or.inl ⟨by kernel_rfl, fun w => by go_simp⟩) ?_
            refine wpAny_take (i := 15) (v := .bool false) rfl (by kernel_rfl) (by kernel_rfl) (by kernel_rfl) (fun _ _ _ h => h) (Or.inl ⟨by kernel_rfl, fun w => by go_simp⟩) ?_
            refine wpAny_take (i := 16) (v := .slice (some ad) n c) rfl (by kernel_rfl) (by kernel_rfl) (by kernel_rfl) (fun _ _ _ h => h) (Or.inl ⟨by kernel_rfl, fun w => by go_simp⟩) ?_
            refine wpAny_take (i := 17) (v := .slice (some ad) n c) rfl (by kernel_rfl) (by kernel_rfl) (by kernel_rfl) (fun _ _ _ h => h) (Or.inl ⟨by kernel_rfl, fun w => by go_simp⟩) ?_
            refine wpAny_take (i := 18) (v := .int .i64 (k : Int)) rfl (by kernel_rfl) (by kernel_rfl) (by kernel_rfl) (fun _ _ _ h => h) (Or.inl ⟨by kernel_rfl, fun w => by go_simp⟩) ?_
            refine wpAny_take (i := 19) (v := .pointer (some (ad.add k))) rfl (by kernel_rfl) (by kernel_rfl) (by kernel_rfl) (fun _ _ _ h => h) (Or.inl ⟨by kernel_rfl, fun w => by go_simp⟩) ?_
            refine wpAny_ready (rs := [20]) (by kernel_rfl) (by simp) ?_
            refine AllReady.cons (o := _) (by rfl) (fun K hK => ?_) AllReady.nil
            go_simp
            refine hK _ _ ?_
            clear hK K
            refine wpAny_ready (rs := [21]) (by kernel_rfl) (by simp) ?_
            refine AllReady.cons (o := _) (by rfl) (fun K hK => ?_) AllReady.nil
            go_simp
            refine (l1Tu_any _ _ _ _ _ ?_ HCk.out).mono ?_
            · exact hr.heap rfl
            rintro e W1 ⟨v, rfl, hown, hb1⟩
            have hB1 := bel_keep hb1 hB rfl rfl rfl rfl hB.size
            have hR1 := hR.below (show Below wr.heap.size wr W1 from ⟨hb1.os, hb1.tape, hb1.output, hb1.size, hb1.block⟩)
            obtain ⟨B1, c1, rfl⟩ := own_slice hown
            have hr1 := RI.of_own hown
            clear hown hb1
            refine hK _ _ ?_
            clear hK K
            refine wpAny_ready (rs := [22]) (by kernel_rfl) (by simp) ?_
            refine AllReady.cons (o := _) (by rfl) (fun K hK => ?_) AllReady.nil
            go_simp
            refine (l3Find_any _ _ _ _ _ _ zs (tuL (ent zs k)) _ ?_ ?_ hn HLL.out).mono ?_
            · exact hR1
            · exact hr1
            rintro e W2 ⟨rfl, q2, rfl⟩
            refine hK _ _ ?_
            clear hK K hR1 hr1
            by_cases hf : fndI zs (tuL (ent zs k)) < 0
            · have HF := Lib.hid (HNO.out (s1_no hf))
              obtain ⟨y, hy⟩ : ∃ y, fndI zs (tuL (ent zs k)) = y := ⟨_, rfl⟩
              rw [hy] at hf ⊢
              clear hy
              refine wpAny_take (i := 23) (v := .bool true) rfl (by kernel_rfl) (by kernel_rfl) (by kernel_rfl) (fun _ _ _ h => h) (Or.inl ⟨by kernel_rfl, fun w => by go_simp⟩) ?_
              refine wpAny_take (i := 24) (v := .bool true) rfl (by kernel_rfl) (by kernel_rfl) (by kernel_rfl) (fun _ _ _ h => h) (Or.inl ⟨by kernel_rfl, fun w => by go_simp⟩) ?_
              try go_simp
              refine wpAny_done (by kernel_rfl) ?_ _
              go_wp2
              go_ret
              exact ⟨by rw [HF.out]; rfl, below_drewN hB1 _⟩
            · have HT1 := Lib.hid (s1_yes (.inl HK0.out) hf)
              obtain ⟨y, hy⟩ : ∃ y, fndI zs (tuL (ent zs k)) = y := ⟨_, rfl⟩
              rw [hy] at hf ⊢
              clear hy
              refine wpAny_take (i := 23) (v := .bool false) rfl (by kernel_rfl) (by kernel_rfl) (by kernel_rfl) (fun _ _ _ h => h) (Or.inl ⟨by kernel_rfl, fun w => by go_simp⟩) ?_
              refine wpAny_take (i := 24) (v := .bool false) rfl (by kernel_rfl) (by kernel_rfl) (by kernel_rfl) (fun _ _ _ h => h) (Or.inl ⟨by kernel_rfl, fun w => by go_simp⟩) ?_
              try go_simp
              refine wpAny_done (by kernel_rfl) ?_ _
              go_wp2
              go_roundw
              case rel => exact ⟨k + 1, by omega, by go_num, upto_step HS.out HT1.out, below_drewN hB1 _⟩
              case measure => simp [intOf]; omega
          · obtain ⟨p, hp⟩ : ∃ p, k = p + 1 := ⟨k - 1, by omega⟩
            have hpn : p < n := by omega
            obtain ⟨ad', Ap, cp, he, hab', hcp, hrp⟩ := hR.at_ hpn
            obtain rfl := Option.some.inj he
            have hentp : zs[p]?.getD [] = ent zs p := rfl
            rw [hentp] at hcp hrp
            have hlp : (ent zs p).length ≤ 1048576 := HLL.out _ (ent_mem (by have := HL.out; omega))
            have hgz : 0 < k := by omega
            have hpq : (k : Int) - 1 = (p : Int) := by omega
            have hpn' : (p : Int) < (n : Int) := by omega
            have hp6 : p ≤ 1048576 := by omega
            have hw1 := (wrap_small hp6).1
            have hw2 := (wrap_small hp6).2
            have HP : Hid (k - 1 = p) := by show _ = _; omega
            have HN0 := Lib.hid hk0
            clear he hab' hentp hp hk0
            go_wp2
            refine wp_region_any (by kernel_rfl) ?_
            refine wpAny_take (i := 0) (v := .int .i64 (k : Int)) rfl (by kernel_rfl) (by kernel_rfl) (by kernel_rfl) (fun _ _ _ h => h) (Or.inl ⟨by kernel_rfl, fun w => by go_simp⟩) ?_
            refine wpAny_take (i := 1) (v := .bool true) rfl (by kernel_rfl) (by kernel_rfl) (by kernel_rfl) (fun _ _ _ h => h) (Or.inl ⟨by kernel_rfl, fun w => by go_simp⟩) ?_
            refine wpAny_take (i := 2) (v := .bool true) rfl (by kernel_rfl) (by kernel_rfl) (by kernel_rfl) (fun _ _ _ h => h) (Or.inl ⟨by kernel_rfl, fun w => by go_simp⟩) ?_
            refine wpAny_take (i := 3) (v := .slice (some ad) n c) rfl (by kernel_rfl) (by kernel_rfl) (by kernel_rfl) (fun _ _ _ h => h) (Or.inl ⟨by kernel_rfl, fun w => by go_simp⟩) ?_
            refine wpAny_take (i := 4) (v := .int .i64 (k : Int)) rfl (by kernel_rfl) (by kernel_rfl) (by kernel_rfl) (fun _ _ _ h => h) (Or.inl ⟨by kernel_rfl, fun w => by go_simp⟩) ?_
            refine wpAny_take (i := 5) (v := .int .i64 (p : Int)) rfl (by kernel_rfl) (by kernel_rfl) (by kernel_rfl) (fun _ _ _ h => h) (Or.inl ⟨by kernel_rfl, fun w => by go_simp⟩) ?_
            refine wpAny_take (i := 6) (v := .pointer (some (ad.add p))) rfl (by kernel_rfl) (by kernel_rfl) (by kernel_rfl) (fun _ _ _ h => h) (Or.inl ⟨by kernel_rfl, fun w => by go_simp⟩) ?_
            refine wpAny_take (i := 8) (v := .slice (some ad) n c) rfl (by kernel_rfl) (by kernel_rfl) (by kernel_rfl) (fun _ _ _ h => h) (Or.inl ⟨by kernel_rfl, fun w => by go_simp⟩) ?_
            refine wpAny_take (i := 9) (v := .int .i64 (k : Int)) rfl (by kernel_rfl) (by kernel_rfl) (by kernel_rfl) (fun _ _ _ h => h) (Or.inl ⟨by kernel_rfl, fun w => by go_simp⟩) ?_
            refine wpAny_take (i := 10) (v := .pointer (some (ad.add k))) rfl (by kernel_rfl) (by kernel_rfl) (by kernel_rfl) (fun _ _ _ h => h) (Or.inl ⟨by kernel_rfl, fun w => by go_simp⟩) ?_
            clear hgz hpq hpn' hp6 hw1 hw2 hpn h4
            refine wpAny_ready (rs := [7, 11]) (by kernel_rfl) (by simp) ?_
            refine AllReady.cons (o := _) (by rfl) (fun K hK => ?_) ?_
            · go_simp
              refine hK _ _ ?_
              clear hK K
              refine wpAny_ready (rs := [11]) (by kernel_rfl) (by simp) ?_
              refine AllReady.cons (o := _) (by rfl) (fun K hK => ?_) AllReady.nil
              go_simp
              refine hK _ _ ?_
              clear hK K
              refine wpAny_ready (rs := [12]) (by kernel_rfl) (by simp) ?_
              refine AllReady.cons (o := _) (by rfl) (fun K hK => ?_) AllReady.nil
              go_simp
              refine (l3Less_any _ _ _ _ _ _ (ent zs p) (ent zs k) _ ?_ ?_ hlp).mono ?_
              · exact hrp.heap rfl
              · exact hr.heap rfl
              rintro e W0 ⟨rfl, q0, rfl⟩
              cases hx : lexB (ent zs p) (ent zs k)
              · refine hK _ _ ?_
                clear hK K
                have HF := Lib.hid (HNO.out (s1_unsorted HN0.out (by rw [HP.out]; exact hx)))
                clear hx
                refine wpAny_take (i := 13) (v := .bool true) rfl (by kernel_rfl) (by kernel_rfl) (by kernel_rfl) (fun _ _ _ h => h) (Or.inl ⟨by kernel_rfl, fun w => by go_simp⟩) ?_
                refine wpAny_take (i := 14) (v := .bool true) rfl (by kernel_rfl) (by kernel_rfl) (by kernel_rfl) (fun _ _ _ h => h) (Or.inl ⟨by kernel_rfl, fun w => by go_simp⟩) ?_
                refine wpAny_take (i := 15) (v := .bool true) rfl (by kernel_rfl) (by kernel_rfl) (by kernel_rfl) (fun _ _ _ h => h) (Or.inl ⟨by kernel_rfl, fun w => by go_simp⟩) ?_
                refine wpAny_take (i := 16) (v := undef) rfl (by kernel_rfl) (by kernel_rfl) (by kernel_rfl) (fun _ _ _ h => h) (Or.inr ⟨by kernel_rfl, rfl⟩) ?_
                refine wpAny_take (i := 17) (v := undef) rfl (by kernel_rfl) (by kernel_rfl) (by kernel_rfl) (fun _ _ _ h => h) (Or.inr ⟨by kernel_rfl, rfl⟩) ?_
                refine wpAny_take (i := 18) (v := undef) rfl (by kernel_rfl) (by kernel_rfl) (by kernel_rfl) (fun _ _ _ h => h) (Or.inr ⟨by kernel_rfl, rfl⟩) ?_
                refine wpAny_take (i := 19) (v := undef) rfl (by kernel_rfl) (by kernel_rfl) (by kernel_rfl) (fun _ _ _ h => h) (Or.inr ⟨by kernel_rfl, rfl⟩) ?_
                refine wpAny_take (i := 20) (v := undef) rfl (by kernel_rfl) (by kernel_rfl) (by kernel_rfl) (fun _ _ _ h => h) (Or.inr ⟨by kernel_rfl, rfl⟩) ?_
                refine wpAny_take (i := 21) (v := undef) rfl (by kernel_rfl) (by kernel_rfl) (by kernel_rfl) (fun _ _ _ h => h) (Or.inr ⟨by kernel_rfl, rfl⟩) ?_
                refine wpAny_take (i := 22) (v := undef) rfl (by kernel_rfl) (by kernel_rfl) (by kernel_rfl) (fun _ _ _ h => h) (Or.inr ⟨by kernel_rfl, rfl⟩) ?_
                refine wpAny_take (i := 23) (v := undef) rfl (by kernel_rfl) (by kernel_rfl) (by kernel_rfl) (fun _ _ _ h => h) (Or.inr ⟨by kernel_rfl, rfl⟩) ?_
                refine wpAny_take (i := 24) (v := .bool true) rfl (by kernel_rfl) (by kernel_rfl) (by kernel_rfl) (fun _ _ _ h => h) (Or.inl ⟨by kernel_rfl, fun w => by go_simp⟩) ?_
                try go_simp
                refine wpAny_done (by kernel_rfl) ?_ _
                go_wp2
                go_ret
                exact ⟨by rw [HF.out]; rfl, ⟨hB.os, hB.tape, hB.output, hB.size, hB.block⟩⟩
              · refine hK _ _ ?_
                clear hK K
                have HX : Hid (lexB (ent zs (k - 1)) (ent zs k) = true) := by show _ = _; rw [HP.out]; exact hx
                clear hx
                refine wpAny_take (i := 13) (v := .bool false) rfl (by kernel_rfl) (by kernel_rfl) (by kernel_rfl) (fun _ _ _ h => h) (Or.inl ⟨by kernel_rfl, fun w => by go_simp⟩) ?_
                refine wpAny_take (i := 14) (v := .bool false) rfl (by kernel_rfl) (by kernel_rfl) (by kernel_rfl) (fun _ _ _ h => h) (Or.inl ⟨by kernel_rfl, fun w => by go_simp⟩) ?_
                refine wpAny_take (i := 15) (v := .bool false) rfl (by kernel_rfl) (by kernel_rfl) (by kernel_rfl) (fun _ _ _ h => h) (Or.inl ⟨by kernel_rfl, fun w => by go_simp⟩) ?_
                refine wpAny_take (i := 16) (v := .slice (some ad) n c) rfl (by kernel_rfl) (by kernel_rfl) (by kernel_rfl) (fun _ _ _ h => h) (Or.inl ⟨by kernel_rfl, fun w => by go_simp⟩) ?_
                refine wpAny_take (i := 17) (v := .slice (some ad) n c) rfl (by kernel_rfl) (by kernel_rfl) (by kernel_rfl) (fun _ _ _ h => h) (Or.inl ⟨by kernel_rfl, fun w => by go_simp⟩) ?_
                refine wpAny_take (i := 18) (v := .int .i64 (k : Int)) rfl (by kernel_rfl) (by kernel_rfl) (by kernel_rfl) (fun _ _ _ h => h) (Or.inl ⟨by kernel_rfl, fun w => by go_simp⟩) ?_
                refine wpAny_take (i := 19) (v := .pointer (some (ad.add k))) rfl (by kernel_rfl) (by kernel_rfl) (by kernel_rfl) (fun _ _ _ h => h) (Or.inl ⟨by kernel_rfl, fun w => by go_simp⟩) ?_
                refine wpAny_ready (rs := [20]) (by kernel_rfl) (by simp) ?_
                refine AllReady.cons (o := _) (by rfl) (fun K hK => ?_) AllReady.nil
                go_simp
                refine hK _ _ ?_
                clear hK K
                refine wpAny_ready (rs := [21]) (by kernel_rfl) (by simp) ?_
                refine AllReady.cons (o := _) (by rfl) (fun K hK => ?_) AllReady.nil
                go_simp
                refine (l1Tu_any _ _ _ _ _ ?_ HCk.out).mono ?_
                · exact hr.heap rfl
                rintro e W1 ⟨v, rfl, hown, hb1⟩
                have hB1 := bel_keep hb1 hB rfl rfl rfl rfl hB.size
                have hR1 := hR.below (show Below wr.heap.size wr W1 from ⟨hb1.os, hb1.tape, hb1.output, hb1.size, hb1.block⟩)
                obtain ⟨B1, c1, rfl⟩ := own_slice hown
                have hr1 := RI.of_own hown
                clear hown hb1
                refine hK _ _ ?_
                clear hK K
                refine wpAny_ready (rs := [22]) (by kernel_rfl) (by simp) ?_
                refine AllReady.cons (o := _) (by rfl) (fun K hK => ?_) AllReady.nil
                go_simp
                refine (l3Find_any _ _ _ _ _ _ zs (tuL (ent zs k)) _ ?_ ?_ hn HLL.out).mono ?_
                · exact hR1
                · exact hr1
                rintro e W2 ⟨rfl, q2, rfl⟩
                refine hK _ _ ?_
                clear hK K hR1 hr1
                by_cases hf : fndI zs (tuL (ent zs k)) < 0
                · have HF := Lib.hid (HNO.out (s1_no hf))
                  obtain ⟨y, hy⟩ : ∃ y, fndI zs (tuL (ent zs k)) = y := ⟨_, rfl⟩
                  rw [hy] at hf ⊢
                  clear hy
                  refine wpAny_take (i := 23) (v := .bool true) rfl (by kernel_rfl) (by kernel_rfl) (by kernel_rfl) (fun _ _ _ h => h) (Or.inl ⟨by kernel_rfl, fun w => by go_simp⟩) ?_
                  refine wpAny_take (i := 24) (v := .bool true) rfl (by kernel_rfl) (by kernel_rfl) (by kernel_rfl) (fun _ _ _ h => h) (Or.inl ⟨by kernel_rfl, fun w => by go_simp⟩) ?_
                  try go_simp
                  refine wpAny_done (by kernel_rfl) ?_ _
                  go_wp2
                  go_ret
                  exact ⟨by rw [HF.out]; rfl, below_drewN hB1 _⟩
                · have HT1 := Lib.hid (s1_yes (.inr HX.out) hf)
                  obtain ⟨y, hy⟩ : ∃ y, fndI zs (tuL (ent zs k)) = y := ⟨_, rfl⟩
                  rw [hy] at hf ⊢
                  clear hy
                  refine wpAny_take (i := 23) (v := .bool false) rfl (by kernel_rfl) (by kernel_rfl) (by kernel_rfl) (fun _ _ _ h => h) (Or.inl ⟨by kernel_rfl, fun w => by go_simp⟩) ?_
                  refine wpAny_take (i := 24) (v := .bool false) rfl (by kernel_rfl) (by kernel_rfl) (by kernel_rfl) (fun _ _ _ h => h) (Or.inl ⟨by kernel_rfl, fun w => by go_simp⟩) ?_
                  try go_simp
                  refine wpAny_done (by kernel_rfl) ?_ _
                  go_wp2
                  go_roundw
                  case rel => exact ⟨k + 1, by omega, by go_num, upto_step HS.out HT1.out, below_drewN hB1 _⟩
                  case measure => simp [intOf]; omega
            refine AllReady.cons (o := _) (by rfl) (fun K hK => ?_) AllReady.nil
            go_simp
            refine hK _ _ ?_
            clear hK K
            refine wpAny_ready (rs := [7]) (by kernel_rfl) (by simp) ?_
            refine AllReady.cons (o := _) (by rfl) (fun K hK => ?_) AllReady.nil
            go_simp
            refine hK _ _ ?_
            clear hK K
            refine wpAny_ready (rs := [12]) (by kernel_rfl) (by simp) ?_
            refine AllReady.cons (o := _) (by rfl) (fun K hK => ?_) AllReady.nil
            go_simp
            refine (l3Less_any _ _ _ _ _ _ (ent zs p) (ent zs k) _ ?_ ?_ hlp).mono ?_
            · exact hrp.heap rfl
            · exact hr.heap rfl
            rintro e W0 ⟨rfl, q0, rfl⟩
            cases hx : lexB (ent zs p) (ent zs k)
            · refine hK _ _ ?_
              clear hK K
              have HF := Lib.hid (HNO.out (s1_unsorted HN0.out (by rw [HP.out]; exact hx)))
              clear hx
              refine wpAny_take (i := 13) (v := .bool true) rfl (by kernel_rfl) (by kernel_rfl) (by kernel_rfl) (fun _ _ _ h => h) (Or.inl ⟨by kernel_rfl, fun w => by go_simp⟩) ?_
              refine wpAny_take (i := 14) (v := .bool true) rfl (by kernel_rfl) (by kernel_rfl) (by kernel_rfl) (fun _ _ _ h => h) (Or.inl ⟨by kernel_rfl, fun w => by go_simp⟩) ?_
              refine wpAny_take (i := 15) (v := .bool true) rfl (by kernel_rfl) (by kernel_rfl) (by kernel_rfl) (fun _ _ _ h => h) (Or.inl ⟨by kernel_rfl, fun w => by go_simp⟩) ?_
              refine wpAny_take (i := 16) (v := undef) rfl (by kernel_rfl) (by kernel_rfl) (by kernel_rfl) (fun _ _ _ h => h) (Or.inr ⟨by kernel_rfl, rfl⟩) ?_
              refine wpAny_take (i := 17) (v := undef) rfl (by kernel_rfl) (by kernel_rfl) (by kernel_rfl) (fun _ _ _ h => h) (Or.inr ⟨by kernel_rfl, rfl⟩) ?_
              refine wpAny_take (i := 18) (v := undef) rfl (by kernel_rfl) (by kernel_rfl) (by kernel_rfl) (fun _ _ _ h => h) (Or.inr ⟨by kernel_rfl, rfl⟩) ?_
              refine wpAny_take (i := 19) (v := undef) rfl (by kernel_rfl) (by kernel_rfl) (by kernel_rfl) (fun _ _ _ h => h) (Or.inr ⟨by kernel_rfl, rfl⟩) ?_
              refine wpAny_take (i := 20) (v := undef) rfl (by kernel_rfl) (by kernel_rfl) (by kernel_rfl) (fun _ _ _ h => h) (Or.inr ⟨by kernel_rfl, rfl⟩) ?_
              refine wpAny_take (i := 21) (v := undef) rfl (by kernel_rfl) (by kernel_rfl) (by kernel_rfl) (fun _ _ _ h => h) (Or.inr ⟨by kernel_rfl, rfl⟩) ?_
              refine wpAny_take (i := 22) (v := undef) rfl (by kernel_rfl) (by kernel_rfl) (by kernel_rfl) (fun _ _ _ h => h) (Or.inr ⟨by kernel_rfl, rfl⟩) ?_
              refine wpAny_take (i := 23) (v := undef) rfl (by kernel_rfl) (by kernel_rfl) (by kernel_rfl) (fun _ _ _ h => h) (Or.inr ⟨by kernel_rfl, rfl⟩) ?_
              refine wpAny_take (i := 24) (v := .bool true) rfl (by kernel_rfl) (by kernel_rfl) (by kernel_rfl) (fun _ _ _ h => h) (Or.inl ⟨by kernel_rfl, fun w => by go_simp⟩) ?_
              try go_simp
              refine wpAny_done (by kernel_rfl) ?_ _
              go_wp2
              go_ret
              exact ⟨by rw [HF.out]; rfl, ⟨hB.os, hB.tape, hB.output, hB.size, hB.block⟩⟩
            · refine hK _ _ ?_
              clear hK K
              have HX : Hid (lexB (ent zs (k - 1)) (ent zs k) = true) := by show _ = _; rw [HP.out]; exact hx
              clear hx
              refine wpAny_take (i := 13) (v := .bool false) rfl (by kernel_rfl) (by kernel_rfl) (by kernel_rfl) (fun _ _ _ h => h) (Or.inl ⟨by kernel_rfl, fun w => by go_simp⟩) ?_
              refine wpAny_take (i := 14) (v := .bool false) rfl (by kernel_rfl) (by kernel_rfl) (by kernel_rfl) (fun _ _ _ h => h) (Or.inl ⟨by kernel_rfl, fun w => by go_simp⟩) ?_
              refine wpAny_take (i := 15) (v := .bool false) rfl (by kernel_rfl) (by kernel_rfl) (by kernel_rfl) (fun _ _ _ h => h) (Or.inl ⟨by kernel_rfl, fun w => by go_simp⟩) ?_
              refine wpAny_take (i := 16) (v := .slice (some ad) n c) rfl (by kernel_rfl) (by kernel_rfl) (by kernel_rfl) (fun _ _ _ h => h) (Or.inl ⟨by kernel_rfl, fun w => by go_simp⟩) ?_
              refine wpAny_take (i := 17) (v := .slice (some ad) n c) rfl (by kernel_rfl) (by kernel_rfl) (by kernel_rfl) (fun _ _ _ h => h) (Or.inl ⟨by kernel_rfl, fun w => by go_simp⟩) ?_
              refine wpAny_take (i := 18) (v := .int .i64 (k : Int)) rfl (by kernel_rfl) (by kernel_rfl) (by kernel_rfl) (fun _ _ _ h => h) (Or.inl ⟨by kernel_rfl, fun w => by go_simp⟩) ?_
              refine wpAny_take (i := 19) (v := .pointer (some (ad.add k))) rfl (by kernel_rfl) (by kernel_rfl) (by kernel_rfl) (fun _ _ _ h => h) (Or.inl ⟨by kernel_rfl, fun w => by go_simp⟩) ?_
              refine wpAny_ready (rs := [20]) (by kernel_rfl) (by simp) ?_
              refine AllReady.cons (o := _) (by rfl) (fun K hK => ?_) AllReady.nil
              go_simp
              refine hK _ _ ?_
              clear hK K
              refine wpAny_ready (rs := [21]) (by kernel_rfl) (by simp) ?_
              refine AllReady.cons (o := _) (by rfl) (fun K hK => ?_) AllReady.nil
              go_simp
              refine (l1Tu_any _ _ _ _ _ ?_ HCk.out).mono ?_
              · exact hr.heap rfl
              rintro e W1 ⟨v, rfl, hown, hb1⟩
              have hB1 := bel_keep hb1 hB rfl rfl rfl rfl hB.size
              have hR1 := hR.below (show Below wr.heap.size wr W1 from ⟨hb1.os, hb1.tape, hb1.output, hb1.size, hb1.block⟩)
              obtain ⟨B1, c1, rfl⟩ := own_slice hown
              have hr1 := RI.of_own hown
              clear hown hb1
              refine hK _ _ ?_
              clear hK K
              refine wpAny_ready (rs := [22]) (by kernel_rfl) (by simp) ?_
              refine AllReady.cons (o := _) (by rfl) (fun K hK => ?_) AllReady.nil
              go_simp
              refine (l3Find_any _ _ _ _ _ _ zs (tuL (ent zs k)) _ ?_ ?_ hn HLL.out).mono ?_
              · exact hR1
              · exact hr1
              rintro e W2 ⟨rfl, q2, rfl⟩
              refine hK _ _ ?_
              clear hK K hR1 hr1
              by_cases hf : fndI zs (tuL (ent zs k)) < 0
              · have HF := Lib.hid (HNO.out (s1_no hf))
                obtain ⟨y, hy⟩ : ∃ y, fndI zs (tuL (ent zs k)) = y := ⟨_, rfl⟩
                rw [hy] at hf ⊢
                clear hy
                refine wpAny_take (i := 23) (v := .bool true) rfl (by kernel_rfl) (by kernel_rfl) (by kernel_rfl) (fun _ _ _ h => h) (Or.inl ⟨by kernel_rfl, fun w => by go_simp⟩) ?_
                refine wpAny_take (i := 24) (v := .bool true) rfl (by kernel_rfl) (by kernel_rfl) (by kernel_rfl) (fun _ _ _ h => h) (Or.inl ⟨by kernel_rfl, fun w => by go_simp⟩) ?_
                try go_simp
                refine wpAny_done (by kernel_rfl) ?_ _
                go_wp2
                go_ret
                exact ⟨by rw [HF.out]; rfl, below_drewN hB1 _⟩
              · have HT1 := Lib.hid (s1_yes (.inr HX.out) hf)
                obtain ⟨y, hy⟩ : ∃ y, fndI zs (tuL (ent zs k)) = y := ⟨_, rfl⟩
                rw [hy] at hf ⊢
                clear hy
                refine wpAny_take (i := 23) (v := .bool false) rfl (by kernel_rfl) (by kernel_rfl) (by kernel_rfl) (fun _ _ _ h => h) (Or.inl ⟨by kernel_rfl, fun w => by go_simp⟩) ?_
                refine wpAny_take (i := 24) (v := .bool false) rfl (by kernel_rfl) (by kernel_rfl) (by kernel_rfl) (fun _ _ _ h => h) (Or.inl ⟨by kernel_rfl, fun w => by go_simp⟩) ?_
                try go_simp
                refine wpAny_done (by kernel_rfl) ?_ _
                go_wp2
                go_roundw
                case rel => exact ⟨k + 1, by omega, by go_num, upto_step HS.out HT1.out, below_drewN hB1 _⟩
                case measure => simp [intOf]; omega
        · obtain rfl : n = k := by omega
          clear hR hlt hk
          go_wp2
          go_loopw [4] (fun s wr => ∃ i : Nat, i ≤ n ∧ s = .int .i64 (i : Int) ∧ Hid (∀ j, j < i → ∀ l, l < n → s2B zs j l = true) ∧ Below w.heap.size w wr) (fun s _ => n - (intOf s).toNat)
          case atStart => exact ⟨0, Nat.zero_le _, rfl, Lib.hid (fun j hj => absurd hj (Nat.not_lt_zero _)), hB⟩
          case round =>
            clear hB
            obtain ⟨i, hi, rfl, HI, hB⟩ := hrel
            by_cases hlti : i < n
            · have hil : i < zs.length := by have := HL.out; omega
              go_wp2
              go_loopw [5] (fun s wq => ∃ k : Nat, k ≤ n ∧ s = .int .i64 (k : Int) ∧ Hid (∀ j, j < k → s2B zs i j = true) ∧ Below w.heap.size w wq) (fun s _ => n - (intOf s).toNat)
              case atStart => exact ⟨0, Nat.zero_le _, rfl, Lib.hid (fun j hj => absurd hj (Nat.not_lt_zero _)), hB⟩
              case round =>
                clear hB
                obtain ⟨k, hk, rfl, HS2, hB⟩ := hrel
                have hR : RSS wr A n zs := HR0.out.below hB
                by_cases hltk : k < n
                · have hkl : k < zs.length := by have := HL.out; omega
                  obtain ⟨ad, Ai, ci, rfl, hab, hci, hri⟩ := hR.at_ hlti
                  obtain ⟨ad', Ak, ck, he, hab', hck, hrk⟩ := hR.at_ hltk
                  obtain rfl := Option.some.inj he
                  have hei : zs[i]?.getD [] = ent zs i := rfl
                  have hek : zs[k]?.getD [] = ent zs k := rfl
                  have e1 := sg_len HC.out hil
                  have e2 := sg_len HC.out hkl
                  rw [hei, e1.2] at hci hri
                  rw [hek, e2.2] at hck hrk
                  have HPP := Lib.hid (isP_of e1.1 e2.1 (e1.2.trans e2.2.symm))
                  have HNO := Lib.hid (sgS_no2 hil hkl)
                  clear hei hek e1 e2 he hab hab' hkl
                  generalize (ent zs 0).length = l0 at *
                  go_wp2
                  refine wp_region_any (by kernel_rfl) ?_
                  refine wpAny_take (i := 0) (v := .slice (some ad) n c) rfl (by kernel_rfl) (by kernel_rfl) (by kernel_rfl) (fun _ _ _ h => h) (Or.inl ⟨by kernel_rfl, fun w => by go_simp⟩) ?_
                  refine wpAny_take (i := 1) (v := .slice (some ad) n c) rfl (by kernel_rfl) (by kernel_rfl) (by kernel_rfl) (fun _ _ _ h => h) (Or.inl ⟨by kernel_rfl, fun w => by go_simp⟩) ?_
                  refine wpAny_take (i := 2) (v := .int .i64 (i : Int)) rfl (by kernel_rfl) (by kernel_rfl) (by kernel_rfl) (fun _ _ _ h => h) (Or.inl ⟨by kernel_rfl, fun w => by go_simp⟩) ?_
                  refine wpAny_take (i := 3) (v := .pointer (some (ad.add i))) rfl (by kernel_rfl) (by kernel_rfl) (by kernel_rfl) (fun _ _ _ h => h) (Or.inl ⟨by kernel_rfl, fun w => by go_simp⟩) ?_
                  refine wpAny_take (i := 5) (v := .slice (some ad) n c) rfl (by kernel_rfl) (by kernel_rfl) (by kernel_rfl) (fun _ _ _ h => h) (Or.inl ⟨by kernel_rfl, fun w => by go_simp⟩) ?_
                  refine wpAny_take (i := 6) (v := .int .i64 (k : Int)) rfl (by kernel_rfl) (by kernel_rfl) (by kernel_rfl) (fun _ _ _ h => h) (Or.inl ⟨by kernel_rfl, fun w => by go_simp⟩) ?_
                  refine wpAny_take (i := 7) (v := .pointer (some (ad.add k))) rfl (by kernel_rfl) (by kernel_rfl) (by kernel_rfl) (fun _ _ _ h => h) (Or.inl ⟨by kernel_rfl, fun w => by go_simp⟩) ?_
                  refine wpAny_ready (rs := [4, 8]) (by kernel_rfl) (by simp) ?_
                  refine AllReady.cons (o := _) (by rfl) (fun K hK => ?_) ?_
                  · go_simp
                    refine hK _ _ ?_
                    clear hK K
                    refine wpAny_ready (rs := [8]) (by kernel_rfl) (by simp) ?_
                    refine AllReady.cons (o := _) (by rfl) (fun K hK => ?_) AllReady.nil
                    go_simp
                    refine hK _ _ ?_
                    clear hK K
                    refine wpAny_ready (rs := [9]) (by kernel_rfl) (by simp) ?_
                    refine AllReady.cons (o := _) (by rfl) (fun K hK => ?_) AllReady.nil
                    go_simp
                    refine (l1Ti_any _ _ _ _ _ (ent zs i) (ent zs k) _ ?_ ?_ HPP.out).mono ?_
                    · exact hri.heap rfl
                    · exact hrk.heap rfl
                    rintro e W1 ⟨v, rfl, hown, hb1⟩
                    have hB1 := bel_keep hb1 hB rfl rfl rfl rfl hB.size
                    have hR1 := hR.below (show Below wr.heap.size wr W1 from ⟨hb1.os, hb1.tape, hb1.output, hb1.size, hb1.block⟩)
                    obtain ⟨B1, c1, rfl⟩ := own_slice hown
                    have hr1 := RI.of_own hown
                    clear hown hb1
                    refine hK _ _ ?_
                    clear hK K
                    refine wpAny_ready (rs := [10]) (by kernel_rfl) (by simp) ?_
                    refine AllReady.cons (o := _) (by rfl) (fun K hK => ?_) AllReady.nil
                    go_simp
                    refine (l3Find_any _ _ _ _ _ _ zs (tiL (ent zs i) (ent zs k)) _ ?_ ?_ hn HLL.out).mono ?_
                    · exact hR1
                    · exact hr1
                    rintro e W2 ⟨rfl, q2, rfl⟩
                    refine hK _ _ ?_
                    clear hK K hR1 hr1
                    by_cases hf : fndI zs (tiL (ent zs i) (ent zs k)) < 0
                    · have HF := Lib.hid (HNO.out (s2_no hf))
                      obtain ⟨y, hy⟩ : ∃ y, fndI zs (tiL (ent zs i) (ent zs k)) = y := ⟨_, rfl⟩
                      rw [hy] at hf ⊢
                      clear hy
                      refine wpAny_take (i := 11) (v := .bool true) rfl (by kernel_rfl) (by kernel_rfl) (by kernel_rfl) (fun _ _ _ h => h) (Or.inl ⟨by kernel_rfl, fun w => by go_simp⟩) ?_
                      try go_simp
                      refine wpAny_done (by kernel_rfl) ?_ _
                      go_wp2
                      go_ret
                      exact ⟨by rw [HF.out]; rfl, below_drewN hB1 _⟩
                    · have HT1 := Lib.hid (s2_yes hf)
                      obtain ⟨y, hy⟩ : ∃ y, fndI zs (tiL (ent zs i) (ent zs k)) = y := ⟨_, rfl⟩
                      rw [hy] at hf ⊢
                      clear hy
                      refine wpAny_take (i := 11) (v := .bool false) rfl (by kernel_rfl) (by kernel_rfl) (by kernel_rfl) (fun _ _ _ h => h) (Or.inl ⟨by kernel_rfl, fun w => by go_simp⟩) ?_
                      try go_simp
                      refine wpAny_done (by kernel_rfl) ?_ _
                      go_wp2
                      go_roundw
                      case rel => exact ⟨k + 1, by omega, by go_num, upto_step HS2.out HT1.out, below_drewN hB1 _⟩
                      case measure => simp [intOf]; omega
                  refine AllReady.cons (o := _) (by rfl) (fun K hK => ?_) AllReady.nil
                  go_simp
                  refine hK _ _ ?_
                  clear hK K
                  refine wpAny_ready (rs := [4]) (by kernel_rfl) (by simp) ?_
                  refine AllReady.cons (o := _) (by rfl) (fun K hK => ?_) AllReady.nil
                  go_simp
                  refine hK _ _ ?_
                  clear hK K
                  refine wpAny_ready (rs := [9]) (by kernel_rfl) (by simp) ?_
                  refine AllReady.cons (o := _) (by rfl) (fun K hK => ?_) AllReady.nil
                  go_simp
                  refine (l1Ti_any _ _ _ _ _ (ent zs i) (ent zs k) _ ?_ ?_ HPP.out).mono ?_
                  · exact hri.heap rfl
                  · exact hrk.heap rfl
                  rintro e W1 ⟨v, rfl, hown, hb1⟩
                  have hB1 := bel_keep hb1 hB rfl rfl rfl rfl hB.size
                  have hR1 := hR.below (show Below wr.heap.size wr W1 from ⟨hb1.os, hb1.tape, hb1.output, hb1.size, hb1.block⟩)
                  obtain ⟨B1, c1, rfl⟩ := own_slice hown
                  have hr1 := RI.of_own hown
                  clear hown hb1
                  refine hK _ _ ?_
                  clear hK K
                  refine wpAny_ready (rs := [10]) (by kernel_rfl) (by simp) ?_
                  refine AllReady.cons (o := _) (by rfl) (fun K hK => ?_) AllReady.nil
                  go_simp
                  refine (l3Find_any _ _ _ _ _ _ zs (tiL (ent zs i) (ent zs k)) _ ?_ ?_ hn HLL.out).mono ?_
                  · exact hR1
                  · exact hr1
                  rintro e W2 ⟨rfl, q2, rfl⟩
                  refine hK _ _ ?_
                  clear hK K hR1 hr1
                  by_cases hf : fndI zs (tiL (ent zs i) (ent zs k)) < 0
                  · have HF := Lib.hid (HNO.out (s2_no hf))
                    obtain ⟨y, hy⟩ : ∃ y, fndI zs (tiL (ent zs i) (ent zs k)) = y := ⟨_, rfl⟩
                    rw [hy] at hf ⊢
                    clear hy
                    refine wpAny_take (i := 11) (v := .bool true) rfl (by kernel_rfl) (by kernel_rfl) (by kernel_rfl) (fun _ _ _ h => h) (Or.inl ⟨by kernel_rfl, fun w => by go_simp⟩) ?_
                    try go_simp
                    refine wpAny_done (by kernel_rfl) ?_ _
                    go_wp2
                    go_ret
                    exact ⟨by rw [HF.out]; rfl, below_drewN hB1 _⟩
                  · have HT1 := Lib.hid (s2_yes hf)
                    obtain ⟨y, hy⟩ : ∃ y, fndI zs (tiL (ent zs i) (ent zs k)) = y := ⟨_, rfl⟩
                    rw [hy] at hf ⊢
                    clear hy
                    refine wpAny_take (i := 11) (v := .bool false) rfl (by kernel_rfl) (by kernel_rfl) (by kernel_rfl) (fun _ _ _ h => h) (Or.inl ⟨by kernel_rfl, fun w => by go_simp⟩) ?_
                    try go_simp
                    refine wpAny_done (by kernel_rfl) ?_ _
                    go_wp2
                    go_roundw
                    case rel => exact ⟨k + 1, by omega, by go_num, upto_step HS2.out HT1.out, below_drewN hB1 _⟩
                    case measure => simp [intOf]; omega
                · obtain rfl : n = k := by omega
                  go_wp2
                  go_roundw
                  case rel => exact ⟨i + 1, by omega, by go_num, upto_step HI.out HS2.out, hB⟩
                  case measure => simp [intOf]; omega
            · obtain rfl : n = i := by omega
              have HF : Hid (sgS zs = true) := sgS_yes HC.out (by have := HL.out; omega) (by rw [HL.out]; exact HS.out) (by rw [HL.out]; exact HI.out)
              go_wp2
              go_ret
              exact ⟨by rw [HF.out]; rfl, hB⟩
end

end Go.Proofs.YtkfiehndlgplgaaGreatDoor
