/-
  Kb.
-/
import Derived.Deep.QuietTactic
import Derived.BigQuiet
import Derived.Test.YtmknjifmmmnjjaaGreatDoorNB
import Derived.Test.YtmknjifmmmnjjaaGreatDoorKA
namespace Go.Proofs.YtmknjifmmmnjjaaGreatDoor
set_option maxRecDepth 100000
set_option linter.unusedVariables false
set_option linter.unusedSimpArgs false
set_option linter.unusedSectionVars false

/-! spec.l8Numbers: class numbers in order. -/
section
open Go.RowKit

set_option maxHeartbeats 1000000 in
theorem l8Numbers_any (A : Option Addr) (n c : Nat) (rs : List Int) (w : World) (h : RI w A n rs) (hn : n ≤ 1048576) :
    Calls Tryz.prog 61 #[.slice A n c] w fun e w' => ∃ v, e = .returned v ∧ w'.ownsRow w.heap.size 3 1 v n (ivs (nuL (ofL rs) n)) ∧ Below w.heap.size w w' := by
  obtain ⟨i0, hi, hz0, hz1, hz2⟩ := info_parts info_int
  have HR := Lib.hid h
  have hL0 : (w.alloc (.cells #[] 3)).ownsRow w.heap.size 3 1 (.slice (some ⟨w.heap.size, 0, none⟩) 0 0) 0 [] := World.ownsRow_lit (base := w.heap.size) (e := 3) (size := 1) w #[] 0 (Nat.le_refl _) (by simp [maxLen]) rfl
  have hB0 := (Below.refl _ w).alloc (Nat.le_refl _) (.cells #[] 3)
  clear h
  go_enter Tryz.func61, Tryz.ntmps61
  go_wp2
  go_loopw [3, 4, 5] (fun v s i wr => ∃ k : Nat, k ≤ n ∧ i = .int .i64 (k : Int) ∧ s = .int .i64 (frC (ofL rs) k : Nat) ∧ wr.ownsRow w.heap.size 3 1 v k (ivs (nuL (ofL rs) k)) ∧ Below w.heap.size w wr) (fun _ _ i _ => n - (intOf i).toNat)
  case atStart => exact ⟨0, Nat.zero_le _, rfl, rfl, hL0, hB0⟩
  case round =>
    clear hL0 hB0
    obtain ⟨i, hin, rfl, rfl, hown, hB⟩ := hrel
    by_cases hlt : i < n
    · have hii : (i : Int) < (n : Int) := by omega
      obtain ⟨ax, rfl, _, _⟩ := (HR.out.below hB).at_ hlt
      have HRR : Hid (∀ q j, j < n → (wr.drewN q).cell? (ax.add j) = some (.int .i64 (ofL rs j))) := fun q j hj => by
        obtain ⟨ax', e, _, hc⟩ := (HR.out.below hB).at_ hj
        obtain rfl := Option.some.inj e
        exact hc
      obtain ⟨Ao, co, rfl⟩ := own_slice hown
      have HOO : Hid (∀ q j, j < i → ∃ ao, Ao = some ao ∧ (wr.drewN q).cell? (ao.add j) = some (.int .i64 (nuE (ofL rs) j : Nat))) := fun q j hj => by
        obtain ⟨ao, e, _, hc⟩ := (RI.of_own hown).at_ hj
        refine ⟨ao, e, ?_⟩
        rw [nuL_get _ hj] at hc
        exact hc
      have HOW : Hid (∀ q, (wr.drewN q).ownsRow w.heap.size 3 1 (.slice Ao i co) i (ivs (nuL (ofL rs) i)) ∧ Below w.heap.size w (wr.drewN q)) := fun q => ⟨own_below hown (below_drewN (Below.refl _ _) q), below_drewN hB q⟩
      have HST : Hid (∀ z : Nat, z = nuE (ofL rs) i → ivs (nuL (ofL rs) i) ++ [.int .i64 (z : Int)] = ivs (nuL (ofL rs) (i + 1))) := fun z hz => by
        subst hz; rw [nuL_snoc]; simp [ivs]
      have hfl := frC_le (ofL rs) i
      clear hown hB
      go_wp2
      go_loopw [6, 7] (fun v s wq => ∃ (k : Nat) (z : Int), k ≤ i ∧ v = .int .i64 z ∧ s = .int .i64 (k : Int) ∧ Hid ((z = -1 ∧ ∀ j, j < k → ofL rs j ≠ ofL rs i) ∨ (z = (nuE (ofL rs) i : Int) ∧ fsE (ofL rs) i < i)) ∧ ∃ q, wq = wr.drewN q) (fun _ s _ => i - (intOf s).toNat)
      case atStart => exact ⟨0, -1, Nat.zero_le _, rfl, rfl, Lib.hid (.inl ⟨rfl, fun j hj => absurd hj (Nat.not_lt_zero _)⟩), 0, rfl⟩
      case round =>
        obtain ⟨k, z, hki, rfl, rfl, HZ, q, hw⟩ := hrel
        have HO2 := HOW.out q
        rw [← hw] at HO2
        obtain ⟨hown, hB⟩ := HO2
        have h1 : i + 1 ≤ maxLen := by unfold maxLen; omega
        have h2 : (i + 1) * 8 ≤ 140737488355328 := by omega
        have h3 : ∀ o : Obj, w.heap.size ≤ (wr.alloc o).heap.size := fun o => by have := hB.size; simp; omega
        have HFIN : Hid (∀ (z : Nat) (v' : Value) (w1 : World), z = nuE (ofL rs) i → w1.ownsRow w.heap.size 3 1 v' (i + 1) (ivs (nuL (ofL rs) i) ++ [.int .i64 (z : Int)]) → (wr.alloc (.cells #[.int .i64 (z : Int)] 3)).grownBy w1 (Value.slice Ao i co).ownBlock → w1.ownsRow w.heap.size 3 1 v' (i + 1) (ivs (nuL (ofL rs) (i + 1))) ∧ Below w.heap.size w w1) := fun z v' w1 hz ho hg => by
          rw [HST.out z hz] at ho
          exact ⟨ho, (hB.alloc hB.size _).grown hg (h3 _) (fun g e => (hown.lt g e).1)⟩
        by_cases hz : z < 0
        · by_cases hkl : k < i
          · have hkk : (k : Int) < (i : Int) := by omega
            have hkn : (k : Int) < (n : Int) := by omega
            have HW := Lib.hid hw
            have a1 := HRR.out q k (by omega)
            have a2 := HRR.out q i hlt
            obtain ⟨ao, rfl, ho⟩ := HOO.out q k hkl
            rw [← hw] at a1 a2 ho
            have HN : Hid (∀ j, j < k → ofL rs j ≠ ofL rs i) := by
              rcases HZ.out with h | h
              · exact h.2
              · have := h.1; omega
            by_cases he : ofL rs k = ofL rs i
            · have hc : (ofL rs k == ofL rs i) = true := by simp [he]
              have hfe : fsE (ofL rs) i = k := fsE_is hki he HN.out
              have HE : Hid ((nuE (ofL rs) k : Int) = (nuE (ofL rs) i : Int) ∧ fsE (ofL rs) i < i) := ⟨by rw [nu_of he], by omega⟩
              clear he hfe hw HZ
              generalize ofL rs k = x at *
              generalize hyy : ofL rs i = y at *
              clear hyy
              go_wp2
              go_quiet (fail)
              have g1 : (wr.drewN nq).cell? (ao.add k) = some (.int .i64 (nuE (ofL rs) k : Nat)) := ho
              go_wp2
              go_roundw
              case rel => exact ⟨k + 1, _, by omega, rfl, by go_num, Lib.hid (.inr HE.out), drawn_on HW.out _⟩
              case measure => simp [intOf]; omega
            · have hc : (ofL rs k == ofL rs i) = false := by simp [he]
              have HN2 : Hid (∀ j, j < k + 1 → ofL rs j ≠ ofL rs i) := fun j hj => by
                rcases Nat.lt_or_ge j k with h | h
                · exact HN.out j h
                · rw [show j = k by omega]; exact he
              have hz1 : z = -1 := by
                rcases HZ.out with h | h
                · exact h.1
                · have := h.1; omega
              have HZ1 := Lib.hid hz1
              clear he hw HZ hz1
              go_wp2
              go_quiet (fail)
              all_goals go_wp2
              go_roundw
              case rel => exact ⟨k + 1, z, by omega, rfl, by go_num, Lib.hid (.inl ⟨HZ1.out, HN2.out⟩), drawn_on HW.out _⟩
              case measure => simp [intOf]; omega
          · have hk2 : k = i := by omega
            have hkk : ¬ (k : Int) < (i : Int) := by omega
            have hf : fsE (ofL rs) i = i := by
              rcases HZ.out with h | h
              · exact fsE_is (Nat.le_refl _) rfl (fun j hj => h.2 j (by omega))
              · have := h.1; omega
            have HNX : Hid (frC (ofL rs) (i + 1) = frC (ofL rs) i + 1) := frC_next hf
            have HNU : Hid (frC (ofL rs) i = nuE (ofL rs) i) := (nu_new hf).symm
            clear hf hk2 HZ hw
            generalize frC (ofL rs) i = m at *
            go_wp2_with (at_builtin; refine wpList_append_own _ rfl _ _ 24 rfl w.heap.size 3 i0 (.int .i64 0) 1 8 Tryz.underlying24 hi hz0 hz1 hz2 rfl (by decide) _ _ _ rfl (hown.alloc _) ⟨wr.heap.size, 0, none⟩ 1 1 [.int .i64 (m : Int)] rfl rfl (cell_one_new _ _ _) (by simp [Value.oneCell']) h1 h2 (h3 _) ?_; intro v' w1 hown' hgrow _)
            have hfi := HFIN.out m v' w1 HNU.out hown' hgrow
            go_roundw
            case rel => exact ⟨i + 1, by omega, by go_num, by rw [HNX.out]; go_num, hfi.1, hfi.2⟩
            case measure => simp [intOf]; omega
        · obtain ⟨m, rfl⟩ : ∃ m : Nat, z = (m : Int) := ⟨z.toNat, by omega⟩
          have hzz : ¬ (m : Int) < 0 := by omega
          have HNU : Hid (m = nuE (ofL rs) i ∧ fsE (ofL rs) i < i) := by
            rcases HZ.out with h | h
            · have := h.1; omega
            · exact ⟨by have := h.1; omega, h.2⟩
          have HNX : Hid (frC (ofL rs) (i + 1) = frC (ofL rs) i) := frC_same (by have := HNU.out.2; omega)
          clear HZ hw hz
          generalize frC (ofL rs) i = m2 at *
          rcases Decidable.em ((k : Int) < (i : Int)) with hkk | hkk
          all_goals
            go_wp2_with (at_builtin; refine wpList_append_own _ rfl _ _ 24 rfl w.heap.size 3 i0 (.int .i64 0) 1 8 Tryz.underlying24 hi hz0 hz1 hz2 rfl (by decide) _ _ _ rfl (hown.alloc _) ⟨wr.heap.size, 0, none⟩ 1 1 [.int .i64 (m : Int)] rfl rfl (cell_one_new _ _ _) (by simp [Value.oneCell']) h1 h2 (h3 _) ?_; intro v' w1 hown' hgrow _)
            have hfi := HFIN.out m v' w1 HNU.out.1 hown' hgrow
            go_roundw
            case rel => exact ⟨i + 1, by omega, by go_num, by rw [HNX.out], hfi.1, hfi.2⟩
            case measure => simp [intOf]; omega
    · obtain rfl : i = n := by omega
      have hii : ¬ (i : Int) < (i : Int) := by omega
      go_wp2
      go_ret
      exact ⟨_, rfl, hown, hB⟩
end

end Go.Proofs.YtmknjifmmmnjjaaGreatDoor
