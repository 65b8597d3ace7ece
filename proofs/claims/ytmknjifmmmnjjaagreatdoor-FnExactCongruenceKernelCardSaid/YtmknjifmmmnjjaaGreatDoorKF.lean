/-
  Ke.
-/
import Derived.Test.YtmknjifmmmnjjaaGreatDoorNT
import Derived.Test.YtmknjifmmmnjjaaGreatDoorKE
namespace Go.Proofs.YtmknjifmmmnjjaaGreatDoor
set_option maxRecDepth 100000
set_option linter.unusedVariables false
set_option linter.unusedSimpArgs false
set_option linter.unusedSectionVars false

/-! spec.CongruenceSize, CongruenceFiner, CongruenceSplits. -/
section
open Go.RowKit

/-- what holds of each two -/
def dbB (n : Nat) (P : Nat → Nat → Bool) : Bool := (List.range n).all (fun i => (List.range i).all (P i))
theorem dbB_iff {n : Nat} {P : Nat → Nat → Bool} : dbB n P = true ↔ ∀ i, i < n → ∀ k, k < i → P i k = true := by
  unfold dbB
  simp only [List.all_eq_true, List.mem_range]
theorem dbB_no {n : Nat} {P : Nat → Nat → Bool} {i k : Nat} (hi : i < n) (hk : k < i) (h : P i k = false) : dbB n P = false := by
  cases e : dbB n P
  · rfl
  · rw [dbB_iff.1 e i hi k hk] at h; cases h
def szN (zs : List (List Int)) (cs : List Int) : Nat := if cgB zs cs = true then frC (ofL cs) zs.length else 0
theorem szN_le (zs : List (List Int)) (cs : List Int) : szN zs cs ≤ zs.length := by
  unfold szN; split
  · exact frC_le _ _
  · exact Nat.zero_le _
theorem cg_val {zs : List (List Int)} {cs : List Int} (h : cgB zs cs = true) {i : Nat} (hi : i < zs.length) : ofL cs i = (nuE (ofL cs) i : Int) := by
  have h1 := nuL_of (ofL cs) hi
  rw [(cgB_iff.1 h).nu] at h1
  exact h1
theorem fr_max (c : Nat → Int) (i : Nat) : frC c (i + 1) = max (frC c i) (nuE c i + 1) := by
  by_cases h : fsE c i = i
  · rw [frC_next h, nu_new h]; omega
  · rw [frC_same h]
    have := nu_lt c (show fsE c i < i by have := fsE_le c i; omega)
    rw [nu_of (fsE_at c i)] at this
    omega
def fiP (cs ds : List Int) (i k : Nat) : Bool := !decide (ofL cs i = ofL cs k) || decide (ofL ds i = ofL ds k)
def fiB (zs : List (List Int)) (cs ds : List Int) : Bool := cgB zs cs && cgB zs ds && dbB zs.length (fiP cs ds)
def spP (zs : List (List Int)) (cs : List Int) (i k : Nat) : Bool := !(decide (ofL cs i = ofL cs k) && idB (ent zs i) && idB (ent zs k))
def spB (zs : List (List Int)) (cs : List Int) : Bool := cgB zs cs && dbB zs.length (spP zs cs)

set_option maxHeartbeats 1000000 in
theorem specCgSize_any (A C : Option Addr) (n c m d : Nat) (zs : List (List Int)) (cs : List Int) (w : World) (h : RSS w A n zs) (h' : RI w C m cs) (hn : n ≤ 1048576) (hl : ∀ L ∈ zs, L.length ≤ 1048576) (hm : m ≤ 1048576) :
    Calls Tryz.prog 39 #[.slice A n c, .slice C m d] w fun e w' => e = .returned (.tuple #[.int .i64 (szN zs cs : Nat), .bool (cgB zs cs)]) ∧ Below w.heap.size w w' := by
  have hcg := specCgIn_any A C n c m d zs cs w h h' hn hl hm
  have HR' := Lib.hid h'
  cases hC : cgB zs cs
  · have HF : Hid (szN zs cs = 0) := by show _ = _; unfold szN; rw [hC]; rfl
    rw [hC] at hcg
    clear h h' hl hC
    go_enter Tryz.func39, Tryz.ntmps39
    go_wp2_with fail
    refine hcg.mono ?_
    rintro e w1 ⟨rfl, hb⟩
    go_wp2
    go_ret2
    exact ⟨by rw [HF.out]; try rfl, hb⟩
  · have HF : Hid (szN zs cs = frC (ofL cs) m) := by show _ = _; unfold szN; rw [hC, ← (cgB_iff.1 hC).len, h'.len]; rfl
    have HV : Hid (∀ i, i < m → ofL cs i = (nuE (ofL cs) i : Int)) := fun i hi => cg_val hC (by rw [← (cgB_iff.1 hC).len, h'.len]; exact hi)
    rw [hC] at hcg
    clear h h' hl hC
    go_enter Tryz.func39, Tryz.ntmps39
    go_wp2_with fail
    refine hcg.mono ?_
    rintro e w1 ⟨rfl, hb⟩
    clear hcg
    go_wp2
    go_loopw [6, 7] (fun s v wr => ∃ i : Nat, i ≤ m ∧ v = .int .i64 (i : Int) ∧ s = .int .i64 (frC (ofL cs) i : Nat) ∧ wr = w1) (fun _ v _ => m - (intOf v).toNat)
    case atStart => exact ⟨0, Nat.zero_le _, rfl, rfl, rfl⟩
    case round =>
      obtain ⟨i, him, rfl, rfl, rfl⟩ := hrel
      by_cases hlt : i < m
      · have hii : (i : Int) < (m : Int) := by omega
        obtain ⟨ac, rfl, _, hc⟩ := (HR'.out.below hb).at_ hlt
        rw [show cs[i]?.getD 0 = ofL cs i from rfl, HV.out i hlt] at hc
        have HX := Lib.hid (fr_max (ofL cs) i)
        have h1 := frC_le (ofL cs) i
        have h2 := nu_lt (ofL cs) (show i < i + 1 by omega)
        have h3 := frC_le (ofL cs) (i + 1)
        generalize nuE (ofL cs) i = x at *
        generalize frC (ofL cs) i = f at *
        have hxb : x ≤ 1048577 := by omega
        clear h2 h3
        go_wp2
        go_roundw
        case rel => exact ⟨i + 1, by omega, by go_num, by rw [HX.out]; congr 1; omega, trivial⟩
        case measure => simp [intOf]; omega
      · have hii : ¬ (i : Int) < (m : Int) := by omega
        obtain rfl : i = m := by omega
        rw [← HF.out]
        go_wp2
        go_ret2
        exact ⟨rfl, hb⟩
set_option maxHeartbeats 1000000 in
theorem specCgFiner_any (A C D : Option Addr) (n c m d m' d' : Nat) (zs : List (List Int)) (cs ds : List Int) (w : World) (h : RSS w A n zs) (h' : RI w C m cs) (h2 : RI w D m' ds) (hn : n ≤ 1048576) (hl : ∀ L ∈ zs, L.length ≤ 1048576) (hm : m ≤ 1048576) (hm' : m' ≤ 1048576) :
    Calls Tryz.prog 41 #[.slice A n c, .slice C m d, .slice D m' d'] w fun e w' => e = .returned (.bool (fiB zs cs ds)) ∧ Below w.heap.size w w' := by
  have hcg := specCgIn_any A C n c m d zs cs w h h' hn hl hm
  cases hC : cgB zs cs
  · have HF : Hid (fiB zs cs ds = false) := by show _ = _; unfold fiB; rw [hC]; rfl
    rw [hC] at hcg
    clear h h' h2 hl hC
    go_enter Tryz.func41, Tryz.ntmps41
    go_wp2_with fail
    refine hcg.mono ?_
    rintro e w1 ⟨rfl, hb⟩
    go_wp2
    go_ret
    exact ⟨by rw [HF.out]; try rfl, hb⟩
  · have HCD := Lib.hid (fun (W : World) (hW : Below w.heap.size w W) => specCgIn_any A D n c m' d' zs ds W (h.below hW) (h2.below hW) hn hl hm')
    have HL := Lib.hid h.len
    have HR' := Lib.hid h'
    have HR2 := Lib.hid h2
    have HLC := Lib.hid ((cgB_iff.1 hC).len)
    have HM : Hid (zs.length = m) := by show _ = _; rw [← HLC.out]; exact h'.len
    have HLD : Hid (cgB zs ds = true → m' = m) := fun e => by rw [← HM.out, ← (cgB_iff.1 e).len]; exact h2.len.symm
    have HFE : Hid (fiB zs cs ds = (cgB zs ds && dbB m (fiP cs ds))) := by show _ = _; unfold fiB; rw [hC, HM.out]; rfl
    rw [hC] at hcg
    clear h h' h2 hl hC
    go_enter Tryz.func41, Tryz.ntmps41
    go_wp2_with fail
    refine hcg.mono ?_
    rintro e w1 ⟨rfl, hb⟩
    have hcd := HCD.out w1 hb
    clear hcg HCD
    cases hD : cgB zs ds
    · have HF : Hid (fiB zs cs ds = false) := by show _ = _; rw [HFE.out, hD]; rfl
      rw [hD] at hcd
      clear hD
      go_wp2_with fail
      refine hcd.mono ?_
      rintro e w2 ⟨rfl, hb2⟩
      have hb3 := hb.trans (hb2.mono hb.size)
      go_wp2
      go_ret
      exact ⟨by rw [HF.out]; try rfl, hb3⟩
    · obtain rfl := HLD.out hD
      have HFD : Hid (fiB zs cs ds = dbB m' (fiP cs ds)) := by show _ = _; rw [HFE.out, hD]; rfl
      rw [hD] at hcd
      clear hD HLD HFE
      go_wp2_with fail
      refine hcd.mono ?_
      rintro e w2 ⟨rfl, hb2⟩
      have hB2 := Lib.hid (hb.trans (hb2.mono hb.size))
      clear hcd hb hb2
      go_wp2
      go_loopw [7] (fun s wr => ∃ i : Nat, i ≤ m' ∧ s = .int .i64 (i : Int) ∧ Hid (∀ i', i' < i → ∀ k, k < i' → fiP cs ds i' k = true) ∧ ∃ q, wr = w2.drewN q) (fun s _ => m' - (intOf s).toNat)
      case atStart => exact ⟨0, Nat.zero_le _, rfl, Lib.hid (fun j hj => absurd hj (Nat.not_lt_zero _)), 0, rfl⟩
      case round =>
        obtain ⟨i, him, rfl, HI, q, hw⟩ := hrel
        by_cases hlt : i < m'
        · have hii : (i : Int) < (m' : Int) := by omega
          have HW := Lib.hid hw
          clear hw
          go_wp2
          go_loopw [8] (fun s wq => ∃ k : Nat, k ≤ i ∧ s = .int .i64 (k : Int) ∧ Hid (∀ k', k' < k → fiP cs ds i k' = true) ∧ ∃ q, wq = w2.drewN q) (fun s _ => i - (intOf s).toNat)
          case atStart => exact ⟨0, Nat.zero_le _, rfl, Lib.hid (fun j hj => absurd hj (Nat.not_lt_zero _)), _, HW.out⟩
          case round =>
            clear HW q
            obtain ⟨k, hk1, rfl, HK, q, hw⟩ := hrel
            by_cases hki : k < i
            · have hkk : (k : Int) < (i : Int) := by omega
              have hkm : (k : Int) < (m' : Int) := by omega
              have hBq := below_drewN hB2.out q
              rw [← hw] at hBq
              obtain ⟨ac, rfl, _, a1⟩ := (HR'.out.below hBq).at_ hlt
              obtain ⟨ac', e1, _, a2⟩ := (HR'.out.below hBq).at_ (show k < m' by omega)
              obtain rfl := Option.some.inj e1
              obtain ⟨ad, rfl, _, b1⟩ := (HR2.out.below hBq).at_ hlt
              obtain ⟨ad', e2, _, b2⟩ := (HR2.out.below hBq).at_ (show k < m' by omega)
              obtain rfl := Option.some.inj e2
              have HP : Hid (fiP cs ds i k = (!decide (cs[i]?.getD 0 = cs[k]?.getD 0) || decide (ds[i]?.getD 0 = ds[k]?.getD 0))) := rfl
              have HNO : Hid (fiP cs ds i k = false → fiB zs cs ds = false) := fun hf => by rw [HFD.out]; exact dbB_no hlt hki hf
              have HW := Lib.hid hw
              have HBQ := Lib.hid hBq
              clear hw hBq e1 e2
              generalize cs[i]?.getD 0 = x1 at *
              generalize cs[k]?.getD 0 = x2 at *
              generalize ds[i]?.getD 0 = y1 at *
              generalize ds[k]?.getD 0 = y2 at *
              by_cases hx : x1 = x2
              · have c1 : ((x1 : Int) == x2) = true := by simp [hx]
                by_cases hy : y1 = y2
                · have c2 : ((y1 : Int) != y2) = false := by simp [hy]
                  have HK2 : Hid (∀ k', k' < k + 1 → fiP cs ds i k' = true) := upto_step HK.out (by rw [HP.out, decide_eq_true hy]; simp)
                  clear hx hy
                  go_wp2
                  go_quiet (fail)
                  all_goals go_wp2
                  go_roundw
                  case rel => exact ⟨k + 1, by omega, by go_num, HK2, drawn_on HW.out _⟩
                  case measure => simp [intOf]; omega
                · have c2 : ((y1 : Int) != y2) = true := by simp [hy]
                  have HF := Lib.hid (HNO.out (by rw [HP.out, decide_eq_true hx, decide_eq_false hy]; rfl))
                  clear hx hy
                  go_wp2
                  go_quiet (fail)
                  all_goals go_wp2
                  go_ret
                  exact ⟨by rw [HF.out]; try rfl, below_drewN HBQ.out _⟩
              · have c1 : ((x1 : Int) == x2) = false := by simp [hx]
                have HK2 : Hid (∀ k', k' < k + 1 → fiP cs ds i k' = true) := upto_step HK.out (by rw [HP.out, decide_eq_false hx]; rfl)
                clear hx
                go_wp2
                go_quiet (fail)
                all_goals go_wp2
                go_roundw
                case rel => exact ⟨k + 1, by omega, by go_num, HK2, drawn_on HW.out _⟩
                case measure => simp [intOf]; omega
            · have hkk : ¬ (k : Int) < (i : Int) := by omega
              obtain rfl : k = i := by omega
              have HI2 : Hid (∀ i', i' < k + 1 → ∀ j, j < i' → fiP cs ds i' j = true) := upto_step (P := fun i' => ∀ j, j < i' → fiP cs ds i' j = true) HI.out HK.out
              have HW := Lib.hid hw
              clear hw
              go_wp2
              go_roundw
              case rel => exact ⟨k + 1, by omega, by go_num, HI2, _, HW.out⟩
              case measure => simp [intOf]; omega
        · have hii : ¬ (i : Int) < (m' : Int) := by omega
          obtain rfl : i = m' := by omega
          have HT : Hid (fiB zs cs ds = true) := by show _ = _; rw [HFD.out]; exact dbB_iff.2 HI.out
          have hBq := below_drewN hB2.out q
          rw [← hw] at hBq
          clear hw
          go_wp2
          go_ret
          exact ⟨by rw [HT.out]; try rfl, hBq⟩
end

end Go.Proofs.YtmknjifmmmnjjaaGreatDoor
