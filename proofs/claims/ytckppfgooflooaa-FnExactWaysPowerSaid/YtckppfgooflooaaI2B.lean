/-
  impl of chapter 2: WaysPower, GreenHolds.
-/
import Derived.Test.YtckppfgooflooaaI2A
import Derived.Test.YtckppfgooflooaaL2E
import Derived.Test.YtckppfgooflooaaCompat
namespace Go.Proofs.Ytckppfgooflooaa
set_option maxRecDepth 100000
open Go.RowKit

theorem pw_congr {n : Nat} {F G : Nat → Int} (hF : CH n F) (h : ∀ j, j < n → F j = G j) (q : Nat) {j : Nat} (hj : j < n) : pwF n F q j = pwF n G q j := by
  rw [pw_it hF hj, pw_it (hF.congr h) hj, it_congr hF h hj]

set_option maxHeartbeats 8000000 in
theorem implPower_any (A : Option Addr) (n c : Nat) (k : Int) (zs : List Int) (w : World) (h : RI w A n zs) (hn : n ≤ 1048576) :
    Calls Try.prog 40 #[.slice A n c, .int .i64 k] w fun e w' => ∃ v, e = .returned (.tuple #[v, .bool (powB zs k)]) ∧ NewL w (powL zs k) v w' := by
  obtain rfl := h.len
  cases hC : isC zs
  · have HE : Hid (powB zs k = false) := by show _ = _; simp [powB, hC]
    have HL : Hid (powL zs k = []) := by show _ = _; simp [powL, HE.out]
    have HC := Lib.hid hC
    clear hC
    go_enter Try.func40, Try.ntmps40
    go_wp2_with fail
    refine (chartOf_any _ _ _ _ _ h).mono ?_
    rintro e w1 ⟨m, T, rfl, hy, hno, hb⟩
    rw [HC.out]
    have hB := hb.alloc hb.size (.cells #[.int .i64 ((m : Int)), .int .i64 (T 0), .int .i64 (T 1), .int .i64 (T 2), .int .i64 (T 3), .int .i64 (T 4), .int .i64 (T 5)] 59)
    clear hy hno hb
    go_wp2
    go_ret2
    exact ⟨_, by rw [HE.out]; rfl, by rw [HL.out]; exact World.ownsRow_nil _ _ _ _, hB⟩
  have hF := isC_CH hC
  have h6 := hF.six
  have HF := Lib.hid hF
  have HC := Lib.hid hC
  cases hS : inB k (-100) 100
  · have HE : Hid (powB zs k = false) := by show _ = _; simp [powB, hS]
    have HL : Hid (powL zs k = []) := by show _ = _; simp [powL, HE.out]
    have hk : k < -100 ∨ 100 < k := by have := of_decide_eq_false hS; omega
    clear hS hC
    rcases hk with hk | hk
    · have hd : decide (k < -100) = true := by simpa using hk
      go_enter Try.func40, Try.ntmps40
      go_wp2_with fail
      refine (chartOf_any _ _ _ _ _ h).mono ?_
      rintro e w1 ⟨m, T, rfl, hy, hno, hb⟩
      rw [HC.out]
      have hB := hb.alloc hb.size (.cells #[.int .i64 ((m : Int)), .int .i64 (T 0), .int .i64 (T 1), .int .i64 (T 2), .int .i64 (T 3), .int .i64 (T 4), .int .i64 (T 5)] 59)
      clear hy hno hb
      go_wp2
      go_ret2
      exact ⟨_, by rw [HE.out]; rfl, by rw [HL.out]; exact World.ownsRow_nil _ _ _ _, hB⟩
    · have hd : decide (k < -100) = false := by simp; omega
      have hd2 : decide (100 < k) = true := by simpa using hk
      go_enter Try.func40, Try.ntmps40
      go_wp2_with fail
      refine (chartOf_any _ _ _ _ _ h).mono ?_
      rintro e w1 ⟨m, T, rfl, hy, hno, hb⟩
      rw [HC.out]
      have hB := hb.alloc hb.size (.cells #[.int .i64 ((m : Int)), .int .i64 (T 0), .int .i64 (T 1), .int .i64 (T 2), .int .i64 (T 3), .int .i64 (T 4), .int .i64 (T 5)] 59)
      clear hy hno hb
      go_wp2
      go_ret2
      exact ⟨_, by rw [HE.out]; rfl, by rw [HL.out]; exact World.ownsRow_nil _ _ _ _, hB⟩
  have HE : Hid (powB zs k = true) := by show _ = _; simp [powB, hS, hC]
  have hk : -100 ≤ k ∧ k ≤ 100 := of_decide_eq_true hS
  have hd1 : decide (k < -100) = false := by simp; omega
  have hd2 : decide (100 < k) = false := by simp; omega
  have HTU := Lib.hid (tuL_yes hC)
  have HFT : Hid (CH zs.length (ofL (tuL zs))) := by have := isC_CH (tuL_isC hC); rwa [tuL_len hC] at this
  by_cases hneg : k < 0
  · have HL : Hid (powL zs k = LT zs.length (pwF zs.length (ofL (tuL zs)) (0 - k).toNat)) := by show _ = _; simp only [powL, HE.out, if_true, if_pos hneg]
    have hd3 : decide (k < 0) = true := by simpa using hneg
    obtain ⟨q, hq⟩ := Int.eq_ofNat_of_zero_le (show 0 ≤ -k by omega)
    have HQ : Hid ((0 - k).toNat = q) := by show _ = _; omega
    have hq100 : q ≤ 100 := by omega
    clear hS hC
    go_enter Try.func40, Try.ntmps40
    go_wp2_with fail
    refine (chartOf_any _ _ _ _ _ h).mono ?_
    rintro e w1 ⟨m, T, rfl, hy, hno, hb⟩
    obtain ⟨rfl, hT0⟩ := hy HC.out
    have hT := Lib.hid hT0
    clear hT0
    rw [HC.out]
    clear hy hno h hn HC
    generalize zs.length = n0 at *
    have hP := Cb.new w1 n0 T
    have hB := hb.alloc hb.size (.cells #[.int .i64 ((n0 : Int)), .int .i64 (T 0), .int .i64 (T 1), .int .i64 (T 2), .int .i64 (T 3), .int .i64 (T 4), .int .i64 (T 5)] 59)
    have hs1 := hb.size
    obtain ⟨a0, a1, a2, a3, a4, a5, a6⟩ := hP.all
    clear hb
    have hEn : En n0 T := en_congr HF.out.en (fun j hj => hT.out j (by omega))
    go_wp2_with fail
    refine (turned_any n0 h6 T (en_ok h6 hEn) _).mono ?_
    rintro e w2 ⟨T2, rfl, HT2, hb2⟩
    have HT3 : Hid (∀ j, j < n0 → T2 j = ofL (tuL zs) j) := fun j hj => by
      rw [HT2.out j (by omega), ← HTU.out, ofL_LT _ j hj, mv_congr (fun i hi => hT.out i (by omega))]
    have hCH2 : CH n0 T2 := HFT.out.congr (fun j hj => (HT3.out j hj).symm)
    have hP2 := hP.below hb2 hP.lt
    have hB2 := hB.trans (hb2.mono hB.size)
    have hP3 := Cb.full (n := (n0 : Int)) (T := T2) hP2
    have hB3 := below_set7 hB2 (b := w1.heap.size) (by omega) (.int .i64 n0) (.int .i64 (T2 0)) (.int .i64 (T2 1)) (.int .i64 (T2 2)) (.int .i64 (T2 3)) (.int .i64 (T2 4)) (.int .i64 (T2 5))
    obtain ⟨c0, c1, c2, c3, c4, c5, c6⟩ := hP2.all
    obtain ⟨d0, d1, d2, d3, d4, d5, d6⟩ := hP2.frees
    have hs2 := hb2.size
    simp only [World.size_alloc] at hs2
    clear hP hP2 hB hB2 hb2 a0 a1 a2 a3 a4 a5 a6 HT2
    go_wp2_with fail
    generalize ((((((((w2).setCell ⟨w1.heap.size, 0, none⟩ (.int .i64 ((n0 : Int)))).setCell ⟨w1.heap.size, 1, none⟩ (.int .i64 (T2 0))).setCell ⟨w1.heap.size, 2, none⟩ (.int .i64 (T2 1))).setCell ⟨w1.heap.size, 3, none⟩ (.int .i64 (T2 2))).setCell ⟨w1.heap.size, 4, none⟩ (.int .i64 (T2 3))).setCell ⟨w1.heap.size, 5, none⟩ (.int .i64 (T2 4))).setCell ⟨w1.heap.size, 6, none⟩ (.int .i64 (T2 5))) = W3 at hP3 hB3 ⊢
    refine (power_any n0 T2 hCH2 q (by omega) _).mono ?_
    rintro e w3 ⟨T4, rfl, HT4, hb3⟩
    have hB4 := hB3.trans (hb3.mono hB3.size)
    go_wp2_with fail
    refine (list_any n0 h6 T4 _).mono ?_
    rintro e w4 ⟨B, rfl, hown, hb4⟩
    have hB5 := hB4.trans (hb4.mono hB4.size)
    have hN := newL_of hown hB4.size hB5 ((LT_congr (fun j hj => (HT4.out j hj).trans (pw_congr hCH2 HT3.out q hj))).trans (HL.out.trans (by rw [HQ.out])).symm)
    clear hP3 hB3 hB4 hB5 hb3 hb4 hown c0 c1 c2 c3 c4 c5 c6 d0 d1 d2 d3 d4 d5 d6
    go_wp2
    go_ret2
    exact ⟨_, by rw [HE.out]; rfl, hN⟩
  · have HL : Hid (powL zs k = LT zs.length (pwF zs.length (ofL zs) k.toNat)) := by show _ = _; simp only [powL, HE.out, if_true, if_neg hneg]
    have hd3 : decide (k < 0) = false := by simpa using hneg
    obtain ⟨q, rfl⟩ := Int.eq_ofNat_of_zero_le (show 0 ≤ k by omega)
    clear hS hC
    go_enter Try.func40, Try.ntmps40
    go_wp2_with fail
    refine (chartOf_any _ _ _ _ _ h).mono ?_
    rintro e w1 ⟨m, T, rfl, hy, hno, hb⟩
    obtain ⟨rfl, hT0⟩ := hy HC.out
    have hT := Lib.hid hT0
    clear hT0
    rw [HC.out]
    clear hy hno h hn HC
    generalize zs.length = n0 at *
    have hP := Cb.new w1 n0 T
    have hB := hb.alloc hb.size (.cells #[.int .i64 ((n0 : Int)), .int .i64 (T 0), .int .i64 (T 1), .int .i64 (T 2), .int .i64 (T 3), .int .i64 (T 4), .int .i64 (T 5)] 59)
    have hs1 := hb.size
    obtain ⟨a0, a1, a2, a3, a4, a5, a6⟩ := hP.all
    clear hb
    have HT3 : Hid (∀ j, j < n0 → T j = ofL zs j) := fun j hj => hT.out j (by omega)
    have hCH2 : CH n0 T := HF.out.congr (fun j hj => (hT.out j (by omega)).symm)
    go_wp2_with fail
    refine (power_any n0 T hCH2 q (by omega) _).mono ?_
    rintro e w2 ⟨T2, rfl, HT2, hb2⟩
    have hB2 := hB.trans (hb2.mono hB.size)
    have hs2 := hb2.size
    simp only [World.size_alloc] at hs2
    go_wp2_with fail
    refine (list_any n0 h6 T2 _).mono ?_
    rintro e w3 ⟨B, rfl, hown, hb3⟩
    have hB3 := hB2.trans (hb3.mono hB2.size)
    have hN := newL_of hown (by omega) hB3 ((LT_congr (fun j hj => (HT2.out j hj).trans (pw_congr hCH2 HT3.out q hj))).trans HL.out.symm)
    clear hP hB hB2 hB3 hb2 hb3 hown a0 a1 a2 a3 a4 a5 a6
    go_wp2
    go_ret2
    exact ⟨_, by rw [HE.out]; rfl, hN⟩
end Go.Proofs.Ytckppfgooflooaa
