/-
  I2A I2B I2C.
-/
import Derived.Test.YtckppfgooflooabMB
import Derived.Test.YtckppfgooflooabMC
import Derived.Test.YtckppfgooflooabME
namespace Go.Proofs.Ytckppfgooflooab
set_option maxRecDepth 100000
set_option linter.unusedVariables false
set_option linter.unusedSimpArgs false
set_option linter.unusedSectionVars false

/-! impl of chapter 2: the number of all charts, powers. -/
section
open Go.RowKit

/-- the loop of impl.ChartNumber -/
def tnS (n : Nat) : Nat → Nat × Nat
  | 0 => (1, 1)
  | k + 1 => let s := tnS n k; (s.1 * (n - k) * (n - k) / (k + 1), s.2 + s.1 * (n - k) * (n - k) / (k + 1))
theorem tnS_fin : ∀ (n : Fin 13) (k : Fin 14), (tnS n.val k.val).1 < 1000000000000 ∧ (tnS n.val k.val).2 < 1000000000000 := by decide +kernel
theorem tn_num : ∀ n : Fin 13, (tnS n.val n.val).2 = numN n.val := by decide +kernel


/-! ### powers -/
theorem Cb.full {W : World} {b : Nat} {n n0 : Int} {T T0 : Nat → Int} (hR : Cb W b n0 T0) : Cb ((((((((W).setCell ⟨b, 0, none⟩ (.int .i64 (n))).setCell ⟨b, 1, none⟩ (.int .i64 (T 0))).setCell ⟨b, 2, none⟩ (.int .i64 (T 1))).setCell ⟨b, 3, none⟩ (.int .i64 (T 2))).setCell ⟨b, 4, none⟩ (.int .i64 (T 3))).setCell ⟨b, 5, none⟩ (.int .i64 (T 4))).setCell ⟨b, 6, none⟩ (.int .i64 (T 5))) b n T := by
  refine World.rowIs.congr (World.rowIs.set (World.rowIs.set (World.rowIs.set (World.rowIs.set (World.rowIs.set (World.rowIs.set (World.rowIs.set hR 0 _) 1 _) 2 _) 3 _) 4 _) 5 _) 6 _) (fun j hj => ?_)
  match j, hj with
  | 0, _ => rfl
  | 1, _ => rfl
  | 2, _ => rfl
  | 3, _ => rfl
  | 4, _ => rfl
  | 5, _ => rfl
  | 6, _ => rfl
theorem Cb.full_other {W : World} {b b' : Nat} {n n' : Int} {T T' : Nat → Int} (h : Cb W b' n' T') (hne : b' ≠ b) : Cb ((((((((W).setCell ⟨b, 0, none⟩ (.int .i64 (n))).setCell ⟨b, 1, none⟩ (.int .i64 (T 0))).setCell ⟨b, 2, none⟩ (.int .i64 (T 1))).setCell ⟨b, 3, none⟩ (.int .i64 (T 2))).setCell ⟨b, 4, none⟩ (.int .i64 (T 3))).setCell ⟨b, 5, none⟩ (.int .i64 (T 4))).setCell ⟨b, 6, none⟩ (.int .i64 (T 5))) b' n' T' :=
  ((((((h.other hne _).other hne _).other hne _).other hne _).other hne _).other hne _).other hne _

set_option maxHeartbeats 1000000 in
theorem power_any (n : Nat) (F : Nat → Int) (hF : CH n F) (k : Nat) (hk : k ≤ 4611686018427387904) (w : World) :
    Calls Try.prog 73 #[.agg #[.int .i64 ((n : Int)), .int .i64 (F 0), .int .i64 (F 1), .int .i64 (F 2), .int .i64 (F 3), .int .i64 (F 4), .int .i64 (F 5)], .int .i64 (k : Int)] w fun e w' => ∃ T' : Nat → Int, e = .returned (.agg #[.int .i64 ((n : Int)), .int .i64 (T' 0), .int .i64 (T' 1), .int .i64 (T' 2), .int .i64 (T' 3), .int .i64 (T' 4), .int .i64 (T' 5)]) ∧ Hid (∀ j, j < n → T' j = pwF n F k j) ∧ Below w.heap.size w w' := by
  have h6 := hF.six
  have HF := Lib.hid hF
  clear hF
  go_enter Try.func73, Try.ntmps73
  go_wp2_with fail
  have hA0 := ((Cb.new w n F).alloc (.cells #[.int .i64 ((0 : Int)), .int .i64 ((fun _ => (0 : Int)) 0), .int .i64 ((fun _ => (0 : Int)) 1), .int .i64 ((fun _ => (0 : Int)) 2), .int .i64 ((fun _ => (0 : Int)) 3), .int .i64 ((fun _ => (0 : Int)) 4), .int .i64 ((fun _ => (0 : Int)) 5)] 49))
  have hB0 := Cb.new (w.alloc (.cells #[.int .i64 ((n : Int)), .int .i64 (F 0), .int .i64 (F 1), .int .i64 (F 2), .int .i64 (F 3), .int .i64 (F 4), .int .i64 (F 5)] 49)) 0 (fun _ => 0)
  rw [World.size_alloc] at hB0
  have hBel : Below w.heap.size w ((w.alloc (.cells #[.int .i64 ((n : Int)), .int .i64 (F 0), .int .i64 (F 1), .int .i64 (F 2), .int .i64 (F 3), .int .i64 (F 4), .int .i64 (F 5)] 49)).alloc (.cells #[.int .i64 ((0 : Int)), .int .i64 ((fun _ => (0 : Int)) 0), .int .i64 ((fun _ => (0 : Int)) 1), .int .i64 ((fun _ => (0 : Int)) 2), .int .i64 ((fun _ => (0 : Int)) 3), .int .i64 ((fun _ => (0 : Int)) 4), .int .i64 ((fun _ => (0 : Int)) 5)] 49)) := ((Below.refl _ w).alloc (Nat.le_refl _) _).alloc (by simp) _
  refine (identity_any n h6 _).mono ?_
  rintro e w1 ⟨T, rfl, HT, hb⟩
  have hs1 := hb.size
  simp only [World.size_alloc] at hs1
  have hA1 := (hA0.below hb (by simp <;> omega)).alloc (.cells #[.int .i64 ((n : Int)), .int .i64 (T 0), .int .i64 (T 1), .int .i64 (T 2), .int .i64 (T 3), .int .i64 (T 4), .int .i64 (T 5)] 49)
  have hB1 := (hB0.below hb (by simp)).alloc (.cells #[.int .i64 ((n : Int)), .int .i64 (T 0), .int .i64 (T 1), .int .i64 (T 2), .int .i64 (T 3), .int .i64 (T 4), .int .i64 (T 5)] 49)
  have hP1 := Cb.new w1 n T
  have hBel1 : Below w.heap.size w (w1.alloc (.cells #[.int .i64 ((n : Int)), .int .i64 (T 0), .int .i64 (T 1), .int .i64 (T 2), .int .i64 (T 3), .int .i64 (T 4), .int .i64 (T 5)] 49)) := (hBel.trans (hb.mono hBel.size)).alloc (by omega) _
  clear hA0 hB0 hBel hb
  have HT0 : Hid (∀ j, j < n → T j = pwF n F 0 j) := fun j hj => by rw [HT.out]; unfold idF pwF; rw [if_pos hj, if_pos hj]
  go_wp2
  go_loopw [10] (fun i wr => ∃ (q : Nat) (T' : Nat → Int), q ≤ k ∧ i = .int .i64 (q : Int) ∧ Hid (∀ j, j < n → T' j = pwF n F q j) ∧ Cb wr w.heap.size n F ∧ Cb wr (w.heap.size + 1) 0 (fun _ => 0) ∧ Cb wr w1.heap.size n T' ∧ Below w.heap.size w wr) (fun i _ => k - (intOf i).toNat)
  case atStart => exact ⟨0, T, Nat.zero_le _, rfl, HT0, hA1, hB1, hP1, hBel1⟩
  case round =>
    clear hA1 hB1 hP1 hBel1 HT HT0
    obtain ⟨q, T', hq, rfl, HT, hA, hB, hP, hBel⟩ := hrel
    obtain ⟨a0, a1, a2, a3, a4, a5, a6⟩ := hA.all
    obtain ⟨b0, b1, b2, b3, b4, b5, b6⟩ := hP.all
    by_cases hlt : q < k
    · have hEn : En n T' := en_congr (CH_pw HF.out q).en (fun j hj => HT.out j hj)
      go_wp2_with fail
      refine (times_any n h6 T' (en_ok h6 hEn) n F _).mono ?_
      rintro e w2 ⟨T2, rfl, HT2, hb2⟩
      have hs2 := hb2.size
      have HT' : Hid (∀ j, j < n → T2 j = pwF n F (q + 1) j) := fun j hj => by
        rw [HT2.out j (by omega), times_cmp h6 hEn hj]
        exact cmp_congr HT.out (fun _ _ => rfl) hj
      have hA2 := hA.below hb2 hA.lt
      have hB2 := hB.below hb2 hB.lt
      have hP2 := hP.below hb2 hP.lt
      have hBel2 := hBel.trans (hb2.mono hBel.size)
      have hA3 := Cb.full_other (n := (n : Int)) (T := T2) (b := w1.heap.size) hA2 (by omega)
      have hB3 := Cb.full_other (n := (n : Int)) (T := T2) (b := w1.heap.size) hB2 (by omega)
      have hP3 := Cb.full (n := (n : Int)) (T := T2) hP2
      have hBel3 := below_set7 hBel2 (b := w1.heap.size) (by omega) (.int .i64 n) (.int .i64 (T2 0)) (.int .i64 (T2 1)) (.int .i64 (T2 2)) (.int .i64 (T2 3)) (.int .i64 (T2 4)) (.int .i64 (T2 5))
      obtain ⟨c0, c1, c2, c3, c4, c5, c6⟩ := hP2.all
      obtain ⟨d0, d1, d2, d3, d4, d5, d6⟩ := hP2.frees
      clear hA hB hP hBel hb2 HT HT2 hA2 hB2 hP2 hBel2 a0 a1 a2 a3 a4 a5 a6 b0 b1 b2 b3 b4 b5 b6
      go_wp2
      go_roundw
      case rel => exact ⟨q + 1, T2, by omega, by go_num, HT', hA3, hB3, hP3, hBel3⟩
      case measure => simp [intOf]; omega
    · obtain rfl : q = k := by omega
      obtain ⟨c0, c1, c2, c3, c4, c5, c6⟩ := hB.all
      obtain ⟨d0, d1, d2, d3, d4, d5, d6⟩ := hB.frees
      have hR := Cb.full (n := (n : Int)) (T := T') hB
      have hBel3 := below_set7 hBel (b := w.heap.size + 1) (by omega) (.int .i64 n) (.int .i64 (T' 0)) (.int .i64 (T' 1)) (.int .i64 (T' 2)) (.int .i64 (T' 3)) (.int .i64 (T' 4)) (.int .i64 (T' 5))
      obtain ⟨q0, q1, q2, q3, q4, q5, q6⟩ := hR.all
      clear hA hB hP hBel hR
      go_wp2
      refine bodyPost_ret (v := .agg #[.int .i64 ((n : Int)), .int .i64 (T' 0), .int .i64 (T' 1), .int .i64 (T' 2), .int .i64 (T' 3), .int .i64 (T' 4), .int .i64 (T' 5)]) (by simp [results, Try.results73, go_sem, q0, q1, q2, q3, q4, q5, q6]) rfl ⟨T', rfl, HT, hBel3⟩
end

/-! impl of chapter 2: WaysPower, GreenHolds. -/
section
open Go.RowKit

theorem ipw_congr {n : Nat} {F G : Nat → Int} (hF : CH n F) (h : ∀ j, j < n → F j = G j) (q : Nat) {j : Nat} (hj : j < n) : pwF n F q j = pwF n G q j := by
  rw [pw_it hF hj, pw_it (hF.congr h) hj, it_congr hF h hj]

set_option maxHeartbeats 8000000 in
theorem implPower_any (A : Option Addr) (n c : Nat) (k : Int) (zs : List Int) (w : World) (h : RI w A n zs) (hn : n ≤ 1048576) :
    Calls Try.prog 34 #[.slice A n c, .int .i64 k] w fun e w' => ∃ v, e = .returned (.tuple #[v, .bool (powB zs k)]) ∧ NewL w (powL zs k) v w' := by
  obtain rfl := h.len
  cases hC : isC zs
  · have HE : Hid (powB zs k = false) := by show _ = _; simp [powB, hC]
    have HL : Hid (powL zs k = []) := by show _ = _; simp [powL, HE.out]
    have HC := Lib.hid hC
    clear hC
    go_enter Try.func34, Try.ntmps34
    go_wp2_with fail
    refine (chartOf_any _ _ _ _ _ h).mono ?_
    rintro e w1 ⟨m, T, rfl, hy, hno, hb⟩
    rw [HC.out]
    have hB := hb.alloc hb.size (.cells #[.int .i64 ((m : Int)), .int .i64 (T 0), .int .i64 (T 1), .int .i64 (T 2), .int .i64 (T 3), .int .i64 (T 4), .int .i64 (T 5)] 49)
    clear hy hno hb
    go_wp2
    go_ret2
    exact ⟨_, by rw [HE.out]; rfl, by rw [HL.out]; exact World.ownsRow_nil _ _ _ _, hB⟩
  have hF := isC_CH hC
  have h6 := hF.six
  have HF := Lib.hid hF
  have HC := Lib.hid hC
  cases hS : inB k (-100) 100
  · have HE : Hid (powB zs k = false) := by show _ = _; simp [powB, hS]
    have HL : Hid (powL zs k = []) := by show _ = _; simp [powL, HE.out]
    have hk : k < -100 ∨ 100 < k := by have := of_decide_eq_false hS; omega
    clear hS hC
    rcases hk with hk | hk
    · have hd : decide (k < -100) = true := by simpa using hk
      go_enter Try.func34, Try.ntmps34
      go_wp2_with fail
      refine (chartOf_any _ _ _ _ _ h).mono ?_
      rintro e w1 ⟨m, T, rfl, hy, hno, hb⟩
      rw [HC.out]
      have hB := hb.alloc hb.size (.cells #[.int .i64 ((m : Int)), .int .i64 (T 0), .int .i64 (T 1), .int .i64 (T 2), .int .i64 (T 3), .int .i64 (T 4), .int .i64 (T 5)] 49)
      clear hy hno hb
      go_wp2
      go_ret2
      exact ⟨_, by rw [HE.out]; rfl, by rw [HL.out]; exact World.ownsRow_nil _ _ _ _, hB⟩
    · have hd : decide (k < -100) = false := by simp; omega
      have hd2 : decide (100 < k) = true := by simpa using hk
      go_enter Try.func34, Try.ntmps34
      go_wp2_with fail
      refine (chartOf_any _ _ _ _ _ h).mono ?_
      rintro e w1 ⟨m, T, rfl, hy, hno, hb⟩
      rw [HC.out]
      have hB := hb.alloc hb.size (.cells #[.int .i64 ((m : Int)), .int .i64 (T 0), .int .i64 (T 1), .int .i64 (T 2), .int .i64 (T 3), .int .i64 (T 4), .int .i64 (T 5)] 49)
      clear hy hno hb
      go_wp2
      go_ret2
      exact ⟨_, by rw [HE.out]; rfl, by rw [HL.out]; exact World.ownsRow_nil _ _ _ _, hB⟩
  have HE : Hid (powB zs k = true) := by show _ = _; simp [powB, hS, hC]
  have hk : -100 ≤ k ∧ k ≤ 100 := of_decide_eq_true hS
  have hd1 : decide (k < -100) = false := by simp; omega
  have hd2 : decide (100 < k) = false := by simp; omega
  have HTU := Lib.hid (tuL_yes hC)
  have HFT : Hid (CH zs.length (ofL (tuL zs))) := by have := isC_CH (tuL_isC hC); rwa [tuL_len hC] at this
  by_cases hneg : k < 0
  · have HL : Hid (powL zs k = LT zs.length (pwF zs.length (ofL (tuL zs)) (0 - k).toNat)) := by show _ = _; simp only [powL, HE.out, if_true, if_pos hneg]
    have hd3 : decide (k < 0) = true := by simpa using hneg
    obtain ⟨q, hq⟩ := Int.eq_ofNat_of_zero_le (show 0 ≤ -k by omega)
    have HQ : Hid ((0 - k).toNat = q) := by show _ = _; omega
    have hq100 : q ≤ 100 := by omega
    clear hS hC
    go_enter Try.func34, Try.ntmps34
    go_wp2_with fail
    refine (chartOf_any _ _ _ _ _ h).mono ?_
    rintro e w1 ⟨m, T, rfl, hy, hno, hb⟩
    obtain ⟨rfl, hT0⟩ := hy HC.out
    have hT := Lib.hid hT0
    clear hT0
    rw [HC.out]
    clear hy hno h hn HC
    generalize zs.length = n0 at *
    have hP := Cb.new w1 n0 T
    have hB := hb.alloc hb.size (.cells #[.int .i64 ((n0 : Int)), .int .i64 (T 0), .int .i64 (T 1), .int .i64 (T 2), .int .i64 (T 3), .int .i64 (T 4), .int .i64 (T 5)] 49)
    have hs1 := hb.size
    obtain ⟨a0, a1, a2, a3, a4, a5, a6⟩ := hP.all
    clear hb
    have hEn : En n0 T := en_congr HF.out.en (fun j hj => hT.out j (by omega))
    go_wp2_with fail
    refine (turned_any n0 h6 T (en_ok h6 hEn) _).mono ?_
    rintro e w2 ⟨T2, rfl, HT2, hb2⟩
    have HT3 : Hid (∀ j, j < n0 → T2 j = ofL (tuL zs) j) := fun j hj => by
      rw [HT2.out j (by omega), ← HTU.out, ofL_LT _ j hj, mv_congr (fun i hi => hT.out i (by omega))]
    have hCH2 : CH n0 T2 := HFT.out.congr (fun j hj => (HT3.out j hj).symm)
    have hP2 := hP.below hb2 hP.lt
    have hB2 := hB.trans (hb2.mono hB.size)
    have hP3 := Cb.full (n := (n0 : Int)) (T := T2) hP2
    have hB3 := below_set7 hB2 (b := w1.heap.size) (by omega) (.int .i64 n0) (.int .i64 (T2 0)) (.int .i64 (T2 1)) (.int .i64 (T2 2)) (.int .i64 (T2 3)) (.int .i64 (T2 4)) (.int .i64 (T2 5))
    obtain ⟨c0, c1, c2, c3, c4, c5, c6⟩ := hP2.all
    obtain ⟨d0, d1, d2, d3, d4, d5, d6⟩ := hP2.frees
    have hs2 := hb2.size
    simp only [World.size_alloc] at hs2
    clear hP hP2 hB hB2 hb2 a0 a1 a2 a3 a4 a5 a6 HT2
    go_wp2_with fail
    generalize ((((((((w2).setCell ⟨w1.heap.size, 0, none⟩ (.int .i64 ((n0 : Int)))).setCell ⟨w1.heap.size, 1, none⟩ (.int .i64 (T2 0))).setCell ⟨w1.heap.size, 2, none⟩ (.int .i64 (T2 1))).setCell ⟨w1.heap.size, 3, none⟩ (.int .i64 (T2 2))).setCell ⟨w1.heap.size, 4, none⟩ (.int .i64 (T2 3))).setCell ⟨w1.heap.size, 5, none⟩ (.int .i64 (T2 4))).setCell ⟨w1.heap.size, 6, none⟩ (.int .i64 (T2 5))) = W3 at hP3 hB3 ⊢
    refine (power_any n0 T2 hCH2 q (by omega) _).mono ?_
    rintro e w3 ⟨T4, rfl, HT4, hb3⟩
    have hB4 := hB3.trans (hb3.mono hB3.size)
    go_wp2_with fail
    refine (list_any n0 h6 T4 _).mono ?_
    rintro e w4 ⟨B, rfl, hown, hb4⟩
    have hB5 := hB4.trans (hb4.mono hB4.size)
    have hN := newL_of hown hB4.size hB5 ((LT_congr (fun j hj => (HT4.out j hj).trans (ipw_congr hCH2 HT3.out q hj))).trans (HL.out.trans (by rw [HQ.out])).symm)
    clear hP3 hB3 hB4 hB5 hb3 hb4 hown c0 c1 c2 c3 c4 c5 c6 d0 d1 d2 d3 d4 d5 d6
    go_wp2
    go_ret2
    exact ⟨_, by rw [HE.out]; rfl, hN⟩
  · have HL : Hid (powL zs k = LT zs.length (pwF zs.length (ofL zs) k.toNat)) := by show _ = _; simp only [powL, HE.out, if_true, if_neg hneg]
    have hd3 : decide (k < 0) = false := by simpa using hneg
    obtain ⟨q, rfl⟩ := Int.eq_ofNat_of_zero_le (show 0 ≤ k by omega)
    clear hS hC
    go_enter Try.func34, Try.ntmps34
    go_wp2_with fail
    refine (chartOf_any _ _ _ _ _ h).mono ?_
    rintro e w1 ⟨m, T, rfl, hy, hno, hb⟩
    obtain ⟨rfl, hT0⟩ := hy HC.out
    have hT := Lib.hid hT0
    clear hT0
    rw [HC.out]
    clear hy hno h hn HC
    generalize zs.length = n0 at *
    have hP := Cb.new w1 n0 T
    have hB := hb.alloc hb.size (.cells #[.int .i64 ((n0 : Int)), .int .i64 (T 0), .int .i64 (T 1), .int .i64 (T 2), .int .i64 (T 3), .int .i64 (T 4), .int .i64 (T 5)] 49)
    have hs1 := hb.size
    obtain ⟨a0, a1, a2, a3, a4, a5, a6⟩ := hP.all
    clear hb
    have HT3 : Hid (∀ j, j < n0 → T j = ofL zs j) := fun j hj => hT.out j (by omega)
    have hCH2 : CH n0 T := HF.out.congr (fun j hj => (hT.out j (by omega)).symm)
    go_wp2_with fail
    refine (power_any n0 T hCH2 q (by omega) _).mono ?_
    rintro e w2 ⟨T2, rfl, HT2, hb2⟩
    have hB2 := hB.trans (hb2.mono hB.size)
    have hs2 := hb2.size
    simp only [World.size_alloc] at hs2
    go_wp2_with fail
    refine (list_any n0 h6 T2 _).mono ?_
    rintro e w3 ⟨B, rfl, hown, hb3⟩
    have hB3 := hB2.trans (hb3.mono hB2.size)
    have hN := newL_of hown (by omega) hB3 ((LT_congr (fun j hj => (HT2.out j hj).trans (ipw_congr hCH2 HT3.out q hj))).trans HL.out.symm)
    clear hP hB hB2 hB3 hb2 hb3 hown a0 a1 a2 a3 a4 a5 a6
    go_wp2
    go_ret2
    exact ⟨_, by rw [HE.out]; rfl, hN⟩
end

/-! impl of chapter 2: GreenHolds. -/
section
open Go.RowKit

theorem pairB {W : World} {B : Nat} {a : World} (h : Below B a W) (hs : B ≤ W.heap.size) (o o' : Obj) : Below B a ((W.alloc o).alloc o') := (h.alloc hs o).alloc (by simp; omega) o'

theorem nat_beq (x y : Nat) : ((x : Int) == (y : Int)) = decide (x = y) := by cases e : decide (x = y) <;> simp at e ⊢ <;> omega

end

end Go.Proofs.Ytckppfgooflooab
