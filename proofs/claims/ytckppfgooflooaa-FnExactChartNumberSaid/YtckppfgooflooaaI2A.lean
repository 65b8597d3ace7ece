/-
  impl of chapter 2: the number of all charts, powers.
-/
import Derived.Test.YtckppfgooflooaaL2D
import Derived.Test.YtckppfgooflooaaExpB
import Derived.Test.YtckppfgooflooaaSet
namespace Go.Proofs.Ytckppfgooflooaa
set_option maxRecDepth 100000
open Go.RowKit

/-- the loop of impl.ChartNumber -/
def tnS (n : Nat) : Nat → Nat × Nat
  | 0 => (1, 1)
  | k + 1 => let s := tnS n k; (s.1 * (n - k) * (n - k) / (k + 1), s.2 + s.1 * (n - k) * (n - k) / (k + 1))
theorem tnS_fin : ∀ (n : Fin 13) (k : Fin 14), (tnS n.val k.val).1 < 1000000000000 ∧ (tnS n.val k.val).2 < 1000000000000 := by decide +kernel
theorem tn_num : ∀ n : Fin 13, (tnS n.val n.val).2 = numN n.val := by decide +kernel

set_option maxHeartbeats 1000000 in
theorem implNumber_any (n : Int) (w : World) : Calls Try.prog 16 #[.int .i64 n] w fun e w' => e = .returned (.tuple #[.int .i64 (numL n : Nat), .bool (inB n 0 12)]) ∧ w = w' := by
  cases hS : inB n 0 12
  · have HL : Hid (numL n = 0) := by show _ = _; simp [numL, hS]
    have hk : n < 0 ∨ 12 < n := by have := of_decide_eq_false hS; omega
    clear hS
    rcases hk with hk | hk
    · have hd : decide (n < 0) = true := by simpa using hk
      go_enter Try.func16, Try.ntmps16
      go_wp2
      go_ret2
      exact ⟨by rw [HL.out]; rfl, rfl⟩
    · have hd : decide (n < 0) = false := by simp; omega
      have hd2 : decide (12 < n) = true := by simpa using hk
      go_enter Try.func16, Try.ntmps16
      go_wp2
      go_ret2
      exact ⟨by rw [HL.out]; rfl, rfl⟩
  · have hk : 0 ≤ n ∧ n ≤ 12 := of_decide_eq_true hS
    obtain ⟨N, rfl⟩ := Int.eq_ofNat_of_zero_le hk.1
    have hN : N ≤ 12 := by omega
    have HL : Hid (numL (N : Int) = (tnS N N).2) := by show _ = _; simp [numL, hS]; exact (tn_num ⟨N, by omega⟩).symm
    have hd : decide ((N : Int) < 0) = false := by simp
    have hd2 : decide (12 < (N : Int)) = false := by simp; omega
    clear hS hk
    go_enter Try.func16, Try.ntmps16
    go_wp2
    go_loop [4, 5, 6] (fun t s i => ∃ k : Nat, k ≤ N ∧ i = .int .i64 ((k + 1 : Nat) : Int) ∧ t = .int .i64 ((tnS N k).1 : Nat) ∧ s = .int .i64 ((tnS N k).2 : Nat)) (fun _ _ i => N + 1 - (intOf i).toNat)
    case atStart => exact ⟨0, Nat.zero_le _, rfl, rfl, rfl⟩
    case round =>
      obtain ⟨k, hk, rfl, rfl, rfl⟩ := hrel
      by_cases hlt : k < N
      · have hb := tnS_fin ⟨N, by omega⟩ ⟨k, by omega⟩
        have hb' := tnS_fin ⟨N, by omega⟩ ⟨k + 1, by omega⟩
        simp only at hb hb'
        have hs : tnS N (k + 1) = ((tnS N k).1 * (N - k) * (N - k) / (k + 1), (tnS N k).2 + (tnS N k).1 * (N - k) * (N - k) / (k + 1)) := rfl
        rw [hs] at hb'
        have HSS := Lib.hid hs
        clear hs
        generalize (tnS N k).1 = x at hb hb' HSS
        generalize (tnS N k).2 = y at hb hb' HSS
        simp only at hb'
        have hx1 : x * (N - k) ≤ 12000000000000 := Nat.le_trans (Nat.mul_le_mul (show x ≤ 1000000000000 by omega) (show N - k ≤ 12 by omega)) (by omega)
        have e1 : ((x : Int) * ((N : Int) - (k : Int))) = ((x * (N - k) : Nat) : Int) := by rw [show ((N : Int) - (k : Int)) = ((N - k : Nat) : Int) by omega]; push_cast; rfl
        generalize x * (N - k) = p at hx1 e1 hb' HSS
        have hx2 : p * (N - k) ≤ 144000000000000 := Nat.le_trans (Nat.mul_le_mul hx1 (show N - k ≤ 12 by omega)) (by omega)
        have e2 : ((p : Int) * ((N : Int) - (k : Int))) = ((p * (N - k) : Nat) : Int) := by rw [show ((N : Int) - (k : Int)) = ((N - k : Nat) : Int) by omega]; push_cast; rfl
        generalize p * (N - k) = q at hx2 e2 hb' HSS
        have e3 : (q : Int).tdiv ((k : Int) + 1) = ((q / (k + 1) : Nat) : Int) := by rw [Int.tdiv_eq_ediv_of_nonneg (by omega)]; push_cast; rfl
        generalize q / (k + 1) = r at e3 hb' HSS
        have h0 : ((k : Int) + 1) ≠ 0 := by omega
        have h5 : (N : Int) - ((k : Int) + 1) + 1 = (N : Int) - (k : Int) := by omega
        go_wp2
        exact ⟨⟨k + 1, by omega, by go_num, by rw [HSS.out], by rw [HSS.out]; push_cast; rfl⟩, by simp [intOf]; omega⟩
      · obtain rfl : k = N := by omega
        go_wp2
        go_ret2
        exact ⟨by rw [HL.out]; rfl, rfl⟩

/-! ### powers -/
theorem Cb.full {W : World} {b : Nat} {n n0 : Int} {T T0 : Nat → Int} (hR : Cb W b n0 T0) : Cb ((((((((W).setCell ⟨b, 0, none⟩ (.int .i64 (n))).setCell ⟨b, 1, none⟩ (.int .i64 (T 0))).setCell ⟨b, 2, none⟩ (.int .i64 (T 1))).setCell ⟨b, 3, none⟩ (.int .i64 (T 2))).setCell ⟨b, 4, none⟩ (.int .i64 (T 3))).setCell ⟨b, 5, none⟩ (.int .i64 (T 4))).setCell ⟨b, 6, none⟩ (.int .i64 (T 5))) b n T := by
  refine World.rowIs.congr (World.rowIs.set (World.rowIs.set (World.rowIs.set (World.rowIs.set (World.rowIs.set (World.rowIs.set (World.rowIs.set hR 0 _) 1 _) 2 _) 3 _) 4 _) 5 _) 6 _) (fun j hj => ?_)
  match j, hj with
  | 0, _ => rfl
  | 1, _ => rfl
  | 2, _ => rfl
  | 3, _ => rfl
  | 4, _ => rfl
  | 5, _ => rfl
  | 6, _ => rfl
theorem Cb.full_other {W : World} {b b' : Nat} {n n' : Int} {T T' : Nat → Int} (h : Cb W b' n' T') (hne : b' ≠ b) : Cb ((((((((W).setCell ⟨b, 0, none⟩ (.int .i64 (n))).setCell ⟨b, 1, none⟩ (.int .i64 (T 0))).setCell ⟨b, 2, none⟩ (.int .i64 (T 1))).setCell ⟨b, 3, none⟩ (.int .i64 (T 2))).setCell ⟨b, 4, none⟩ (.int .i64 (T 3))).setCell ⟨b, 5, none⟩ (.int .i64 (T 4))).setCell ⟨b, 6, none⟩ (.int .i64 (T 5))) b' n' T' :=
  ((((((h.other hne _).other hne _).other hne _).other hne _).other hne _).other hne _).other hne _

set_option maxHeartbeats 1000000 in
theorem power_any (n : Nat) (F : Nat → Int) (hF : CH n F) (k : Nat) (hk : k ≤ 4611686018427387904) (w : World) :
    Calls Try.prog 73 #[.agg #[.int .i64 ((n : Int)), .int .i64 (F 0), .int .i64 (F 1), .int .i64 (F 2), .int .i64 (F 3), .int .i64 (F 4), .int .i64 (F 5)], .int .i64 (k : Int)] w fun e w' => ∃ T' : Nat → Int, e = .returned (.agg #[.int .i64 ((n : Int)), .int .i64 (T' 0), .int .i64 (T' 1), .int .i64 (T' 2), .int .i64 (T' 3), .int .i64 (T' 4), .int .i64 (T' 5)]) ∧ Hid (∀ j, j < n → T' j = pwF n F k j) ∧ Below w.heap.size w w' := by
  have h6 := hF.six
  have HF := Lib.hid hF
  clear hF
  go_enter Try.func73, Try.ntmps73
  go_wp2_with fail
  have hA0 := ((Cb.new w n F).alloc (.cells #[.int .i64 ((0 : Int)), .int .i64 ((fun _ => (0 : Int)) 0), .int .i64 ((fun _ => (0 : Int)) 1), .int .i64 ((fun _ => (0 : Int)) 2), .int .i64 ((fun _ => (0 : Int)) 3), .int .i64 ((fun _ => (0 : Int)) 4), .int .i64 ((fun _ => (0 : Int)) 5)] 59))
  have hB0 := Cb.new (w.alloc (.cells #[.int .i64 ((n : Int)), .int .i64 (F 0), .int .i64 (F 1), .int .i64 (F 2), .int .i64 (F 3), .int .i64 (F 4), .int .i64 (F 5)] 59)) 0 (fun _ => 0)
  rw [World.size_alloc] at hB0
  have hBel : Below w.heap.size w ((w.alloc (.cells #[.int .i64 ((n : Int)), .int .i64 (F 0), .int .i64 (F 1), .int .i64 (F 2), .int .i64 (F 3), .int .i64 (F 4), .int .i64 (F 5)] 59)).alloc (.cells #[.int .i64 ((0 : Int)), .int .i64 ((fun _ => (0 : Int)) 0), .int .i64 ((fun _ => (0 : Int)) 1), .int .i64 ((fun _ => (0 : Int)) 2), .int .i64 ((fun _ => (0 : Int)) 3), .int .i64 ((fun _ => (0 : Int)) 4), .int .i64 ((fun _ => (0 : Int)) 5)] 59)) := ((Below.refl _ w).alloc (Nat.le_refl _) _).alloc (by simp) _
  refine (identity_any n h6 _).mono ?_
  rintro e w1 ⟨T, rfl, HT, hb⟩
  have hs1 := hb.size
  simp only [World.size_alloc] at hs1
  have hA1 := (hA0.below hb (by simp <;> omega)).alloc (.cells #[.int .i64 ((n : Int)), .int .i64 (T 0), .int .i64 (T 1), .int .i64 (T 2), .int .i64 (T 3), .int .i64 (T 4), .int .i64 (T 5)] 59)
  have hB1 := (hB0.below hb (by simp)).alloc (.cells #[.int .i64 ((n : Int)), .int .i64 (T 0), .int .i64 (T 1), .int .i64 (T 2), .int .i64 (T 3), .int .i64 (T 4), .int .i64 (T 5)] 59)
  have hP1 := Cb.new w1 n T
  have hBel1 : Below w.heap.size w (w1.alloc (.cells #[.int .i64 ((n : Int)), .int .i64 (T 0), .int .i64 (T 1), .int .i64 (T 2), .int .i64 (T 3), .int .i64 (T 4), .int .i64 (T 5)] 59)) := (hBel.trans (hb.mono hBel.size)).alloc (by omega) _
  clear hA0 hB0 hBel hb
  have HT0 : Hid (∀ j, j < n → T j = pwF n F 0 j) := fun j hj => by rw [HT.out]; unfold idF pwF; rw [if_pos hj, if_pos hj]
  go_wp2
  go_loopw [10] (fun i wr => ∃ (q : Nat) (T' : Nat → Int), q ≤ k ∧ i = .int .i64 (q : Int) ∧ Hid (∀ j, j < n → T' j = pwF n F q j) ∧ Cb wr w.heap.size n F ∧ Cb wr (w.heap.size + 1) 0 (fun _ => 0) ∧ Cb wr w1.heap.size n T' ∧ Below w.heap.size w wr) (fun i _ => k - (intOf i).toNat)
  case atStart => exact ⟨0, T, Nat.zero_le _, rfl, HT0, hA1, hB1, hP1, hBel1⟩
  case round =>
    clear hA1 hB1 hP1 hBel1 HT HT0
    obtain ⟨q, T', hq, rfl, HT, hA, hB, hP, hBel⟩ := hrel
    obtain ⟨a0, a1, a2, a3, a4, a5, a6⟩ := hA.all
    obtain ⟨b0, b1, b2, b3, b4, b5, b6⟩ := hP.all
    by_cases hlt : q < k
    · have hEn : En n T' := en_congr (CH_pw HF.out q).en (fun j hj => HT.out j hj)
      go_wp2_with fail
      refine (times_any n h6 T' (en_ok h6 hEn) n F _).mono ?_
      rintro e w2 ⟨T2, rfl, HT2, hb2⟩
      have hs2 := hb2.size
      have HT' : Hid (∀ j, j < n → T2 j = pwF n F (q + 1) j) := fun j hj => by
        rw [HT2.out j (by omega), times_cmp h6 hEn hj]
        exact cmp_congr HT.out (fun _ _ => rfl) hj
      have hA2 := hA.below hb2 hA.lt
      have hB2 := hB.below hb2 hB.lt
      have hP2 := hP.below hb2 hP.lt
      have hBel2 := hBel.trans (hb2.mono hBel.size)
      have hA3 := Cb.full_other (n := (n : Int)) (T := T2) (b := w1.heap.size) hA2 (by omega)
      have hB3 := Cb.full_other (n := (n : Int)) (T := T2) (b := w1.heap.size) hB2 (by omega)
      have hP3 := Cb.full (n := (n : Int)) (T := T2) hP2
      have hBel3 := below_set7 hBel2 (b := w1.heap.size) (by omega) (.int .i64 n) (.int .i64 (T2 0)) (.int .i64 (T2 1)) (.int .i64 (T2 2)) (.int .i64 (T2 3)) (.int .i64 (T2 4)) (.int .i64 (T2 5))
      obtain ⟨c0, c1, c2, c3, c4, c5, c6⟩ := hP2.all
      obtain ⟨d0, d1, d2, d3, d4, d5, d6⟩ := hP2.frees
      clear hA hB hP hBel hb2 HT HT2 hA2 hB2 hP2 hBel2 a0 a1 a2 a3 a4 a5 a6 b0 b1 b2 b3 b4 b5 b6
      go_wp2
      go_roundw
      case rel => exact ⟨q + 1, T2, by omega, by go_num, HT', hA3, hB3, hP3, hBel3⟩
      case measure => simp [intOf]; omega
    · obtain rfl : q = k := by omega
      obtain ⟨c0, c1, c2, c3, c4, c5, c6⟩ := hB.all
      obtain ⟨d0, d1, d2, d3, d4, d5, d6⟩ := hB.frees
      have hR := Cb.full (n := (n : Int)) (T := T') hB
      have hBel3 := below_set7 hBel (b := w.heap.size + 1) (by omega) (.int .i64 n) (.int .i64 (T' 0)) (.int .i64 (T' 1)) (.int .i64 (T' 2)) (.int .i64 (T' 3)) (.int .i64 (T' 4)) (.int .i64 (T' 5))
      obtain ⟨q0, q1, q2, q3, q4, q5, q6⟩ := hR.all
      clear hA hB hP hBel hR
      go_wp2
      refine bodyPost_ret (v := .agg #[.int .i64 ((n : Int)), .int .i64 (T' 0), .int .i64 (T' 1), .int .i64 (T' 2), .int .i64 (T' 3), .int .i64 (T' 4), .int .i64 (T' 5)]) (by simp [results, Try.results73, go_sem, q0, q1, q2, q3, q4, q5, q6]) rfl ⟨T', rfl, HT, hBel3⟩
end Go.Proofs.Ytckppfgooflooaa
