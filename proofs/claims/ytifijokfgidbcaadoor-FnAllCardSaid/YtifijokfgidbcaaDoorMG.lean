/-
  I2A I2B I2C.
-/
import Derived.Test.YtifijokfgidbcaaDoorMB
import Derived.Test.YtifijokfgidbcaaDoorMC
import Derived.Test.YtifijokfgidbcaaDoorME
namespace Go.Proofs.YtifijokfgidbcaaDoor
set_option maxRecDepth 100000
set_option linter.unusedVariables false
set_option linter.unusedSimpArgs false
set_option linter.unusedSectionVars false

/-! impl of chapter 2: the number of all charts, powers. -/
section
open Go.RowKit

/-- the loop of impl.ChartNumber -/
def tnS (n : Nat) : Nat → Nat × Nat
  | 0 => (1, 1)
  | k + 1 => let s := tnS n k; (s.1 * (n - k) * (n - k) / (k + 1), s.2 + s.1 * (n - k) * (n - k) / (k + 1))
theorem tnS_fin : ∀ (n : Fin 13) (k : Fin 14), (tnS n.val k.val).1 < 1000000000000 ∧ (tnS n.val k.val).2 < 1000000000000 := by decide +kernel
theorem tn_num : ∀ n : Fin 13, (tnS n.val n.val).2 = numN n.val := by decide +kernel

set_option maxHeartbeats 1000000 in
theorem implNumber_any (n : Int) (w : World) : Calls Tryd.prog 8 #[.int .i64 n] w fun e w' => e = .returned (.tuple #[.int .i64 (numL n : Nat), .bool (inB n 0 12)]) ∧ w = w' := by
  cases hS : inB n 0 12
  · have HL : Hid (numL n = 0) := by show _ = _; simp [numL, hS]
    have hk : n < 0 ∨ 12 < n := by have := of_decide_eq_false hS; omega
    clear hS
    rcases hk with hk | hk
    · have hd : decide (n < 0) = true := by simpa using hk
      go_enter Tryd.func8, Tryd.ntmps8
      go_wp2
      go_ret2
      exact ⟨by rw [HL.out]; rfl, rfl⟩
    · have hd : decide (n < 0) = false := by simp; omega
      have hd2 : decide (12 < n) = true := by simpa using hk
      go_enter Tryd.func8, Tryd.ntmps8
      go_wp2
      go_ret2
      exact ⟨by rw [HL.out]; rfl, rfl⟩
  · have hk : 0 ≤ n ∧ n ≤ 12 := of_decide_eq_true hS
    obtain ⟨N, rfl⟩ := Int.eq_ofNat_of_zero_le hk.1
    have hN : N ≤ 12 := by omega
    have HL : Hid (numL (N : Int) = (tnS N N).2) := by show _ = _; simp [numL, hS]; exact (tn_num ⟨N, by omega⟩).symm
    have hd : decide ((N : Int) < 0) = false := by simp
    have hd2 : decide (12 < (N : Int)) = false := by simp; omega
    clear hS hk
    go_enter Tryd.func8, Tryd.ntmps8
    go_wp2
    go_loop [4, 5, 6] (fun t s i => ∃ k : Nat, k ≤ N ∧ i = .int .i64 ((k + 1 : Nat) : Int) ∧ t = .int .i64 ((tnS N k).1 : Nat) ∧ s = .int .i64 ((tnS N k).2 : Nat)) (fun _ _ i => N + 1 - (intOf i).toNat)
    case atStart => exact ⟨0, Nat.zero_le _, rfl, rfl, rfl⟩
    case round =>
      obtain ⟨k, hk, rfl, rfl, rfl⟩ := hrel
      by_cases hlt : k < N
      · have hb := tnS_fin ⟨N, by omega⟩ ⟨k, by omega⟩
        have hb' := tnS_fin ⟨N, by omega⟩ ⟨k + 1, by omega⟩
        simp only at hb hb'
        have hs : tnS N (k + 1) = ((tnS N k).1 * (N - k) * (N - k) / (k + 1), (tnS N k).2 + (tnS N k).1 * (N - k) * (N - k) / (k + 1)) := rfl
        rw [hs] at hb'
        have HSS := Lib.hid hs
        clear hs
        generalize (tnS N k).1 = x at hb hb' HSS
        generalize (tnS N k).2 = y at hb hb' HSS
        simp only at hb'
        have hx1 : x * (N - k) ≤ 12000000000000 := Nat.le_trans (Nat.mul_le_mul (show x ≤ 1000000000000 by omega) (show N - k ≤ 12 by omega)) (by omega)
        have e1 : ((x : Int) * ((N : Int) - (k : Int))) = ((x * (N - k) : Nat) : Int) := by rw [show ((N : Int) - (k : Int)) = ((N - k : Nat) : Int) by omega]; push_cast; rfl
        generalize x * (N - k) = p at hx1 e1 hb' HSS
        have hx2 : p * (N - k) ≤ 144000000000000 := Nat.le_trans (Nat.mul_le_mul hx1 (show N - k ≤ 12 by omega)) (by omega)
        have e2 : ((p : Int) * ((N : Int) - (k : Int))) = ((p * (N - k) : Nat) : Int) := by rw [show ((N : Int) - (k : Int)) = ((N - k : Nat) : Int) by omega]; push_cast; rfl
        generalize p * (N - k) = q at hx2 e2 hb' HSS
        have e3 : (q : Int).tdiv ((k : Int) + 1) = ((q / (k + 1) : Nat) : Int) := by rw [Int.tdiv_eq_ediv_of_nonneg (by omega)]; push_cast; rfl
        generalize q / (k + 1) = r at e3 hb' HSS
        have h0 : ((k : Int) + 1) ≠ 0 := by omega
        have h5 : (N : Int) - ((k : Int) + 1) + 1 = (N : Int) - (k : Int) := by omega
        go_wp2
        exact ⟨⟨k + 1, by omega, by go_num, by rw [HSS.out], by rw [HSS.out]; push_cast; rfl⟩, by simp [intOf]; omega⟩
      · obtain rfl : k = N := by omega
        go_wp2
        go_ret2
        exact ⟨by rw [HL.out]; rfl, rfl⟩

/-! ### powers -/
theorem Cb.full {W : World} {b : Nat} {n n0 : Int} {T T0 : Nat → Int} (hR : Cb W b n0 T0) : Cb ((((((((W).setCell ⟨b, 0, none⟩ (.int .i64 (n))).setCell ⟨b, 1, none⟩ (.int .i64 (T 0))).setCell ⟨b, 2, none⟩ (.int .i64 (T 1))).setCell ⟨b, 3, none⟩ (.int .i64 (T 2))).setCell ⟨b, 4, none⟩ (.int .i64 (T 3))).setCell ⟨b, 5, none⟩ (.int .i64 (T 4))).setCell ⟨b, 6, none⟩ (.int .i64 (T 5))) b n T := by
  refine World.rowIs.congr (World.rowIs.set (World.rowIs.set (World.rowIs.set (World.rowIs.set (World.rowIs.set (World.rowIs.set (World.rowIs.set hR 0 _) 1 _) 2 _) 3 _) 4 _) 5 _) 6 _) (fun j hj => ?_)
  match j, hj with
  | 0, _ => rfl
  | 1, _ => rfl
  | 2, _ => rfl
  | 3, _ => rfl
  | 4, _ => rfl
  | 5, _ => rfl
  | 6, _ => rfl
theorem Cb.full_other {W : World} {b b' : Nat} {n n' : Int} {T T' : Nat → Int} (h : Cb W b' n' T') (hne : b' ≠ b) : Cb ((((((((W).setCell ⟨b, 0, none⟩ (.int .i64 (n))).setCell ⟨b, 1, none⟩ (.int .i64 (T 0))).setCell ⟨b, 2, none⟩ (.int .i64 (T 1))).setCell ⟨b, 3, none⟩ (.int .i64 (T 2))).setCell ⟨b, 4, none⟩ (.int .i64 (T 3))).setCell ⟨b, 5, none⟩ (.int .i64 (T 4))).setCell ⟨b, 6, none⟩ (.int .i64 (T 5))) b' n' T' :=
  ((((((h.other hne _).other hne _).other hne _).other hne _).other hne _).other hne _).other hne _

end

/-! impl of chapter 2: WaysPower, GreenHolds. -/
section
open Go.RowKit

theorem ipw_congr {n : Nat} {F G : Nat → Int} (hF : CH n F) (h : ∀ j, j < n → F j = G j) (q : Nat) {j : Nat} (hj : j < n) : pwF n F q j = pwF n G q j := by
  rw [pw_it hF hj, pw_it (hF.congr h) hj, it_congr hF h hj]

end

/-! impl of chapter 2: GreenHolds. -/
section
open Go.RowKit

theorem pairB {W : World} {B : Nat} {a : World} (h : Below B a W) (hs : B ≤ W.heap.size) (o o' : Obj) : Below B a ((W.alloc o).alloc o') := (h.alloc hs o).alloc (by simp; omega) o'

theorem nat_beq (x y : Nat) : ((x : Int) == (y : Int)) = decide (x = y) := by cases e : decide (x = y) <;> simp at e ⊢ <;> omega

end

end Go.Proofs.YtifijokfgidbcaaDoor
