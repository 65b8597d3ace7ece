/-
  spec: period, powers, Green's relations, numbers.
-/
import Derived.Test.YtckppfgooflooaaL2C
namespace Go.Proofs.Ytckppfgooflooaa
set_option maxRecDepth 100000
open Go.RowKit

theorem LT_eq_iff {n : Nat} {F G : Nat → Int} : LT n F = LT n G ↔ ∀ j, j < n → F j = G j := by
  constructor
  · intro h j hj
    have := congrArg (fun L => ofL L j) h
    simpa only [ofL_pt _ hj] using this
  · intro h; exact LT_congr h

set_option maxHeartbeats 1000000 in
theorem specPeriod_any (A : Option Addr) (n c : Nat) (zs : List Int) (w : World) (h : RI w A n zs) (hn : n ≤ 1048576) :
    Calls Try.prog 37 #[.slice A n c] w fun e w' => e = .returned (.tuple #[.int .i64 (perL zs : Nat), .bool (isC zs)]) ∧ Below w.heap.size w w' := by
  cases hC : isC zs
  · have HT : Hid (perL zs = 0) := by show _ = _; unfold perL; rw [hC]; rfl
    have HC := Lib.hid hC
    clear hC
    go_enter Try.func37, Try.ntmps37
    go_wp2_with fail
    refine (specIndex_any _ _ _ _ _ h hn).mono ?_
    rintro e w1 ⟨rfl, hB⟩
    rw [HC.out]
    go_wp2
    go_ret2
    exact ⟨by rw [HT.out]; rfl, hB⟩
  · obtain rfl := h.len
    have HT : Hid (perL zs = perF zs.length (ofL zs)) := by show _ = _; unfold perL; rw [hC]; rfl
    have HI : Hid (idxL zs = idxF zs.length (ofL zs)) := by show _ = _; unfold idxL; rw [hC]; rfl
    have hF := isC_CH hC
    have h6 := hF.six
    have hp1 := hF.one
    have HF := Lib.hid hF
    have hs := per_spec hF
    have hi6 := (idx_spec hF).2.1
    have hp60 := hs.2.1
    have hpos := hs.1
    have HS := Lib.hid hs
    have HC := Lib.hid hC
    clear hC hs
    go_enter Try.func37, Try.ntmps37
    go_wp2_with fail
    refine (specIndex_any _ _ _ _ _ h hn).mono ?_
    rintro e w1 ⟨rfl, hB⟩
    rw [HC.out, HI.out]
    generalize hK : idxF zs.length (ofL zs) = K at HS hi6 ⊢
    generalize hP : perF zs.length (ofL zs) = P at HS hp60 hpos HT
    clear hK hP
    go_wp2
    go_loopw [6] (fun i wr => ∃ t : Nat, 1 ≤ t ∧ t ≤ P ∧ i = .int .i64 t ∧ Below w.heap.size w wr) (fun i _ => P - (intOf i).toNat)
    case atStart => exact ⟨1, Nat.le_refl _, hpos, rfl, hB⟩
    case round =>
      clear hB
      obtain ⟨t, ht1, ht, rfl, hB⟩ := hrel
      go_wp2_with fail
      refine (l2Power_any A _ c (K + t) _ zs wr (h.below hB) HF.out (by go_num) (by omega)).mono ?_
      rintro e w2 ⟨v, rfl, hown, hb2⟩
      rw [LT_length] at hown
      obtain ⟨g, cp, rfl, hgb, hgl⟩ := hown.form (by omega)
      have hB2 := hB.trans (hb2.mono hB.size)
      clear hb2
      go_wp2_with fail
      refine (l2Power_any A _ c K _ zs w2 (h.below hB2) HF.out rfl (by omega)).mono ?_
      rintro e w3 ⟨v, rfl, hown3, hb3⟩
      rw [LT_length] at hown3
      obtain ⟨g3, cp3, rfl, _, _⟩ := hown3.form (by omega)
      have hr := (RI.of_own hown).below hb3
      have hr3 := RI.of_own hown3
      have hB3 := hB2.trans (hb3.mono hB2.size)
      clear hown hown3 hb3
      go_wp2_with fail
      refine (l2Same_any _ _ _ _ _ _ _ _ _ hr hr3 (by omega)).mono ?_
      rintro e w4 ⟨rfl, hb4⟩
      have hB4 := hB3.trans (hb4.mono hB3.size)
      clear hb4 hr hr3
      by_cases hlt : t < P
      · have HD : Hid (decide (LT zs.length (pwF zs.length (ofL zs) (K + t)) = LT zs.length (pwF zs.length (ofL zs) K)) = false) := decide_eq_false (fun e => HS.out.2.2.2 t ht1 hlt (LT_eq_iff.1 e))
        rw [HD.out]
        go_wp2
        go_roundw
        case rel => exact ⟨t + 1, by omega, by omega, by go_num, hB4⟩
        case measure => simp [intOf]; omega
      · obtain rfl : t = P := by omega
        have HD : Hid (decide (LT zs.length (pwF zs.length (ofL zs) (K + t)) = LT zs.length (pwF zs.length (ofL zs) K)) = true) := decide_eq_true (LT_eq_iff.2 HS.out.2.2.1)
        rw [HD.out]
        go_wp2
        go_ret2
        exact ⟨by rw [HT.out]; rfl, hB4⟩

def powB (zs : List Int) (k : Int) : Bool := isC zs && inB k (-100) 100
def powL (zs : List Int) (k : Int) : List Int := if powB zs k = true then (if k < 0 then LT zs.length (pwF zs.length (ofL (tuL zs)) (0 - k).toNat) else LT zs.length (pwF zs.length (ofL zs) k.toNat)) else []
theorem powL_le (zs : List Int) (k : Int) : (powL zs k).length ≤ 6 := by
  unfold powL powB
  split
  · rename_i h
    have := (isC_len (Bool.and_eq_true _ _ ▸ h).1).2
    split <;> (rw [LT_length]; exact this)
  · simp

set_option maxHeartbeats 1000000 in
theorem specPower_any (A : Option Addr) (n c : Nat) (k : Int) (zs : List Int) (w : World) (h : RI w A n zs) (hn : n ≤ 1048576) :
    Calls Try.prog 39 #[.slice A n c, .int .i64 k] w fun e w' => ∃ v, e = .returned (.tuple #[v, .bool (powB zs k)]) ∧ NewL w (powL zs k) v w' := by
  obtain rfl := h.len
  cases hC : isC zs
  · have HE : Hid (powB zs k = false) := by show _ = _; simp [powB, hC]
    have HL : Hid (powL zs k = []) := by show _ = _; simp [powL, HE.out]
    have HC := Lib.hid hC
    clear hC
    go_enter Try.func39, Try.ntmps39
    go_wp2_with fail
    refine (specIn_any _ _ _ _ _ h hn).mono ?_
    rintro e w' ⟨rfl, rfl⟩
    rw [HC.out]
    go_wp2
    go_ret2
    refine ⟨_, by rw [HE.out]; rfl, ?_, (Below.refl _ _).alloc (Nat.le_refl _) _⟩
    rw [HL.out]; exact own_lit0 _
  have hF := isC_CH hC
  have h6 := hF.six
  have h1 := hF.one
  have hE := isC_ent hC
  have HF := Lib.hid hF
  have HC := Lib.hid hC
  cases hS : inB k (-100) 100
  · have HE : Hid (powB zs k = false) := by show _ = _; simp [powB, hS]
    have HL : Hid (powL zs k = []) := by show _ = _; simp [powL, HE.out]
    have HS := Lib.hid hS
    clear hS hC
    go_enter Try.func39, Try.ntmps39
    go_wp2_with fail
    refine (specIn_any _ _ _ _ _ h hn).mono ?_
    rintro e w' ⟨rfl, rfl⟩
    rw [HC.out]
    go_wp2_with fail
    refine (l6In_any _ _ _ _).mono ?_
    rintro e w' ⟨rfl, rfl⟩
    rw [HS.out]
    go_wp2
    go_ret2
    refine ⟨_, by rw [HE.out]; rfl, ?_, (Below.refl _ _).alloc (Nat.le_refl _) _⟩
    rw [HL.out]; exact own_lit0 _
  have HE : Hid (powB zs k = true) := by show _ = _; simp [powB, hS, hC]
  have hk : -100 ≤ k ∧ k ≤ 100 := of_decide_eq_true hS
  have HS := Lib.hid hS
  have HTU := Lib.hid (tuL_yes hC)
  have HFT : Hid (CH zs.length (ofL (tuL zs))) := by have := isC_CH (tuL_isC hC); rwa [tuL_len hC] at this
  clear hS hC hF
  by_cases hneg : k < 0
  · have HL : Hid (powL zs k = LT zs.length (pwF zs.length (ofL (tuL zs)) (0 - k).toNat)) := by show _ = _; unfold powL; rw [if_pos HE.out, if_pos hneg]
    go_enter Try.func39, Try.ntmps39
    go_wp2_with fail
    refine (specIn_any _ _ _ _ _ h hn).mono ?_
    rintro e w' ⟨rfl, rfl⟩
    rw [HC.out]
    go_wp2_with fail
    refine (l6In_any _ _ _ _).mono ?_
    rintro e w' ⟨rfl, rfl⟩
    rw [HS.out]
    go_wp2_with fail
    refine (l1Turned_any _ _ _ _ _ h h6 hE).mono ?_
    rintro e w1 ⟨v, rfl, hown, hb1⟩
    rw [HTU.out] at hown
    have htl : (tuL zs).length = zs.length := by rw [← HTU.out, LT_length]
    rw [htl] at hown
    obtain ⟨g, cp, rfl, _, _⟩ := hown.form (by omega)
    have hr := RI.of_own hown
    clear hown htl
    go_wp2_with fail
    refine (l2Power_any _ _ _ (0 - k).toNat _ _ w1 hr HFT.out (by omega) (by omega)).mono ?_
    rintro e w2 ⟨v, rfl, hown2, hb2⟩
    have hN : NewL w (powL zs k) v w2 := by rw [HL.out]; exact ⟨own_base hown2 hb1.size, hb1.trans (hb2.mono hb1.size)⟩
    clear hown2 hb2
    go_wp2
    go_ret2
    exact ⟨_, by rw [HE.out]; rfl, hN⟩
  · have HL : Hid (powL zs k = LT zs.length (pwF zs.length (ofL zs) k.toNat)) := by show _ = _; unfold powL; rw [if_pos HE.out, if_neg hneg]
    go_enter Try.func39, Try.ntmps39
    go_wp2_with fail
    refine (specIn_any _ _ _ _ _ h hn).mono ?_
    rintro e w' ⟨rfl, rfl⟩
    rw [HC.out]
    go_wp2_with fail
    refine (l6In_any _ _ _ _).mono ?_
    rintro e w' ⟨rfl, rfl⟩
    rw [HS.out]
    go_wp2_with fail
    refine (l2Power_any _ _ _ k.toNat _ _ w h HF.out (by omega) (by omega)).mono ?_
    rintro e w2 ⟨v, rfl, hown2, hb2⟩
    have hN : NewL w (powL zs k) v w2 := by rw [HL.out]; exact ⟨hown2, hb2⟩
    clear hown2 hb2
    go_wp2
    go_ret2
    exact ⟨_, by rw [HE.out]; rfl, hN⟩

/-! ### numbers -/
/-- the loop of ChartNumber -/
def numS (n : Nat) : Nat → Nat × Nat × Nat
  | 0 => (0, 1, 1)
  | k + 1 => let s := numS n k; (s.1 + s.2.1 * s.2.1 * s.2.2, s.2.1 * (n - k) / (k + 1), s.2.2 * (k + 1))
def numN (n : Nat) : Nat := (numS n (n + 1)).1
def numL (n : Int) : Nat := if inB n 0 12 = true then numN n.toNat else 0
theorem numS_fin : ∀ (n : Fin 13) (k : Fin 14), (numS n.val k.val).1 < 4611686018427387904 ∧ (numS n.val k.val).2.1 < 1000 ∧ (numS n.val k.val).2.2 < 1000000000000 := by decide +kernel

set_option maxHeartbeats 1000000 in
theorem specNumber_any (n : Int) (w : World) : Calls Try.prog 17 #[.int .i64 n] w fun e w' => e = .returned (.tuple #[.int .i64 (numL n : Nat), .bool (inB n 0 12)]) ∧ w = w' := by
  cases hS : inB n 0 12
  · have HL : Hid (numL n = 0) := by show _ = _; simp [numL, hS]
    have HS := Lib.hid hS
    clear hS
    go_enter Try.func17, Try.ntmps17
    go_wp2_with fail
    refine (l6In_any _ _ _ _).mono ?_
    rintro e w' ⟨rfl, rfl⟩
    rw [HS.out]
    go_wp2
    go_ret2
    exact ⟨by rw [HL.out]; rfl, rfl⟩
  · have hk : 0 ≤ n ∧ n ≤ 12 := of_decide_eq_true hS
    obtain ⟨N, rfl⟩ := Int.eq_ofNat_of_zero_le hk.1
    have hN : N ≤ 12 := by omega
    have HL : Hid (numL (N : Int) = (numS N (N + 1)).1) := by show _ = _; simp [numL, hS, numN]
    have HS := Lib.hid hS
    clear hS hk
    go_enter Try.func17, Try.ntmps17
    go_wp2_with fail
    refine (l6In_any _ _ _ _).mono ?_
    rintro e w' ⟨rfl, rfl⟩
    rw [HS.out]
    go_wp2
    go_loop [4, 5, 6, 7] (fun s a f i => ∃ k : Nat, k ≤ N + 1 ∧ i = .int .i64 k ∧ s = .int .i64 ((numS N k).1 : Nat) ∧ a = .int .i64 ((numS N k).2.1 : Nat) ∧ f = .int .i64 ((numS N k).2.2 : Nat)) (fun _ _ _ i => N + 1 - (intOf i).toNat)
    case atStart => exact ⟨0, Nat.zero_le _, rfl, rfl, rfl, rfl⟩
    case round =>
      obtain ⟨k, hk, rfl, rfl, rfl, rfl⟩ := hrel
      by_cases hlt : k ≤ N
      · have hb := numS_fin ⟨N, by omega⟩ ⟨k, by omega⟩
        have hb' := numS_fin ⟨N, by omega⟩ ⟨k + 1, by omega⟩
        simp only at hb hb'
        have hs : numS N (k + 1) = ((numS N k).1 + (numS N k).2.1 * (numS N k).2.1 * (numS N k).2.2, (numS N k).2.1 * (N - k) / (k + 1), (numS N k).2.2 * (k + 1)) := rfl
        rw [hs] at hb'
        have HSS := Lib.hid hs
        clear hs
        generalize (numS N k).1 = x at hb hb' HSS
        generalize (numS N k).2.1 = y at hb hb' HSS
        generalize (numS N k).2.2 = z at hb hb' HSS
        simp only at hb'
        have hyy : y * y < 1000000 := Nat.lt_of_le_of_lt (Nat.mul_le_mul (Nat.le_of_lt_succ (show y < 999 + 1 by omega)) (Nat.le_of_lt_succ (show y < 999 + 1 by omega))) (by omega)
        have hyn : y * (N - k) ≤ 12000 := Nat.le_trans (Nat.mul_le_mul (show y ≤ 1000 by omega) (show N - k ≤ 12 by omega)) (by omega)
        have e1 : ((y : Int) * (y : Int)) = ((y * y : Nat) : Int) := by push_cast; rfl
        generalize y * y = p at hyy e1 hb' HSS
        have e2 : ((p : Int) * (z : Int)) = ((p * z : Nat) : Int) := by push_cast; rfl
        generalize p * z = q at e2 hb' HSS
        have e3 : ((y : Int) * ((N : Int) - (k : Int))) = ((y * (N - k) : Nat) : Int) := by rw [show ((N : Int) - (k : Int)) = ((N - k : Nat) : Int) by omega]; push_cast; rfl
        generalize y * (N - k) = r at e3 hyn hb' HSS
        have e4 : (r : Int).tdiv ((k : Int) + 1) = ((r / (k + 1) : Nat) : Int) := by rw [Int.tdiv_eq_ediv_of_nonneg (by omega)]; push_cast; rfl
        generalize r / (k + 1) = d at e4 hb' HSS
        have e5 : ((z : Int) * ((k : Int) + 1)) = ((z * (k + 1) : Nat) : Int) := by push_cast; rfl
        generalize z * (k + 1) = f at e5 hb' HSS
        go_wp2
        go_round
        case rel => exact ⟨k + 1, by omega, by go_num, by rw [HSS.out]; go_num, by rw [HSS.out]; try go_num, by rw [HSS.out]; try go_num⟩
        case measure => simp [intOf]; omega
      · obtain rfl : k = N + 1 := by omega
        go_wp2
        go_ret2
        exact ⟨by rw [HL.out]; rfl, rfl⟩
end Go.Proofs.Ytckppfgooflooaa
