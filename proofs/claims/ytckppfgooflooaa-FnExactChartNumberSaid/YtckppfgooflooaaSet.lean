/-
  Sets as charts, cuts: impl.identity, impl.isSet, ChartSet, ChartCut of both.
-/
import Derived.Test.YtckppfgooflooaaExpB
namespace Go.Proofs.Ytckppfgooflooaa
set_option maxRecDepth 100000
open Go.RowKit

/-- the number tells a set of n points -/
def inS (n : Nat) (s : Int) : Bool := decide (0 ≤ s ∧ s < 2 ^ n)
theorem inS_nat {n : Nat} {s : Int} (hn : n ≤ 6) (h : inS n s = true) : ∃ m : Nat, s = m ∧ m < 64 := by
  have h' := of_decide_eq_true h
  obtain ⟨m, rfl⟩ := Int.eq_ofNat_of_zero_le h'.1
  refine ⟨m, rfl, ?_⟩
  have : (2 : Int) ^ n ≤ 64 := by
    match n, hn with
    | 0, _ => decide
    | 1, _ => decide
    | 2, _ => decide
    | 3, _ => decide
    | 4, _ => decide
    | 5, _ => decide
    | 6, _ => decide
  omega

def idF (n j : Nat) : Int := if j < n then (j : Int) else 0

set_option maxHeartbeats 1000000 in
theorem identity_any (n : Nat) (hn : n ≤ 6) (w : World) : Calls Try.prog 95 #[.int .i64 n] w fun e w' => ∃ T : Nat → Int, e = .returned (.agg #[.int .i64 ((n : Int)), .int .i64 (T 0), .int .i64 (T 1), .int .i64 (T 2), .int .i64 (T 3), .int .i64 (T 4), .int .i64 (T 5)]) ∧ Hid (∀ j, T j = idF n j) ∧ Below w.heap.size w w' := by
  go_enter Try.func95, Try.ntmps95
  go_wp2
  have hA := (Cb.new w 0 (fun _ => 0)).alloc (.cells #[.int .i64 ((n : Int)), .int .i64 ((fun _ => (0 : Int)) 0), .int .i64 ((fun _ => (0 : Int)) 1), .int .i64 ((fun _ => (0 : Int)) 2), .int .i64 ((fun _ => (0 : Int)) 3), .int .i64 ((fun _ => (0 : Int)) 4), .int .i64 ((fun _ => (0 : Int)) 5)] 59)
  have hC := Cb.new (w.alloc (.cells #[.int .i64 ((0 : Int)), .int .i64 ((fun _ => (0 : Int)) 0), .int .i64 ((fun _ => (0 : Int)) 1), .int .i64 ((fun _ => (0 : Int)) 2), .int .i64 ((fun _ => (0 : Int)) 3), .int .i64 ((fun _ => (0 : Int)) 4), .int .i64 ((fun _ => (0 : Int)) 5)] 59)) n (fun _ => 0)
  have hB : Below w.heap.size w ((w.alloc (.cells #[.int .i64 ((0 : Int)), .int .i64 ((fun _ => (0 : Int)) 0), .int .i64 ((fun _ => (0 : Int)) 1), .int .i64 ((fun _ => (0 : Int)) 2), .int .i64 ((fun _ => (0 : Int)) 3), .int .i64 ((fun _ => (0 : Int)) 4), .int .i64 ((fun _ => (0 : Int)) 5)] 59)).alloc (.cells #[.int .i64 ((n : Int)), .int .i64 ((fun _ => (0 : Int)) 0), .int .i64 ((fun _ => (0 : Int)) 1), .int .i64 ((fun _ => (0 : Int)) 2), .int .i64 ((fun _ => (0 : Int)) 3), .int .i64 ((fun _ => (0 : Int)) 4), .int .i64 ((fun _ => (0 : Int)) 5)] 59)) := ((Below.refl _ w).alloc (Nat.le_refl _) _).alloc (by simp) _
  rw [World.size_alloc] at hC
  go_loopw [4, 8] (fun _ i wr => ∃ k : Nat, k ≤ n ∧ i = .int .i64 k ∧ Cb wr w.heap.size 0 (fun _ => 0) ∧ Cb wr (w.heap.size + 1) n (idF k) ∧ Below w.heap.size w wr) (fun _ i _ => n - (intOf i).toNat)
  case atStart => exact ⟨0, Nat.zero_le _, rfl, hA, hC.congr (fun j _ => by simp [idF]), hB⟩
  case round =>
    clear hA hC hB
    obtain ⟨k, hk, rfl, hA, hC, hB⟩ := hrel
    by_cases hlt : k < n
    · have c1 := hC.at_ (k := k) (by omega)
      have f1 := hC.frozen (1 + k)
      have hC' := (hC.set_ k (k : Int)).congr (T' := idF (k + 1)) (fun j _ => by
        unfold idF
        by_cases h : j = k
        · subst h; simp
        · by_cases h2 : j < k
          · simp [h, h2, show j < k + 1 by omega]
          · simp [h, h2, show ¬ j < k + 1 by omega])
      have hA' := hA.other (a := ⟨w.heap.size + 1, 1 + k, none⟩) (by simp) (.int .i64 (k : Int))
      have hB' := hB.setCell (p := ⟨w.heap.size + 1, 1 + k, none⟩) (by simp) (.int .i64 (k : Int))
      generalize idF k = T at c1
      go_wp2
      go_roundw
      case rel => exact ⟨k + 1, by omega, by go_num, hA', hC', hB'⟩
      case measure => simp [intOf]; omega
    · obtain rfl : k = n := by omega
      generalize hT : idF k = T at hC
      have HT := Lib.hid hT
      clear hT
      obtain ⟨a0, a1, a2, a3, a4, a5, a6⟩ := hA.all
      obtain ⟨b0, b1, b2, b3, b4, b5, b6⟩ := hA.frees
      obtain ⟨c0, c1, c2, c3, c4, c5, c6⟩ := hC.all
      go_wp2
      refine bodyPost_ret (v := .agg #[.int .i64 ((k : Int)), .int .i64 (T 0), .int .i64 (T 1), .int .i64 (T 2), .int .i64 (T 3), .int .i64 (T 4), .int .i64 (T 5)]) (by simp [results, Try.results95, go_sem, a0, a1, a2, a3, a4, a5, a6]) rfl ⟨T, rfl, ?_, ?_⟩
      · intro j; rw [← HT.out]
      · exact below_set7 hB (Nat.le_refl _) _ _ _ _ _ _ _

theorem pow_fin : ∀ n : Fin 7, wrap64 (2 ^ n.val) = 2 ^ n.val := by decide +kernel
theorem pow_is {n : Nat} (hn : n ≤ 6) : wrap64 (2 ^ n) = 2 ^ n := pow_fin ⟨n, by omega⟩
theorem pow_lim : ∀ n : Fin 7, (1 : Int) ≤ 2 ^ n.val ∧ (2 : Int) ^ n.val ≤ 64 := by decide +kernel


def seOK (N s : Int) : Bool := inB N 1 6 && inS N.toNat s
def seL (N s : Int) : List Int := if seOK N s = true then LT N.toNat (seF s.toNat) else []
theorem seL_le (N s : Int) : (seL N s).length ≤ 6 := by
  unfold seL; split
  · rename_i h; rw [LT_length]; unfold seOK at h; rw [Bool.and_eq_true] at h; have := of_decide_eq_true h.1; omega
  · simp
theorem cut_id {n m : Nat} (hn : n ≤ 6) {T : Nat → Int} (hT : ∀ j, T j = idF n j) : LT n (cutL n m (mv T n)) = LT n (seF m) := by
  refine LT_congr (fun j hj => ?_)
  rw [cut_closed n m T j n hn, hT j]
  have e : idF n j = j := by simp [idF, hj]
  rw [e]
  unfold seF stillF
  by_cases hb : m.testBit j = true
  · rw [if_pos ⟨⟨hj, by omega, by omega⟩, hb⟩, if_pos hb]
  · rw [if_neg (fun h => hb h.2), if_neg hb, if_pos hj]
theorem idF_ok {n : Nat} (hn : n ≤ 6) : Ok n (idF n) := fun j hj => .inr ⟨by simp [idF, hj], by simp [idF, hj]; omega⟩



theorem ofL_LT' {n : Nat} (F : Nat → Int) (j : Nat) (hj : j < n) : ofL (LT n F) j = F j := LT_get _ _ _ hj

def cuOK (zs : List Int) (s : Int) : Bool := isC zs && inS zs.length s
def cuL (zs : List Int) (s : Int) : List Int := if cuOK zs s = true then LT zs.length (cutL zs.length s.toNat (mv (ofL zs) zs.length)) else []
theorem cuL_le (zs : List Int) (s : Int) : (cuL zs s).length ≤ 6 := by
  unfold cuL; split
  · rename_i h; rw [LT_length]; unfold cuOK at h; rw [Bool.and_eq_true] at h; exact (isC_len h.1).2
  · simp
theorem cut_congr {n m : Nat} {T T' : Nat → Int} (h : ∀ j, j < n → T j = T' j) : cutL n m (mv T n) = cutL n m (mv T' n) := by rw [mv_congr h]
theorem cut_times {n m : Nat} {zs : List Int} (hn : n ≤ 6) (hE : Ent n zs) : LT n (timesL n (ofL zs) (mv (ofL (LT n (seF m))) n)) = LT n (cutL n m (mv (ofL zs) n)) := by
  refine LT_congr (fun j hj => ?_)
  rw [times_closed n _ _ j n hn, cut_closed n m _ j n hn, ofL_LT' _ j hj]
  have hz : ofL zs j = -1 ∨ (0 ≤ ofL zs j ∧ ofL zs j < n) := hE j hj
  unfold seF stillF
  by_cases hb : m.testBit j = true
  · rw [if_pos hb, if_pos ⟨hj, by omega, by omega⟩]
    have e : ((j : Int)).toNat = j := by omega
    rw [e]
    rcases hz with h | ⟨h0, h1⟩
    · rw [if_neg (fun hh => by omega), if_pos hj]; exact h
    · rw [if_pos ⟨⟨hj, h0, by omega⟩, hb⟩]
  · have e2 : ¬ ((j < n ∧ 0 ≤ ofL zs j ∧ ofL zs j < 6) ∧ m.testBit j = true) := fun hh => hb hh.2
    have e1 : ¬ (j < n ∧ (0 : Int) ≤ -1 ∧ (-1 : Int) < 6) := fun hh => by omega
    rw [if_neg hb, if_neg e2, if_neg e1]
theorem se_ent {n m : Nat} : Ent n (LT n (seF m)) := fun j hj => by
  rw [LT_get _ _ _ hj]
  unfold seF; split
  · right; omega
  · left; rfl


set_option maxHeartbeats 400000 in
theorem specCut_any (A : Option Addr) (n c : Nat) (zs : List Int) (s : Int) (w : World) (h : RI w A n zs) (hn : n ≤ 1048576) :
    Calls Try.prog 100 #[.slice A n c, .int .i64 s] w fun e w' => ∃ v, e = .returned (.tuple #[v, .bool (cuOK zs s)]) ∧ NewL w (cuL zs s) v w' := by
  obtain rfl := h.len
  cases hC : isC zs
  · have HE : Hid (cuOK zs s = false) := by show _ = _; simp [cuOK, hC]
    have HL : Hid (cuL zs s = []) := by show _ = _; simp [cuL, HE.out]
    have HC := Lib.hid hC
    clear hC
    go_enter Try.func100, Try.ntmps100
    go_wp2_with fail
    refine (specIn_any _ _ _ _ _ h hn).mono ?_
    rintro e w' ⟨rfl, rfl⟩
    rw [HC.out]
    go_wp2
    go_ret2
    refine ⟨_, by rw [HE.out]; rfl, ?_, (Below.refl _ _).alloc (Nat.le_refl _) _⟩
    rw [HL.out]; exact own_lit0 _
  · have h6 := (isC_len hC).2
    have h0 := (isC_len hC).1
    have hE := isC_ent hC
    have hp := pow_is h6
    have hq := pow_lim ⟨zs.length, by omega⟩
    simp only at hq
    obtain ⟨hq1, hq2⟩ := hq
    have HI : Hid (inB s 0 (2 ^ zs.length - 1) = inS zs.length s) := by show _ = _; unfold inB inS; congr 1; apply propext; omega
    have HC := Lib.hid hC
    cases hS : inS zs.length s
    · have HE : Hid (cuOK zs s = false) := by show _ = _; simp [cuOK, hS]
      have HL : Hid (cuL zs s = []) := by show _ = _; simp [cuL, HE.out]
      have HS := Lib.hid hS
      clear hS hC
      go_enter Try.func100, Try.ntmps100
      go_wp2_with fail
      refine (specIn_any _ _ _ _ _ h hn).mono ?_
      rintro e w' ⟨rfl, rfl⟩
      rw [HC.out]
      go_wp2_with fail
      refine (l6In_any _ _ _ _).mono ?_
      rintro e w' ⟨rfl, rfl⟩
      rw [HI.out, HS.out]
      go_wp2
      go_ret2
      refine ⟨_, by rw [HE.out]; rfl, ?_, (Below.refl _ _).alloc (Nat.le_refl _) _⟩
      rw [HL.out]; exact own_lit0 _
    · have HE : Hid (cuOK zs s = true) := by show _ = _; simp [cuOK, hS, hC]
      obtain ⟨m, rfl, hm⟩ := inS_nat h6 hS
      have HL : Hid (LT zs.length (timesL zs.length (ofL zs) (mv (ofL (LT zs.length (seF m))) zs.length)) = cuL zs m) := by
        show _ = _; rw [cut_times h6 hE]; simp [cuL, HE.out]
      have HS := Lib.hid hS
      clear hS hC
      go_enter Try.func100, Try.ntmps100
      go_wp2_with fail
      refine (specIn_any _ _ _ _ _ h hn).mono ?_
      rintro e w' ⟨rfl, rfl⟩
      rw [HC.out]
      go_wp2_with fail
      refine (l6In_any _ _ _ _).mono ?_
      rintro e w' ⟨rfl, rfl⟩
      rw [HI.out, HS.out]
      go_wp2_with fail
      refine (l1Set_any zs.length m h6 hm _).mono ?_
      rintro e w1 ⟨v, rfl, hown, hb1⟩
      rw [LT_length] at hown
      obtain ⟨g, cp, rfl, hgb, hgl⟩ := hown.form (by omega)
      have hr := RI.of_own hown
      go_wp2_with fail
      refine (l1Times_any _ _ _ _ _ _ _ _ hr (h.below hb1) h6 se_ent).mono ?_
      rintro e w2 ⟨v, rfl, hown2, hb2⟩
      rw [HL.out] at hown2
      have hN : NewL w (cuL zs m) v w2 := ⟨⟨hown2.1, hown2.2.imp id fun ⟨g, cap, cur, a, b, c⟩ => ⟨g, cap, cur, a, Nat.le_trans hb1.size b, c⟩⟩, hb1.trans (hb2.mono hb1.size)⟩
      clear hown hown2 hb2
      go_wp2
      go_ret2
      exact ⟨_, by rw [HE.out]; rfl, hN⟩
end Go.Proofs.Ytckppfgooflooaa
