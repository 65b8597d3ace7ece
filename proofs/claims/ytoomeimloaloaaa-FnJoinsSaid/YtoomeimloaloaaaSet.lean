/-
  Sets as charts, cuts: impl.identity, impl.isSet, ChartSet, ChartCut of both.
-/
import Derived.Test.YtoomeimloaloaaaExpB
namespace Go.Proofs.Ytoomeimloaloaaa
set_option maxRecDepth 100000
open Go.RowKit

/-- the number tells a set of n points -/
def inS (n : Nat) (s : Int) : Bool := decide (0 ≤ s ∧ s < 2 ^ n)
theorem inS_nat {n : Nat} {s : Int} (hn : n ≤ 6) (h : inS n s = true) : ∃ m : Nat, s = m ∧ m < 64 := by
  have h' := of_decide_eq_true h
  obtain ⟨m, rfl⟩ := Int.eq_ofNat_of_zero_le h'.1
  refine ⟨m, rfl, ?_⟩
  have : (2 : Int) ^ n ≤ 64 := by
    match n, hn with
    | 0, _ => decide
    | 1, _ => decide
    | 2, _ => decide
    | 3, _ => decide
    | 4, _ => decide
    | 5, _ => decide
    | 6, _ => decide
  omega

def idF (n j : Nat) : Int := if j < n then (j : Int) else 0


theorem pow_fin : ∀ n : Fin 7, wrap64 (2 ^ n.val) = 2 ^ n.val := by decide +kernel
theorem pow_is {n : Nat} (hn : n ≤ 6) : wrap64 (2 ^ n) = 2 ^ n := pow_fin ⟨n, by omega⟩
theorem pow_lim : ∀ n : Fin 7, (1 : Int) ≤ 2 ^ n.val ∧ (2 : Int) ^ n.val ≤ 64 := by decide +kernel


def seOK (N s : Int) : Bool := inB N 1 6 && inS N.toNat s
def seL (N s : Int) : List Int := if seOK N s = true then LT N.toNat (seF s.toNat) else []
theorem seL_le (N s : Int) : (seL N s).length ≤ 6 := by
  unfold seL; split
  · rename_i h; rw [LT_length]; unfold seOK at h; rw [Bool.and_eq_true] at h; have := of_decide_eq_true h.1; omega
  · simp
theorem cut_id {n m : Nat} (hn : n ≤ 6) {T : Nat → Int} (hT : ∀ j, T j = idF n j) : LT n (cutL n m (mv T n)) = LT n (seF m) := by
  refine LT_congr (fun j hj => ?_)
  rw [cut_closed n m T j n hn, hT j]
  have e : idF n j = j := by simp [idF, hj]
  rw [e]
  unfold seF stillF
  by_cases hb : m.testBit j = true
  · rw [if_pos ⟨⟨hj, by omega, by omega⟩, hb⟩, if_pos hb]
  · rw [if_neg (fun h => hb h.2), if_neg hb, if_pos hj]
theorem idF_ok {n : Nat} (hn : n ≤ 6) : Ok n (idF n) := fun j hj => .inr ⟨by simp [idF, hj], by simp [idF, hj]; omega⟩



theorem ofL_LT' {n : Nat} (F : Nat → Int) (j : Nat) (hj : j < n) : ofL (LT n F) j = F j := LT_get _ _ _ hj

def cuOK (zs : List Int) (s : Int) : Bool := isC zs && inS zs.length s
def cuL (zs : List Int) (s : Int) : List Int := if cuOK zs s = true then LT zs.length (cutL zs.length s.toNat (mv (ofL zs) zs.length)) else []
theorem cuL_le (zs : List Int) (s : Int) : (cuL zs s).length ≤ 6 := by
  unfold cuL; split
  · rename_i h; rw [LT_length]; unfold cuOK at h; rw [Bool.and_eq_true] at h; exact (isC_len h.1).2
  · simp
theorem cut_congr {n m : Nat} {T T' : Nat → Int} (h : ∀ j, j < n → T j = T' j) : cutL n m (mv T n) = cutL n m (mv T' n) := by rw [mv_congr h]
theorem cut_times {n m : Nat} {zs : List Int} (hn : n ≤ 6) (hE : Ent n zs) : LT n (timesL n (ofL zs) (mv (ofL (LT n (seF m))) n)) = LT n (cutL n m (mv (ofL zs) n)) := by
  refine LT_congr (fun j hj => ?_)
  rw [times_closed n _ _ j n hn, cut_closed n m _ j n hn, ofL_LT' _ j hj]
  have hz : ofL zs j = -1 ∨ (0 ≤ ofL zs j ∧ ofL zs j < n) := hE j hj
  unfold seF stillF
  by_cases hb : m.testBit j = true
  · rw [if_pos hb, if_pos ⟨hj, by omega, by omega⟩]
    have e : ((j : Int)).toNat = j := by omega
    rw [e]
    rcases hz with h | ⟨h0, h1⟩
    · rw [if_neg (fun hh => by omega), if_pos hj]; exact h
    · rw [if_pos ⟨⟨hj, h0, by omega⟩, hb⟩]
  · have e2 : ¬ ((j < n ∧ 0 ≤ ofL zs j ∧ ofL zs j < 6) ∧ m.testBit j = true) := fun hh => hb hh.2
    have e1 : ¬ (j < n ∧ (0 : Int) ≤ -1 ∧ (-1 : Int) < 6) := fun hh => by omega
    rw [if_neg hb, if_neg e2, if_neg e1]
theorem se_ent {n m : Nat} : Ent n (LT n (seF m)) := fun j hj => by
  rw [LT_get _ _ _ hj]
  unfold seF; split
  · right; omega
  · left; rfl


end Go.Proofs.Ytoomeimloaloaaa
