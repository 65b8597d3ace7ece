/-
  spec's exported functions of one chart.
-/
import Derived.Test.YtdmobfjcbjengaaExpA
namespace Go.Proofs.Ytdmobfjcbjengaa
open Go.RowKit

theorem tuL_yes {zs : List Int} (h : isC zs = true) : LT zs.length (turnL zs.length (mv (ofL zs) zs.length)) = tuL zs := by
  unfold tuL; rw [fk_yes h]
  have := (isC_len h).2
  rw [turnL_congr this (fun j _ => fT_yes h j)]
theorem tuL_no {zs : List Int} (h : isC zs = false) : tuL zs = [] := by unfold tuL; rw [fk_no h]; rfl
theorem mvT_yes {zs : List Int} (h : isC zs = true) : mv (fT zs) (fk zs) = mv (ofL zs) zs.length := by rw [fk_yes h]; exact mv_congr (fun j _ => fT_yes h j)
theorem mvT_no {zs : List Int} (h : isC zs = false) : mv (fT zs) (fk zs) = [] := by rw [fk_no h]; rfl

theorem tuL_le (zs : List Int) : (tuL zs).length ≤ 6 := by unfold tuL; rw [LT_length]; exact fk_le zs

set_option maxHeartbeats 400000 in
theorem specTurned_any (A : Option Addr) (n c : Nat) (zs : List Int) (w : World) (h : RI w A n zs) (hn : n ≤ 1048576) :
    Calls Try.prog 26 #[.slice A n c] w fun e w' => ∃ v, e = .returned (.tuple #[v, .bool (isC zs)]) ∧ NewL w (tuL zs) v w' := by
  cases hC : isC zs
  · have HT := Lib.hid (tuL_no hC)
    have HC := Lib.hid hC
    clear hC
    go_enter Try.func26, Try.ntmps26
    go_wp2_with fail
    refine (specIn_any _ _ _ _ _ h hn).mono ?_
    rintro e w1 ⟨rfl, rfl⟩
    rw [HC.out]
    go_wp2
    go_ret2
    refine ⟨_, rfl, ?_, (Below.refl _ _).alloc (Nat.le_refl _) _⟩
    rw [HT.out]; exact own_lit0 _
  · obtain rfl := h.len
    have hT := Lib.hid (tuL_yes hC)
    have hE := isC_ent hC
    have h6 := (isC_len hC).2
    have HC := Lib.hid hC
    clear hC
    go_enter Try.func26, Try.ntmps26
    go_wp2_with fail
    refine (specIn_any _ _ _ _ _ h hn).mono ?_
    rintro e w1 ⟨rfl, rfl⟩
    rw [HC.out]
    go_wp2_with fail
    refine (l1Turned_any _ _ _ _ _ h h6 hE).mono ?_
    rintro e w1 ⟨v, rfl, hN⟩
    rw [hT.out] at hN
    go_wp2
    go_ret2
    exact ⟨_, rfl, hN⟩

set_option maxHeartbeats 400000 in
theorem specDomain_any (A : Option Addr) (n c : Nat) (zs : List Int) (w : World) (h : RI w A n zs) (hn : n ≤ 1048576) :
    Calls Try.prog 30 #[.slice A n c] w fun e w' => e = .returned (.tuple #[.int .i64 (doN zs : Nat), .bool (isC zs)]) ∧ Below w.heap.size w w' := by
  cases hC : isC zs
  · have HT : Hid (doN zs = 0) := by show _ = _; unfold doN; rw [mvT_no hC]; rfl
    have HC := Lib.hid hC
    clear hC
    go_enter Try.func30, Try.ntmps30
    go_wp2_with fail
    refine (specIn_any _ _ _ _ _ h hn).mono ?_
    rintro e w1 ⟨rfl, rfl⟩
    rw [HC.out]
    go_wp2
    go_ret2
    exact ⟨by rw [HT.out]; rfl, Below.refl _ _⟩
  · obtain rfl := h.len
    have HT : Hid (doN zs = domL (mv (ofL zs) zs.length)) := by show _ = _; unfold doN; rw [mvT_yes hC]
    have hE := isC_ent hC
    have h6 := (isC_len hC).2
    have HC := Lib.hid hC
    clear hC
    go_enter Try.func30, Try.ntmps30
    go_wp2_with fail
    refine (specIn_any _ _ _ _ _ h hn).mono ?_
    rintro e w1 ⟨rfl, rfl⟩
    rw [HC.out]
    go_wp2_with fail
    refine (l1Domain_any _ _ _ _ _ h h6 hE).mono ?_
    rintro e w1 ⟨rfl, rfl⟩
    go_wp2
    go_ret2
    exact ⟨by rw [HT.out]; rfl, Below.refl _ _⟩


theorem turn_ent {n : Nat} (T : Nat → Int) : ∀ k, k ≤ n → ∀ j, turnL n (mv T k) j = -1 ∨ (0 ≤ turnL n (mv T k) j ∧ turnL n (mv T k) j < n) ∨ (turnL n (mv T k) j = 0 ∧ n ≤ j)
  | 0, _, j => by
    by_cases hj : j < n
    · left; simp [mv, turnL, stillF, hj]
    · right; right; exact ⟨by simp [mv, turnL, stillF, hj], by omega⟩
  | k + 1, hk, j => by
    have ih := turn_ent (n := n) T k (by omega) j
    by_cases hc : k < 6 ∧ 0 ≤ T k ∧ T k < 6
    · rw [mv_step hc, turnL_snoc]
      unfold turnS
      by_cases e : j = (T k).toNat
      · rw [if_pos e]; right; left; simp; omega
      · rw [if_neg e]; exact ih
    · have e0 : mv T (k + 1) = mv T k := by simp [mv, hc]
      rw [e0]; exact ih
theorem tu_ent {n : Nat} (T : Nat → Int) : Ent n (LT n (turnL n (mv T n))) := fun j hj => by
  rw [LT_get _ _ _ hj]
  rcases turn_ent (n := n) T n (Nat.le_refl _) j with h | h | h
  · exact .inl h
  · exact .inr h
  · omega
theorem ofL_LT {n : Nat} (F : Nat → Int) (j : Nat) (hj : j < n) : ofL (LT n F) j = F j := LT_get _ _ _ hj

set_option maxHeartbeats 400000 in
theorem specRange_any (A : Option Addr) (n c : Nat) (zs : List Int) (w : World) (h : RI w A n zs) (hn : n ≤ 1048576) :
    Calls Try.prog 33 #[.slice A n c] w fun e w' => e = .returned (.tuple #[.int .i64 (raN zs : Nat), .bool (isC zs)]) ∧ Below w.heap.size w w' := by
  cases hC : isC zs
  · have HT : Hid (raN zs = 0) := by show _ = _; unfold raN; rw [fk_no hC]; rfl
    have HC := Lib.hid hC
    clear hC
    go_enter Try.func33, Try.ntmps33
    go_wp2_with fail
    refine (specIn_any _ _ _ _ _ h hn).mono ?_
    rintro e w1 ⟨rfl, rfl⟩
    rw [HC.out]
    go_wp2
    go_ret2
    exact ⟨by rw [HT.out]; rfl, Below.refl _ _⟩
  · obtain rfl := h.len
    have h6 := (isC_len hC).2
    have HT : Hid (domL (mv (ofL (LT zs.length (turnL zs.length (mv (ofL zs) zs.length)))) zs.length) = raN zs) := by
      show _ = _; unfold raN; rw [mvT_yes hC, fk_yes hC]; rw [mv_congr (fun j hj => ofL_LT _ j hj)]
    have hE := isC_ent hC
    have HC := Lib.hid hC
    clear hC
    go_enter Try.func33, Try.ntmps33
    go_wp2_with fail
    refine (specIn_any _ _ _ _ _ h hn).mono ?_
    rintro e w1 ⟨rfl, rfl⟩
    rw [HC.out]
    go_wp2_with fail
    refine (l1Turned_any _ _ _ _ _ h h6 hE).mono ?_
    rintro e w1 ⟨v, rfl, hown, hb⟩
    rw [LT_length] at hown
    obtain ⟨g, cp, rfl, _, _⟩ := hown.form (by have := (isC_len HC.out).1; omega)
    have hr := RI.of_own hown
    go_wp2_with fail
    refine (l1Domain_any _ _ _ _ _ hr h6 (tu_ent _)).mono ?_
    rintro e w2 ⟨rfl, rfl⟩
    go_wp2
    go_ret2
    exact ⟨by rw [← HT.out]; rfl, hb⟩

set_option maxHeartbeats 400000 in
theorem specIdem_any (A : Option Addr) (n c : Nat) (zs : List Int) (w : World) (h : RI w A n zs) (hn : n ≤ 1048576) :
    Calls Try.prog 38 #[.slice A n c] w fun e w' => e = .returned (.bool (isC zs && idemL (mv (fT zs) (fk zs)))) ∧ Below w.heap.size w w' := by
  cases hC : isC zs
  · have HC := Lib.hid hC
    clear hC
    go_enter Try.func38, Try.ntmps38
    go_wp2_with fail
    refine (specIn_any _ _ _ _ _ h hn).mono ?_
    rintro e w1 ⟨rfl, rfl⟩
    rw [HC.out]
    go_wp2
    go_ret
    exact ⟨rfl, Below.refl _ _⟩
  · obtain rfl := h.len
    have h6 := (isC_len hC).2
    have HT := Lib.hid (mvT_yes hC)
    have hE := isC_ent hC
    have HC := Lib.hid hC
    clear hC
    go_enter Try.func38, Try.ntmps38
    go_wp2_with fail
    refine (specIn_any _ _ _ _ _ h hn).mono ?_
    rintro e w1 ⟨rfl, rfl⟩
    rw [HC.out]
    go_wp2_with fail
    refine (l1Idem_any _ _ _ _ _ h h6 hE).mono ?_
    rintro e w2 ⟨rfl, rfl⟩
    go_wp2
    go_ret
    exact ⟨by rw [HT.out]; rfl, Below.refl _ _⟩
end Go.Proofs.Ytdmobfjcbjengaa
