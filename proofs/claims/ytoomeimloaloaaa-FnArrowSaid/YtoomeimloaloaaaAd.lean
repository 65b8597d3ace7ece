/-
  The draws of ArrowJoins and ArrowTimes.
-/
import Derived.Test.YtoomeimloaloaaaDraw
namespace Go.Proofs.Ytoomeimloaloaaa
set_option maxRecDepth 100000
open Go.RowKit

set_option maxHeartbeats 2000000 in
theorem drawJoins_any (A : Option Addr) (n c : Nat) (bs : Nat → Nat) (w : World) (h : Src w w.heap.size A n bs) (hnc : n ≤ c) (hn : n ≤ 1048576) :
    Calls Try.prog 15 #[.slice A n c] w fun e w' => ∃ v u, e = .returned (.tuple #[v, u]) ∧ TwoL w v u w' := by
  go_enter Try.func15, Try.ntmps15
  go_wp2_with fail
  refine (open_any _ _ _ _ _ h hnc hn).mono ?_
  rintro e w1 ⟨R, rfl, hRl, hRs, hRd, hB⟩
  clear h
  go_wp2_with fail
  refine (pick_any R 0 5 _ hRd (by omega) (by omega) (by omega)).mono ?_
  rintro e w2 ⟨v0, rfl, hv0, hRd2, hg2⟩
  have hB2 := below_gb hB (Nat.le_refl _) hg2 hRl
  have hR2 := hRd2.lt
  clear hB hRd hg2 hRs
  go_wp2_with fail
  have hc := l91Chart_any R (0 + 1) (1 + v0) w2 hRd2 (by omega) (by omega) (by omega)
  rw [show ((1 + v0 : Nat) : Int) = 1 + (v0 : Int) from by omega] at hc
  refine hc.mono ?_
  rintro e w3 ⟨f, rfl, L, hL, oF, hg3, hRd3⟩
  have hB3 := below_gb hB2 (Nat.le_refl _) hg3 hRl
  have hs2 := hB2.size
  clear hc hB2 hg3 hRd2
  obtain ⟨A1, c1, rfl⟩ := own_slice oF
  have last : ∀ q (wq : World) (hq : q ≤ 90000) (hR : Rd wq R q) (hBq : Below w.heap.size w wq) (oQ : wq.ownsRow w2.heap.size 3 1 (.slice A1 L.length c1) L.length (ivs L)),
      Calls Try.prog 32 #[.pointer (some ⟨R, 0, none⟩), .int .i64 (1 + (v0 : Int))] wq fun e w' => ∃ u, e = .returned u ∧ TwoL w (.slice A1 L.length c1) u w' := by
    intro q wq hq hR hBq oQ
    have hc := l91Chart_any R q (1 + v0) wq hR hq (by omega) (by omega)
    rw [show ((1 + v0 : Nat) : Int) = 1 + (v0 : Int) from by omega] at hc
    refine hc.mono ?_
    rintro e w8 ⟨f2, rfl, L2, hL2, oF2, hg8, _⟩
    refine ⟨_, rfl, L, L2, by omega, by omega, (own_rd oQ hg8 hR2).mono hs2, oF2.mono hBq.size, apart_of oQ (Nat.le_refl _) oF2, below_gb hBq (Nat.le_refl _) hg8 hRl⟩
  have LAST := Lib.hid last
  clear last
  cases hC : isC L
  · have HC := Lib.hid hC
    clear hC
    go_wp2_with fail
    refine (specIn_any _ _ _ _ _ (RI.of_own oF) (by omega)).mono ?_
    rintro e w4 ⟨rfl, rfl⟩
    rw [HC.out]
    go_wp2_with fail
    refine (LAST.out _ _ (by omega) hRd3 hB3 oF).mono ?_
    rintro e w8 ⟨u, rfl, h8⟩
    go_wp2
    go_ret2
    exact ⟨_, _, rfl, h8⟩
  · have h6 := (isC_len hC).2
    have hE := isC_ent hC
    have HC := Lib.hid hC
    clear hC
    go_wp2_with fail
    refine (specIn_any _ _ _ _ _ (RI.of_own oF) (by omega)).mono ?_
    rintro e w4 ⟨rfl, rfl⟩
    rw [HC.out]
    go_wp2_with fail
    refine (pick_any R _ 2 _ hRd3 (by omega) (by omega) (by omega)).mono ?_
    rintro e w5 ⟨v1, rfl, hv1, hRd5, hg5⟩
    have hB5 := below_gb hB3 (Nat.le_refl _) hg5 hRl
    replace oF := own_rd oF hg5 hR2
    clear hB3 hg5 hRd3
    by_cases h0 : v1 = 0
    · subst h0
      go_wp2_with fail
      refine (l1Turned_any _ _ _ _ _ (RI.of_own oF) h6 hE).mono ?_
      rintro e w6 ⟨u, rfl, oT, b6⟩
      go_wp2
      go_ret2
      exact ⟨_, _, rfl, L, _, by omega, by rw [LT_length]; omega, (own_below oF b6).mono hs2, oT.mono hB5.size, apart_of oF (Nat.le_refl _) oT, hB5.trans (b6.mono hB5.size)⟩
    · have hd : ((v1 : Int) == 0) = false := by simp; omega
      go_wp2_with fail
      refine (LAST.out _ _ (by omega) hRd5 hB5 oF).mono ?_
      rintro e w8 ⟨u, rfl, h8⟩
      go_wp2
      go_ret2
      exact ⟨_, _, rfl, h8⟩
theorem drawJTimes_any (A : Option Addr) (n c : Nat) (bs : Nat → Nat) (w : World) (h : Src w w.heap.size A n bs) (hnc : n ≤ c) (hn : n ≤ 1048576) :
    Calls Try.prog 19 #[.slice A n c] w fun e w' => ∃ v u, e = .returned (.tuple #[v, u]) ∧ TwoL w v u w' := by
  go_enter Try.func19, Try.ntmps19
  go_wp2_with fail
  refine (drawJoins_any _ _ _ _ _ h hnc hn).mono ?_
  rintro e w' ⟨v, u, rfl, hT⟩
  go_wp2
  go_ret2
  exact ⟨_, _, rfl, hT⟩
end Go.Proofs.Ytoomeimloaloaaa
