/-
  What the laws of chapter 1 draw.
-/
import Derived.Test.YtdmobfjcbjengaaTwo
namespace Go.Proofs.Ytdmobfjcbjengaa
open Go.RowKit

theorem bitv20 : ∀ (m : Fin 64) (z : Fin 20), bits BinOp.and IntKind.i64 ((m.val : Int) / 2 ^ z.val) 1 = ((m.val.testBit z.val).toNat : Int) := by decide +kernel
theorem pop20 : ∀ m : Fin 64, popK m.val 20 = popK m.val 6 := by decide +kernel
set_option maxHeartbeats 400000 in
theorem size_any (m : Nat) (hm : m < 64) (w : World) : Calls Try.prog 34 #[.int .i64 m] w fun e w' => e = .returned (.int .i64 (popK m 6 : Nat)) ∧ w = w' := by
  go_enter Try.func34, Try.ntmps34
  go_wp2
  go_loop [3, 4] (fun s i => ∃ k : Nat, k ≤ 20 ∧ i = .int .i64 k ∧ s = .int .i64 (popK m k : Nat)) (fun _ i => 20 - (intOf i).toNat)
  case atStart => exact ⟨0, Nat.zero_le _, rfl, rfl⟩
  case round =>
    obtain ⟨k, hk, rfl, rfl⟩ := hrel
    by_cases hlt : k < 20
    · have HB : Hid (bits BinOp.and IntKind.i64 ((m : Int) / 2 ^ k) 1 = ((m.testBit k).toNat : Int)) := bitv20 ⟨m, hm⟩ ⟨k, hlt⟩
      have hp := popK_le m k
      have HP : Hid ((popK m (k + 1) : Nat) = popK m k + (m.testBit k).toNat) := rfl
      go_wp2
      refine ⟨⟨k + 1, by omega, by go_num, ?_⟩, by simp [intOf]; omega⟩
      rw [HB.out, HP.out]
      have hb : (m.testBit k).toNat ≤ 1 := by cases m.testBit k <;> simp
      congr 1
      unfold wrap64; omega
    · obtain rfl : k = 20 := by omega
      go_wp2
      go_ret
      have := pop20 ⟨m, hm⟩
      simp only at this
      rw [this]
      exact ⟨rfl, rfl⟩

/-- a drawn list -/
def OneL (w : World) (v : Value) (w' : World) : Prop := ∃ L : List Int, L.length ≤ 1048576 ∧ w'.ownsRow w.heap.size 3 1 v L.length (ivs L) ∧ Below w.heap.size w w'

set_option maxHeartbeats 1000000 in
theorem l91One_any (A : Option Addr) (n c : Nat) (bs : Nat → Nat) (w : World) (h : Src w w.heap.size A n bs) (hnc : n ≤ c) (hn : n ≤ 1048576) :
    Calls Try.prog 55 #[.slice A n c] w fun e w' => ∃ v, e = .returned v ∧ OneL w v w' := by
  go_enter Try.func55, Try.ntmps55
  go_wp2_with fail
  refine (open_any _ _ _ _ _ h hnc hn).mono ?_
  rintro e w1 ⟨R, rfl, hRl, hRs, hRd, hB⟩
  clear h
  go_wp2_with fail
  refine (pick_any R 0 6 _ hRd (by omega) (by omega) (by omega)).mono ?_
  rintro e w2 ⟨v0, rfl, hv0, hRd2, hg2⟩
  have hB2 := below_gb hB (Nat.le_refl _) hg2 hRl
  clear hB hRd hg2 hRs
  go_wp2_with fail
  have hc := l91Chart_any R (0 + 1) (1 + v0) w2 hRd2 (by omega) (by omega) (by omega)
  rw [show ((1 + v0 : Nat) : Int) = 1 + (v0 : Int) from by omega] at hc
  refine hc.mono ?_
  rintro e w3 ⟨f, rfl, L, hL, oF, hg3, hRd3⟩
  have hB3 := below_gb hB2 (Nat.le_refl _) hg3 hRl
  have hs2 := hB2.size
  clear hc hB2 hg3 hRd2
  go_wp2
  go_ret
  exact ⟨_, rfl, L, by omega, oF.mono hs2, hB3⟩

set_option maxHeartbeats 2000000 in
theorem l91Compatible_any (A : Option Addr) (n c : Nat) (bs : Nat → Nat) (w : World) (h : Src w w.heap.size A n bs) (hnc : n ≤ c) (hn : n ≤ 1048576) :
    Calls Try.prog 76 #[.slice A n c] w fun e w' => ∃ v u, e = .returned (.tuple #[v, u]) ∧ TwoL w v u w' := by
  go_enter Try.func76, Try.ntmps76
  go_wp2_with fail
  refine (open_any _ _ _ _ _ h hnc hn).mono ?_
  rintro e w1 ⟨R, rfl, hRl, hRs, hRd, hB⟩
  clear h
  go_wp2_with fail
  refine (pick_any R 0 5 _ hRd (by omega) (by omega) (by omega)).mono ?_
  rintro e w2 ⟨v0, rfl, hv0, hRd2, hg2⟩
  have hB2 := below_gb hB (Nat.le_refl _) hg2 hRl
  have hR2 := hRd2.lt
  clear hB hRd hg2 hRs
  go_wp2_with fail
  have hc := l91Chart_any R (0 + 1) (1 + v0) w2 hRd2 (by omega) (by omega) (by omega)
  rw [show ((1 + v0 : Nat) : Int) = 1 + (v0 : Int) from by omega] at hc
  refine hc.mono ?_
  rintro e w3 ⟨f, rfl, L, hL, oF, hg3, hRd3⟩
  have hB3 := below_gb hB2 (Nat.le_refl _) hg3 hRl
  have hs2 := hB2.size
  clear hc hB2 hg3 hRd2
  obtain ⟨hpw, hp1, hp2⟩ := pow_wrap v0 (by omega)
  have HW := Lib.hid hpw
  clear hpw
  go_wp2_with fail
  rw [HW.out]
  refine (pick_any R _ _ _ hRd3 (by omega) hp1 (by omega)).mono ?_
  rintro e w4 ⟨v1, rfl, hv1, hRd4, hg4⟩
  have hB4 := below_gb hB3 (Nat.le_refl _) hg4 hRl
  replace oF := own_rd oF hg4 hR2
  have hR4 := hRd4.lt
  have hs4 := hB4.size
  clear hv1 hB3 hg4 hRd3
  obtain ⟨A1, c1, rfl⟩ := own_slice oF
  go_wp2_with fail
  refine (specCut_any A1 L.length c1 L (v1 : Int) w4 (RI.of_own oF) (by omega)).mono ?_
  rintro e w5 ⟨ga, rfl, oA, hB5⟩
  have hap1 := Lib.hid (apart_of oF (Nat.le_refl _) oA)
  replace oF := own_below oF hB5
  have hB6 := hB4.trans (hB5.mono hs4)
  have hRd5 := hRd4.below hB5 hR4
  have hR5 := hRd5.lt
  have hle := cuL_le L v1
  clear hB4 hB5 hRd4
  have hs5 := hB6.size
  generalize cuL L v1 = La at oA hle
  go_wp2_with fail
  rw [HW.out]
  refine (pick_any R _ _ _ hRd5 (by omega) hp1 (by omega)).mono ?_
  rintro e w6 ⟨v2, rfl, hv2, hRd6, hg6⟩
  have hB7 := below_gb hB6 (Nat.le_refl _) hg6 hRl
  replace oF := own_rd oF hg6 hR2
  replace oA := own_rd oA hg6 hR4
  have hR6 := hRd6.lt
  have hs6 := hB7.size
  clear hv2 hB6 hg6 hRd5 hp1 hp2 HW
  go_wp2_with fail
  refine (specCut_any A1 L.length c1 L (v2 : Int) w6 (RI.of_own oF) (by omega)).mono ?_
  rintro e w7 ⟨gb, rfl, oB, hB8⟩
  have hap2 := Lib.hid (apart_of oA (Nat.le_refl _) oB)
  replace oF := own_below oF hB8
  replace oA := own_below oA hB8
  have hB9 := hB7.trans (hB8.mono hs6)
  have hRd7 := hRd6.below hB8 hR6
  have hle2 := cuL_le L v2
  clear hB7 hB8 hRd6
  have hs7 := hB9.size
  generalize cuL L v2 = Lb at oB hle2
  have last : ∀ q (wq : World) (hq : q ≤ 90000) (hR : Rd wq R q) (hBq : Below w.heap.size w wq) (oQ : wq.ownsRow w2.heap.size 3 1 (.slice A1 L.length c1) L.length (ivs L)),
      Calls Try.prog 71 #[.pointer (some ⟨R, 0, none⟩), .int .i64 (1 + (v0 : Int))] wq fun e w' => ∃ u, e = .returned u ∧ TwoL w (.slice A1 L.length c1) u w' := by
    intro q wq hq hR hBq oQ
    have hc := l91Chart_any R q (1 + v0) wq hR hq (by omega) (by omega)
    rw [show ((1 + v0 : Nat) : Int) = 1 + (v0 : Int) from by omega] at hc
    refine hc.mono ?_
    rintro e w8 ⟨f2, rfl, L2, hL2, oF2, hg8, _⟩
    refine ⟨_, rfl, L, L2, by omega, by omega, (own_rd oQ hg8 hR2).mono hs2, oF2.mono hBq.size, apart_of oQ (Nat.le_refl _) oF2, below_gb hBq (Nat.le_refl _) hg8 hRl⟩
  have LAST := Lib.hid last
  clear last
  cases hp : cuOK L v1
  · go_wp2_with fail
    refine (LAST.out _ _ (by omega) hRd7 hB9 oF).mono ?_
    rintro e w8 ⟨u, rfl, h8⟩
    go_wp2
    go_ret2
    exact ⟨_, _, rfl, h8⟩
  · cases hq : cuOK L v2
    · go_wp2_with fail
      refine (LAST.out _ _ (by omega) hRd7 hB9 oF).mono ?_
      rintro e w8 ⟨u, rfl, h8⟩
      go_wp2
      go_ret2
      exact ⟨_, _, rfl, h8⟩
    · go_wp2_with fail
      refine (pick_any R _ 3 _ hRd7 (by omega) (by omega) (by omega)).mono ?_
      rintro e w8 ⟨v3, rfl, hv3, hRd8, hg8⟩
      have hB10 := below_gb hB9 (Nat.le_refl _) hg8 hRl
      replace oF := own_rd oF hg8 hR2
      replace oA := own_rd oA hg8 hR4
      replace oB := own_rd oB hg8 hR6
      clear hg8 hRd7 hB9
      by_cases h0 : v3 = 0
      · subst h0
        go_wp2_with fail
        refine (LAST.out _ _ (by omega) hRd8 hB10 oF).mono ?_
        rintro e w9 ⟨u, rfl, h9⟩
        go_wp2
        go_ret2
        exact ⟨_, _, rfl, h9⟩
      · have hd : decide ((0 : Int) < (v3 : Int)) = true := decide_eq_true (by omega)
        go_wp2
        go_ret2
        exact ⟨_, _, rfl, La, Lb, by omega, by omega, oA.mono hs4, oB.mono hs6, hap2.out, hB10⟩

theorem drawIn_any (A : Option Addr) (n c : Nat) (bs : Nat → Nat) (w : World) (h : Src w w.heap.size A n bs) (hnc : n ≤ c) (hn : n ≤ 1048576) :
    Calls Try.prog 19 #[.slice A n c] w fun e w' => ∃ v, e = .returned v ∧ OneL w v w' := by
  go_enter Try.func19, Try.ntmps19
  go_wp2_with fail
  refine (l91One_any _ _ _ _ _ h hnc hn).mono ?_
  rintro e w1 ⟨v, rfl, h1⟩
  go_wp2
  go_ret
  exact ⟨_, rfl, h1⟩

theorem drawTurned_any (A : Option Addr) (n c : Nat) (bs : Nat → Nat) (w : World) (h : Src w w.heap.size A n bs) (hnc : n ≤ c) (hn : n ≤ 1048576) :
    Calls Try.prog 25 #[.slice A n c] w fun e w' => ∃ v, e = .returned v ∧ OneL w v w' := by
  go_enter Try.func25, Try.ntmps25
  go_wp2_with fail
  refine (l91One_any _ _ _ _ _ h hnc hn).mono ?_
  rintro e w1 ⟨v, rfl, h1⟩
  go_wp2
  go_ret
  exact ⟨_, rfl, h1⟩

theorem drawDomain_any (A : Option Addr) (n c : Nat) (bs : Nat → Nat) (w : World) (h : Src w w.heap.size A n bs) (hnc : n ≤ c) (hn : n ≤ 1048576) :
    Calls Try.prog 29 #[.slice A n c] w fun e w' => ∃ v, e = .returned v ∧ OneL w v w' := by
  go_enter Try.func29, Try.ntmps29
  go_wp2_with fail
  refine (l91One_any _ _ _ _ _ h hnc hn).mono ?_
  rintro e w1 ⟨v, rfl, h1⟩
  go_wp2
  go_ret
  exact ⟨_, rfl, h1⟩

theorem drawRange_any (A : Option Addr) (n c : Nat) (bs : Nat → Nat) (w : World) (h : Src w w.heap.size A n bs) (hnc : n ≤ c) (hn : n ≤ 1048576) :
    Calls Try.prog 32 #[.slice A n c] w fun e w' => ∃ v, e = .returned v ∧ OneL w v w' := by
  go_enter Try.func32, Try.ntmps32
  go_wp2_with fail
  refine (l91One_any _ _ _ _ _ h hnc hn).mono ?_
  rintro e w1 ⟨v, rfl, h1⟩
  go_wp2
  go_ret
  exact ⟨_, rfl, h1⟩


theorem drawTimes_any (A : Option Addr) (n c : Nat) (bs : Nat → Nat) (w : World) (h : Src w w.heap.size A n bs) (hnc : n ≤ c) (hn : n ≤ 1048576) :
    Calls Try.prog 15 #[.slice A n c] w fun e w' => ∃ v u, e = .returned (.tuple #[v, u]) ∧ TwoL w v u w' := by
  go_enter Try.func15, Try.ntmps15
  go_wp2_with fail
  refine (l91Two_any _ _ _ _ _ h hnc hn).mono ?_
  rintro e w1 ⟨v, u, rfl, h1⟩
  go_wp2
  go_ret2
  exact ⟨_, _, rfl, h1⟩

theorem drawBelow_any (A : Option Addr) (n c : Nat) (bs : Nat → Nat) (w : World) (h : Src w w.heap.size A n bs) (hnc : n ≤ c) (hn : n ≤ 1048576) :
    Calls Try.prog 39 #[.slice A n c] w fun e w' => ∃ v u, e = .returned (.tuple #[v, u]) ∧ TwoL w v u w' := by
  go_enter Try.func39, Try.ntmps39
  go_wp2_with fail
  refine (l91Two_any _ _ _ _ _ h hnc hn).mono ?_
  rintro e w1 ⟨v, u, rfl, h1⟩
  go_wp2
  go_ret2
  exact ⟨_, _, rfl, h1⟩

theorem drawMeet_any (A : Option Addr) (n c : Nat) (bs : Nat → Nat) (w : World) (h : Src w w.heap.size A n bs) (hnc : n ≤ c) (hn : n ≤ 1048576) :
    Calls Try.prog 43 #[.slice A n c] w fun e w' => ∃ v u, e = .returned (.tuple #[v, u]) ∧ TwoL w v u w' := by
  go_enter Try.func43, Try.ntmps43
  go_wp2_with fail
  refine (l91Two_any _ _ _ _ _ h hnc hn).mono ?_
  rintro e w1 ⟨v, u, rfl, h1⟩
  go_wp2
  go_ret2
  exact ⟨_, _, rfl, h1⟩

theorem drawCompatible_any (A : Option Addr) (n c : Nat) (bs : Nat → Nat) (w : World) (h : Src w w.heap.size A n bs) (hnc : n ≤ c) (hn : n ≤ 1048576) :
    Calls Try.prog 46 #[.slice A n c] w fun e w' => ∃ v u, e = .returned (.tuple #[v, u]) ∧ TwoL w v u w' := by
  go_enter Try.func46, Try.ntmps46
  go_wp2_with fail
  refine (l91Compatible_any _ _ _ _ _ h hnc hn).mono ?_
  rintro e w1 ⟨v, u, rfl, h1⟩
  go_wp2
  go_ret2
  exact ⟨_, _, rfl, h1⟩


set_option maxHeartbeats 1000000 in
theorem drawIdem_any (A : Option Addr) (n c : Nat) (bs : Nat → Nat) (w : World) (h : Src w w.heap.size A n bs) (hnc : n ≤ c) (hn : n ≤ 1048576) :
    Calls Try.prog 37 #[.slice A n c] w fun e w' => ∃ v, e = .returned v ∧ OneL w v w' := by
  go_enter Try.func37, Try.ntmps37
  go_wp2_with fail
  refine (open_any _ _ _ _ _ h hnc hn).mono ?_
  rintro e w1 ⟨R, rfl, hRl, hRs, hRd, hB⟩
  clear h
  go_wp2_with fail
  refine (pick_any R 0 6 _ hRd (by omega) (by omega) (by omega)).mono ?_
  rintro e w2 ⟨v0, rfl, hv0, hRd2, hg2⟩
  have hB2 := below_gb hB (Nat.le_refl _) hg2 hRl
  clear hB hRd hg2 hRs
  go_wp2_with fail
  refine (pick_any R _ 2 _ hRd2 (by omega) (by omega) (by omega)).mono ?_
  rintro e w3 ⟨v1, rfl, hv1, hRd3, hg3⟩
  have hB3 := below_gb hB2 (Nat.le_refl _) hg3 hRl
  clear hB2 hRd2 hg3
  have hs3 := hB3.size
  rcases v1 with _ | v1
  · obtain ⟨hpw, hp1, hp2⟩ := pow_wrap v0 (by omega)
    have HW := Lib.hid hpw
    clear hpw
    go_wp2_with fail
    rw [HW.out]
    refine (pick_any R _ _ _ hRd3 (by omega) hp1 (by omega)).mono ?_
    rintro e w4 ⟨v2, rfl, hv2, hRd4, hg4⟩
    have hB4 := below_gb hB3 (Nat.le_refl _) hg4 hRl
    have hs4 := hB4.size
    have hv2' : v2 < 64 := by omega
    clear hB3 hRd3 hg4 HW hv2 hp1 hp2
    go_wp2_with fail
    have hc := l1Set_any (1 + v0) v2 (by omega) hv2' w4
    rw [show ((1 + v0 : Nat) : Int) = 1 + (v0 : Int) from by omega] at hc
    refine hc.mono ?_
    rintro e w5 ⟨v, rfl, oV, hB5⟩
    have hB6 := hB4.trans (hB5.mono hs4)
    have hl := LT_length (1 + v0) (seF v2)
    clear hc hB4 hB5
    generalize LT (1 + v0) (seF v2) = L at oV hl
    go_wp2
    go_ret
    exact ⟨_, rfl, L, by omega, oV.mono hs4, hB6⟩
  · go_wp2_with fail
    have hc := l91Chart_any R _ (1 + v0) w3 hRd3 (by omega) (by omega) (by omega)
    rw [show ((1 + v0 : Nat) : Int) = 1 + (v0 : Int) from by omega] at hc
    refine hc.mono ?_
    rintro e w4 ⟨f, rfl, L, hL, oF, hg4, hRd4⟩
    have hB4 := below_gb hB3 (Nat.le_refl _) hg4 hRl
    clear hc hB3 hg4 hRd3
    go_wp2
    go_ret
    exact ⟨_, rfl, L, by omega, oF.mono hs3, hB4⟩

set_option maxHeartbeats 1000000 in
theorem drawSet_any (A : Option Addr) (n c : Nat) (bs : Nat → Nat) (w : World) (h : Src w w.heap.size A n bs) (hnc : n ≤ c) (hn : n ≤ 1048576) :
    Calls Try.prog 35 #[.slice A n c] w fun e w' => ∃ (N : Nat) (s : Int), e = .returned (.tuple #[.int .i64 N, .int .i64 s]) ∧ Below w.heap.size w w' := by
  go_enter Try.func35, Try.ntmps35
  go_wp2_with fail
  refine (open_any _ _ _ _ _ h hnc hn).mono ?_
  rintro e w1 ⟨R, rfl, hRl, hRs, hRd, hB⟩
  clear h
  go_wp2_with fail
  refine (pick_any R 0 7 _ hRd (by omega) (by omega) (by omega)).mono ?_
  rintro e w2 ⟨v0, rfl, hv0, hRd2, hg2⟩
  have hB2 := below_gb hB (Nat.le_refl _) hg2 hRl
  clear hB hRd hg2 hRs
  go_wp2_with fail
  refine (pick_any R _ 24 _ hRd2 (by omega) (by omega) (by omega)).mono ?_
  rintro e w3 ⟨v1, rfl, hv1, hRd3, hg3⟩
  have hB3 := below_gb hB2 (Nat.le_refl _) hg3 hRl
  clear hB2 hRd2 hg3
  have hq1 : (v1 : Int).tdiv 23 = ((v1 / 23 : Nat) : Int) := by rw [Int.tdiv_eq_ediv_of_nonneg (by omega)]; push_cast; rfl
  have hq1l : v1 / 23 ≤ 1 := by omega
  generalize v1 / 23 = d1 at hq1 hq1l
  go_wp2_with fail
  refine (pick_any R _ 65 _ hRd3 (by omega) (by omega) (by omega)).mono ?_
  rintro e w4 ⟨v2, rfl, hv2, hRd4, hg4⟩
  have hB4 := below_gb hB3 (Nat.le_refl _) hg4 hRl
  clear hB3 hRd3 hg4
  go_wp2_with fail
  refine (pick_any R _ 24 _ hRd4 (by omega) (by omega) (by omega)).mono ?_
  rintro e w5 ⟨v3, rfl, hv3, hRd5, hg5⟩
  have hB5 := below_gb hB4 (Nat.le_refl _) hg5 hRl
  clear hB4 hRd4 hg5
  have hq3 : (v3 : Int).tdiv 23 = ((v3 / 23 : Nat) : Int) := by rw [Int.tdiv_eq_ediv_of_nonneg (by omega)]; push_cast; rfl
  have hq3l : v3 / 23 ≤ 1 := by omega
  generalize v3 / 23 = d3 at hq3 hq3l
  go_wp2
  go_ret2
  exact ⟨v0 + d1, (v2 : Int) - d3, by push_cast; rfl, hB5⟩

end Go.Proofs.Ytdmobfjcbjengaa
