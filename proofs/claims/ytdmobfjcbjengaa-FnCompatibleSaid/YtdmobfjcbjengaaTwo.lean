/-
  spec's drawn charts: l91One, l91Two.
-/
import Derived.Test.YtdmobfjcbjengaaOpen
import Derived.Deep.Onto
import Derived.Test.YtdmobfjcbjengaaSet
import Derived.Test.YtdmobfjcbjengaaMark
namespace Go.Proofs.Ytdmobfjcbjengaa
open Go.RowKit
theorem below_gb {B R : Nat} {w w1 w2 : World} (h : Below B w w1) (hB : B ≤ w.heap.size) (hg : w1.grownBy w2 (some R)) (hR : B ≤ R) : Below B w w2 :=
  h.grown hg (Nat.le_trans hB h.size) (fun k e => by injection e with e; omega)

/-- two drawn lists, apart -/
def TwoL (w : World) (v u : Value) (w' : World) : Prop := ∃ L M : List Int, L.length ≤ 1048576 ∧ M.length ≤ 1048576 ∧ w'.ownsRow w.heap.size 3 1 v L.length (ivs L) ∧ w'.ownsRow w.heap.size 3 1 u M.length (ivs M) ∧
  (∀ g, v.ownBlock = some g → u.ownBlock = some g → False) ∧ Below w.heap.size w w'

theorem pow_wrap : ∀ v0 : Nat, v0 < 6 → wrap64 ((2 : Int) ^ (1 + v0)) = ((2 ^ (1 + v0) : Nat) : Int) ∧ 1 ≤ 2 ^ (1 + v0) ∧ 2 ^ (1 + v0) ≤ 64
  | 0, _ => by decide +kernel
  | 1, _ => by decide +kernel
  | 2, _ => by decide +kernel
  | 3, _ => by decide +kernel
  | 4, _ => by decide +kernel
  | 5, _ => by decide +kernel
  | n + 6, h => absurd h (by omega)

set_option maxHeartbeats 2000000 in
theorem l91Two_any (A : Option Addr) (n c : Nat) (bs : Nat → Nat) (w : World) (h : Src w w.heap.size A n bs) (hnc : n ≤ c) (hn : n ≤ 1048576) :
    Calls Try.prog 49 #[.slice A n c] w fun e w' => ∃ v u, e = .returned (.tuple #[v, u]) ∧ TwoL w v u w' := by
  go_enter Try.func49, Try.ntmps49
  go_wp2_with fail
  refine (open_any _ _ _ _ _ h hnc hn).mono ?_
  rintro e w1 ⟨R, rfl, hRl, hRs, hRd, hB⟩
  clear h
  go_wp2_with fail
  refine (pick_any R 0 5 _ hRd (by omega) (by omega) (by omega)).mono ?_
  rintro e w2 ⟨v0, rfl, hv0, hRd2, hg2⟩
  have hB2 := below_gb hB (Nat.le_refl _) hg2 hRl
  have hR2 := hRd2.lt
  clear hB hRd hg2 hRs
  go_wp2_with fail
  have hc := l91Chart_any R (0 + 1) (1 + v0) w2 hRd2 (by omega) (by omega) (by omega)
  rw [show ((1 + v0 : Nat) : Int) = 1 + (v0 : Int) from by omega] at hc
  refine hc.mono ?_
  rintro e w3 ⟨f, rfl, L, hL, oF, hg3, hRd3⟩
  have hB3 := below_gb hB2 (Nat.le_refl _) hg3 hRl
  have hs2 := hB2.size
  clear hc hB2 hg3 hRd2
  go_wp2_with fail
  refine (pick_any R _ 6 _ hRd3 (by omega) (by omega) (by omega)).mono ?_
  rintro e w4 ⟨v1, rfl, hv1, hRd4, hg4⟩
  have hB4 := below_gb hB3 (Nat.le_refl _) hg4 hRl
  replace oF := own_rd oF hg4 hR2
  have hR4 := hRd4.lt
  have hs4 := hB4.size
  clear hB3 hg4 hRd3
  rcases v1 with _ | _ | v1
  · go_wp2_with fail
    have hc := l91Chart_any R _ (1 + v0 + 1) w4 hRd4 (by omega) (by omega) (by omega)
    rw [show ((1 + v0 + 1 : Nat) : Int) = 1 + (v0 : Int) + 1 from by omega] at hc
    refine hc.mono ?_
    rintro e w5 ⟨f2, rfl, L2, hL2, oF2, hg5, hRd5⟩
    have hB5 := below_gb hB4 (Nat.le_refl _) hg5 hRl
    have hap := Lib.hid (apart_of oF (Nat.le_refl _) oF2)
    replace oF := own_rd oF hg5 hR2
    clear hc hg5 hRd5 hRd4 hB4
    go_wp2
    go_ret2
    exact ⟨_, _, rfl, L, L2, by omega, by omega, oF.mono hs2, oF2.mono hs4, hap.out, hB5⟩
  · go_wp2_with fail
    obtain ⟨hpw, hp1, hp2⟩ := pow_wrap v0 (by omega)
    rw [hpw]
    refine (pick_any R _ _ _ hRd4 (by omega) hp1 (by omega)).mono ?_
    clear hpw hp1 hp2
    rintro e w5 ⟨v2, rfl, hv2, hRd5, hg5⟩
    clear hv2
    have hB5 := below_gb hB4 (Nat.le_refl _) hg5 hRl
    replace oF := own_rd oF hg5 hR2
    have hR5 := hRd5.lt
    have hs5 := hB5.size
    clear hg5 hRd4 hB4
    obtain ⟨A1, c1, rfl⟩ := own_slice oF
    go_wp2_with fail
    refine (specCut_any A1 L.length c1 L (v2 : Int) w5 (RI.of_own oF) (by omega)).mono ?_
    rintro e w6 ⟨g, rfl, oG, hB6⟩
    have hap := Lib.hid (apart_of oF (Nat.le_refl _) oG)
    replace oF := own_below oF hB6
    have hB7 := hB5.trans (hB6.mono hs5)
    have hRd6 := hRd5.below hB6 hR5
    have hle := cuL_le L v2
    clear hB5 hB6 hRd5
    have hs6 := hB7.size
    generalize cuL L v2 = L2 at oG hle
    cases hC : cuOK L v2
    · go_wp2_with fail
      have hc := l91Chart_any R _ (1 + v0) w6 hRd6 (by omega) (by omega) (by omega)
      rw [show ((1 + v0 : Nat) : Int) = 1 + (v0 : Int) from by omega] at hc
      refine hc.mono ?_
      rintro e w7 ⟨f2, rfl, L3, hL3, oF2, hg7, hRd7⟩
      have hB8 := below_gb hB7 (Nat.le_refl _) hg7 hRl
      have hap := Lib.hid (apart_of oF (Nat.le_refl _) oF2)
      replace oF := own_rd oF hg7 hR2
      clear hc hg7 hRd7 hRd6 hB7
      go_wp2
      go_ret2
      exact ⟨_, _, rfl, L, L3, by omega, by omega, oF.mono hs2, oF2.mono hs6, hap.out, hB8⟩
    · go_wp2
      go_ret2
      exact ⟨_, _, rfl, L2, L, by omega, by omega, oG.mono hs5, oF.mono hs2, fun q e1 e2 => hap.out q e2 e1, hB7⟩
  · go_wp2_with fail
    have hc := l91Chart_any R _ (1 + v0) w4 hRd4 (by omega) (by omega) (by omega)
    rw [show ((1 + v0 : Nat) : Int) = 1 + (v0 : Int) from by omega] at hc
    refine hc.mono ?_
    rintro e w5 ⟨f2, rfl, L2, hL2, oF2, hg5, hRd5⟩
    have hB5 := below_gb hB4 (Nat.le_refl _) hg5 hRl
    have hap := Lib.hid (apart_of oF (Nat.le_refl _) oF2)
    replace oF := own_rd oF hg5 hR2
    clear hc hg5 hRd5 hRd4 hB4
    go_wp2
    go_ret2
    exact ⟨_, _, rfl, L, L2, by omega, by omega, oF.mono hs2, oF2.mono hs4, hap.out, hB5⟩
end Go.Proofs.Ytdmobfjcbjengaa
