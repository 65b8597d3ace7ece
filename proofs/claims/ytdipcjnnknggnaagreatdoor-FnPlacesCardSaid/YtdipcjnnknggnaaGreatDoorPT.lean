/-
  Aw7.
-/
import Derived.Test.YtdipcjnnknggnaaGreatDoorOT
import Derived.Test.YtdipcjnnknggnaaGreatDoorPN
import Derived.Test.YtdipcjnnknggnaaGreatDoorPQ
namespace Go.Proofs.YtdipcjnnknggnaaGreatDoor
set_option maxRecDepth 100000
set_option linter.unusedVariables false
set_option linter.unusedSimpArgs false
set_option linter.unusedSectionVars false

/-! draws of a semigroup and a point; the points to which a point is moved. -/
section
open Go.RowKit Go.Maps

theorem plc_mem {zs : List (List Int)} {p : Nat} (h : atOK zs (p : Int) = true) {x : Int} : x ∈ plcI zs (p : Int) ↔ ∃ L ∈ zs, ofL L p = x ∧ x ≠ -1 := by
  obtain ⟨hS, _, hp⟩ := atOK_iff.1 h
  have S := sgS_iff.1 hS
  have hL0 : ∀ L ∈ zs, isC L = true ∧ L.length = m0 zs := S.ch
  unfold plcI
  rw [nums_mem, List.mem_map]
  constructor
  · rintro ⟨L, hL, rfl⟩
    obtain ⟨_, _, _, hLz, hm⟩ := atLs_mem hL
    have hl := hL0 L hLz
    unfold mvB at hm
    rw [doN_bit hl.1, Bool.and_eq_true, decide_eq_true_eq, decide_eq_true_eq] at hm
    exact ⟨L, hLz, rfl, hm.2⟩
  · rintro ⟨L, hL, rfl, hx⟩
    have hl := hL0 L hL
    refine ⟨L, ?_, rfl⟩
    unfold atLs
    rw [h, if_pos rfl]
    refine List.mem_filter.2 ⟨hL, ?_⟩
    unfold mvB
    rw [doN_bit hl.1, Bool.and_eq_true, decide_eq_true_eq, decide_eq_true_eq]
    exact ⟨by rw [hl.2]; show p < m0 zs; omega, hx⟩
theorem mv_back {f : List Int} (h : isC f = true) {p q : Nat} (hp : p < f.length) (hq : q < f.length) (e : ofL f p = (q : Int)) : ofL (tuL f) q = (p : Int) := by
  rw [tuL_get h hq]
  exact (trn_iff (isC_CH h) hp hq).2 e
theorem mv_on {f g : List Int} (h : isP f g = true) {p q : Nat} (hp : p < f.length) (hq : q < f.length) (e : ofL f p = (q : Int)) : ofL (tiL f g) p = ofL g q := by
  rw [tiL_get h hp]
  unfold cmp
  rw [e, if_pos (by omega)]
  rfl
theorem plc_law {zs : List (List Int)} {p : Int} (h : atOK zs p = true) : (∀ q ∈ plcI zs p, atOK zs q = true ∧ plcI zs q = plcI zs p) ∧ (plcI zs p ≠ [] → p ∈ plcI zs p) := by
  obtain ⟨hS, h0, hp⟩ := atOK_iff.1 h
  obtain ⟨p, rfl⟩ : ∃ n : Nat, p = (n : Int) := ⟨p.toNat, by omega⟩
  have S := sgS_iff.1 hS
  have hL0 : ∀ L ∈ zs, isC L = true ∧ L.length = m0 zs := S.ch
  have hpm : p < m0 zs := by omega
  have hat : ∀ q : Nat, q < m0 zs → atOK zs (q : Int) = true := fun q hq => atOK_iff.2 ⟨hS, by omega, by omega⟩
  have key : ∀ x, x ∈ plcI zs (p : Int) → ∃ (q : Nat) (L : List Int), q < m0 zs ∧ L ∈ zs ∧ ofL L p = (q : Int) ∧ x = (q : Int) := fun x hx => by
    obtain ⟨L, hL, e, hne⟩ := (plc_mem h).1 hx
    have hl := hL0 L hL
    rcases plc_ent hl.1 (show p < L.length by omega) with e1 | ⟨q, hq, e1⟩
    · exact absurd (e.symm.trans e1) hne
    · exact ⟨q, L, by omega, hL, e1, by rw [← e, e1]⟩
  constructor
  · intro x hx
    obtain ⟨q, L, hq, hL, e, rfl⟩ := key x hx
    have hl := hL0 L hL
    have hb : ofL (tuL L) q = (p : Int) := mv_back hl.1 (by omega) (by omega) e
    have hT := S.tu L hL
    have hlT := hL0 _ hT
    refine ⟨hat q hq, asc_ext (nums_asc _) (nums_asc _) (fun y => ?_)⟩
    show y ∈ plcI zs (q : Int) ↔ y ∈ plcI zs (p : Int)
    rw [plc_mem (hat q hq), plc_mem h]
    constructor
    · rintro ⟨M, hM, e2, hne⟩
      have hm := hL0 M hM
      refine ⟨tiL L M, S.ti L hL M hM, ?_, hne⟩
      rw [mv_on (isP_of hl.1 hm.1 (hl.2.trans hm.2.symm)) (by omega) (by omega) e, e2]
    · rintro ⟨M, hM, e2, hne⟩
      have hm := hL0 M hM
      refine ⟨tiL (tuL L) M, S.ti _ hT M hM, ?_, hne⟩
      rw [mv_on (isP_of hlT.1 hm.1 (hlT.2.trans hm.2.symm)) (by omega) (by omega) hb, e2]
  · intro hne
    obtain ⟨x, hx⟩ := List.exists_mem_of_ne_nil _ hne
    obtain ⟨q, L, hq, hL, e, rfl⟩ := key x hx
    have hl := hL0 L hL
    have hb : ofL (tuL L) q = (p : Int) := mv_back hl.1 (by omega) (by omega) e
    have hT := S.tu L hL
    have hlT := hL0 _ hT
    refine (plc_mem h).2 ⟨tiL L (tuL L), S.ti L hL _ hT, ?_, by omega⟩
    rw [mv_on (isP_of hl.1 hlT.1 (hl.2.trans hlT.2.symm)) (by omega) (by omega) e, hb]
def DrwPt (w : World) (e : Ending) (w' : World) : Prop := ∃ (A : Option Addr) (n c : Nat) (zs : List (List Int)) (p : Int), e = .returned (.tuple #[.slice A n c, .int .i64 p]) ∧ RSS w' A n zs ∧ n ≤ 400 ∧ n ≤ c ∧ (∀ L ∈ zs, L.length ≤ 7) ∧ Below w.heap.size w w'
set_option maxHeartbeats 1000000 in
theorem drawGerm_any (A : Option Addr) (n c : Nat) (bs : Nat → Nat) (w : World) (h : Src w w.heap.size A n bs) (hnc : n ≤ c) (hn : n ≤ 1048576) :
    Calls Tryz.prog 24 #[.slice A n c] w (DrwPt w) := by
  go_enter Tryz.func24, Tryz.ntmps24
  go_wp2_with fail
  refine (open_any _ _ _ _ _ h hnc hn).mono ?_
  rintro e w1 ⟨R, rfl, hRl, hRs, hRd, hB⟩
  clear h
  go_wp2_with fail
  refine (l91Semi_any R 0 _ hRd (by omega)).mono ?_
  rintro e w2 ⟨A2, n2, c2, zs, p', rfl, hr, h4, hc2, h7, hg, hRd2, hp'⟩
  have HR := Lib.hid hr
  clear hr
  go_wp2_with fail
  refine (pick_any R p' 4 _ hRd2 (by omega) (by omega) (by omega)).mono ?_
  rintro e w3 ⟨z, rfl, hz, hRd3, hg3⟩
  go_wp2_with fail
  refine (pick_any R (p' + 1) 24 _ hRd3 (by omega) (by omega) (by omega)).mono ?_
  rintro e w4 ⟨y, rfl, hy, hRd4, hg4⟩
  have hg34 := gb_trans hg3 hg4
  have hB2 := below_gb hB (Nat.le_refl _) (gb_trans hg hg34) hRl
  have hR4 := HR.out _ hg34
  clear hRd hRd2 hRd3 hRd4 hg hg3 hg4 hg34
  go_wp2
  go_ret2
  exact ⟨_, _, _, zs, _, rfl, hR4, h4, hc2, h7, hB2⟩
theorem drawSgPlaces_any (A : Option Addr) (n c : Nat) (bs : Nat → Nat) (w : World) (h : Src w w.heap.size A n bs) (hnc : n ≤ c) (hn : n ≤ 1048576) :
    Calls Tryz.prog 28 #[.slice A n c] w (DrwPt w) := by
  go_enter Tryz.func28, Tryz.ntmps28
  go_wp2_with fail
  refine (drawGerm_any A n c bs w h hnc hn).mono ?_
  rintro e w2 ⟨A2, n2, c2, zs, p, rfl, hr⟩
  go_wp2
  go_ret2
  exact ⟨_, _, _, zs, p, rfl, hr⟩
end

end Go.Proofs.YtdipcjnnknggnaaGreatDoor
