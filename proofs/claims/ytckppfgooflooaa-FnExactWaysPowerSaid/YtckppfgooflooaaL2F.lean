/-
  spec: all ways in one list.
-/
import Derived.Test.YtckppfgooflooaaL2E
namespace Go.Proofs.Ytckppfgooflooaa
set_option maxRecDepth 100000
open Go.RowKit

def chainsL (zs : List Int) : List (List Int) := if isC zs = true then chL (ofL zs) zs.length (raN zs) zs.length else []
def cyclesL (zs : List Int) : List (List Int) := if isC zs = true then cyL (ofL zs) zs.length (orSS 0 (chL (ofL zs) zs.length (raN zs) zs.length)) zs.length else []
def waysL (zs : List Int) : List (List Int) := chainsL zs ++ cyclesL zs
theorem inn_keep {w w1 : World} {base hi n : Nat} {v : Value} {xs vs : List Value} {Ls : List (List Int)} (h1 : w.ownsRow base 27 1 v n xs) (h3 : Inn w base hi vs Ls) (hgrow : w.grownBy w1 v.ownBlock) : Inn w1 base hi vs Ls := by
  refine h3.same fun i x hx g hg => hgrow.block g (h3.lt hx hg).2.2 (fun e => ?_)
  have hl : i < vs.length := (List.getElem?_eq_some_iff.1 hx).1
  have o := h3.own i x _ hx (List.getElem?_eq_getElem (show i < Ls.length by rw [← h3.len]; exact hl))
  rcases h1.2 with ⟨rfl, _⟩ | ⟨g', cap, cur, rfl, _, hh, _⟩
  · simp [Value.ownBlock] at e
  · have : g = g' := by simpa [Value.ownBlock] using e
    subst this
    exact own_blk_ne o.1 hh (by decide) hg
theorem inn_one {w : World} {base hi : Nat} {vs : List Value} {Ls : List (List Int)} (h : Inn w base hi vs Ls) : ∀ u ∈ vs, u.oneCell' = true := fun u hu => by
  obtain ⟨i, hi', e⟩ := List.getElem_of_mem hu
  have o := h.own i u _ (by rw [List.getElem?_eq_getElem hi', e]) (List.getElem?_eq_getElem (show i < Ls.length by rw [← h.len]; exact hi'))
  obtain ⟨A, c, rfl⟩ := o.slice
  simp [Value.oneCell']
theorem inn_right {w : World} {base hi : Nat} {vs us : List Value} {Ls Ms : List (List Int)} (hl : vs.length = Ls.length) (h : Inn w base hi (vs ++ us) (Ls ++ Ms)) : Inn w base hi us Ms := by
  have hlen := h.len
  simp only [List.length_append] at hlen
  refine ⟨by omega, fun i u L hu hL => h.own (vs.length + i) u L (by rw [List.getElem?_append_right (by omega)]; simpa using hu) (by rw [List.getElem?_append_right (by omega), hl]; simpa using hL), fun i j u u' g hij hu hu' => ?_⟩
  exact h.apart (vs.length + i) (vs.length + j) u u' g (by omega) (by rw [List.getElem?_append_right (by omega)]; simpa using hu) (by rw [List.getElem?_append_right (by omega)]; simpa using hu')
theorem inn_left {w : World} {base hi : Nat} {vs us : List Value} {Ls Ms : List (List Int)} (hl : vs.length = Ls.length) (h : Inn w base hi (vs ++ us) (Ls ++ Ms)) : Inn w base hi vs Ls := by
  refine ⟨hl, fun i u L hu hL => ?_, fun i j u u' g hij hu hu' => ?_⟩
  · have h1 := (List.getElem?_eq_some_iff.1 hu).1
    exact h.own i u L (by rw [List.getElem?_append_left h1]; exact hu) (by rw [List.getElem?_append_left (by omega)]; exact hL)
  · have h1 := (List.getElem?_eq_some_iff.1 hu).1
    have h2 := (List.getElem?_eq_some_iff.1 hu').1
    exact h.apart i j u u' g hij (by rw [List.getElem?_append_left h1]; exact hu) (by rw [List.getElem?_append_left h2]; exact hu')
/-- chains ahead of cycles, in one list -/
theorem two_join {w w1 : World} {base : Nat} {v1 v' : Value} {Cs Ys : List (List Int)} {vs1 vs2 : List Value} (h1 : w.ownsRow base 27 1 v1 Cs.length vs1) (h5 : Inn w base w.heap.size (vs1 ++ vs2) (Cs ++ Ys))
    (hown' : w1.ownsRow base 27 1 v' (Cs.length + Ys.length) (vs1 ++ vs2)) (hgrow : w.grownBy w1 v1.ownBlock) : OSS w1 base w1.heap.size v' (Cs ++ Ys) :=
  ⟨vs1 ++ vs2, by rw [List.length_append]; exact hown', fun g hg => (hown'.lt g hg).2, (inn_keep h1 h5 hgrow).more (Nat.le_refl _) hgrow.size⟩
theorem own_two_slice {w : World} {base n : Nat} {e : TypeId} {v : Value} {xs : List Value} (h : w.ownsRow base e 1 v n xs) (hne : v ≠ .slice none 0 0) : ∃ (g c : Nat), v = .slice (some ⟨g, 0, none⟩) n c := by
  rcases h.2 with ⟨rfl, rfl⟩ | ⟨g, cap, cur, rfl, _⟩
  · exact absurd rfl hne
  · exact ⟨_, _, rfl⟩

set_option maxHeartbeats 1000000 in
theorem specWays_any (A : Option Addr) (n c : Nat) (zs : List Int) (w : World) (h : RI w A n zs) (hn : n ≤ 1048576) :
    Calls Try.prog 18 #[.slice A n c] w fun e w' => ∃ v, e = .returned (.tuple #[v, .bool (isC zs)]) ∧ OSS w' w.heap.size w'.heap.size v (waysL zs) ∧ Below w.heap.size w w' := by
  cases hC : isC zs
  · have HL : Hid (waysL zs = []) := by show _ = _; simp [waysL, chainsL, cyclesL, hC]
    have HC := Lib.hid hC
    clear hC
    go_enter Try.func18, Try.ntmps18
    go_wp2_with fail
    refine (specIn_any _ _ _ _ _ h hn).mono ?_
    rintro e w1 ⟨rfl, rfl⟩
    rw [HC.out]
    go_wp2
    go_ret2
    refine ⟨_, rfl, ?_, (Below.refl _ _).alloc (Nat.le_refl _) _⟩
    rw [HL.out]; exact (OSS.lit0 _).more (Nat.le_refl _) (by simp)
  · obtain rfl := h.len
    obtain ⟨i1, hj, hj0, hj1, hj2⟩ := info_parts info_partsS
    have h6 := (isC_len hC).2
    have HL : Hid (chL (ofL zs) zs.length (raN zs) zs.length ++ cyL (ofL zs) zs.length (orSS 0 (chL (ofL zs) zs.length (raN zs) zs.length)) zs.length = waysL zs) := by
      show _ = _; unfold waysL chainsL cyclesL; rw [if_pos hC, if_pos hC]
    have HC := Lib.hid hC
    clear hC
    go_enter Try.func18, Try.ntmps18
    go_wp2_with fail
    refine (specIn_any _ _ _ _ _ h hn).mono ?_
    rintro e w1 ⟨rfl, rfl⟩
    rw [HC.out]
    go_wp2_with fail
    refine (l2Ways_any _ _ _ _ _ h HC.out).mono ?_
    rintro e w1 ⟨v1, v2, rfl, hne, ⟨vs1, vs2, a1, a2, a3, a4, a5⟩, hB⟩
    have hc1 := chL_le (ofL zs) zs.length (raN zs) zs.length
    have hc2 := cyL_le (ofL zs) zs.length (orSS 0 (chL (ofL zs) zs.length (raN zs) zs.length)) zs.length
    generalize cyL (ofL zs) zs.length (orSS 0 (chL (ofL zs) zs.length (raN zs) zs.length)) zs.length = Ys at a2 a5 hc2 HL
    generalize chL (ofL zs) zs.length (raN zs) zs.length = Cs at a1 a4 a5 hc1 HL
    obtain ⟨g2, c2, rfl⟩ := own_two_slice a2 hne
    have hone := inn_one (inn_right a4 a5)
    have hvl : vs2.length = Ys.length * 1 := a2.1
    have hcl := a2.cells (g := g2) rfl
    have p2 : Cs.length + Ys.length ≤ maxLen := by unfold maxLen; omega
    have p3 : (Cs.length + Ys.length) * 24 ≤ 140737488355328 := by omega
    have p4 := hB.size
    clear hne
    go_wp2_with (at_builtin; refine wpList_append_own_at _ rfl _ _ 28 rfl w.heap.size 27 i1 (.slice none 0 0) 1 24 Try.underlying28 hj hj0 hj1 hj2 rfl (by decide) _ _ _ rfl a1 ⟨g2, 0, none⟩ Ys.length c2 vs2 rfl hvl hcl hone p2 p3 p4 ?_; intro v' w4 hown' hgrow _ hat)
    have hO := two_join a1 a5 hown' hgrow
    have hB4 := hB.grown hgrow p4 (fun g hg => (a1.lt g hg).1)
    rw [HL.out] at hO
    have HO := Lib.hid hO
    have HB := Lib.hid hB4
    clear hO hB4 hown' hgrow hat a1 a2 a3 a5 hcl hone
    try go_wp2
    go_ret2
    exact ⟨_, rfl, HO.out, HB.out⟩
end Go.Proofs.Ytckppfgooflooaa
