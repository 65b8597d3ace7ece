/-
  Aq7.
-/
import Derived.Test.YtdipcjnnknggnaaGreatDoorPJ
namespace Go.Proofs.YtdipcjnnknggnaaGreatDoor
set_option maxRecDepth 100000
set_option linter.unusedVariables false
set_option linter.unusedSimpArgs false
set_option linter.unusedSectionVars false

/-! spec.ArrowLocal, spec.ArrowFrom. -/
section
open Go.RowKit Go.Maps

theorem obB_sg {zs : List (List Int)} {a : Int} (h : obB zs a = true) : sgS zs = true := by
  cases e : sgS zs
  · rw [obB_no e] at h; cases h
  · rfl
theorem frL_yes {zs : List (List Int)} {a b : Int} (h : sgS zs = true) : frL zs a b = zs.filter (btB a b) := by unfold frL; rw [sgl_yes h]
set_option maxHeartbeats 1000000 in
theorem specLoc_any (A : Option Addr) (n c : Nat) (zs : List (List Int)) (a : Int) (w : World) (h : RSS w A n zs) (hn : n ≤ 1048576) (hl : ∀ L ∈ zs, L.length ≤ 1048576) :
    Calls Tryz.prog 16 #[.slice A n c, .int .i64 a] w fun e w' => e = .returned (.tuple #[.int .i64 ((frL zs a a).length : Nat), .bool (obB zs a)]) ∧ Below w.heap.size w w' := by
  have hO := l7Object_any A n c zs a w h hn hl
  cases hb : obB zs a
  · have HF : Hid ((frL zs a a).length = 0) := by show _ = _; rw [frL_none hb]; rfl
    rw [hb] at hO
    clear hb
    go_enter Tryz.func16, Tryz.ntmps16
    go_wp2_with fail
    refine hO.mono ?_
    rintro e w1 ⟨rfl, hb1⟩
    clear hO
    go_wp2
    go_ret2
    exact ⟨by rw [HF.out]; rfl, hb1⟩
  · have hS := obB_sg hb
    have HF := Lib.hid (frL_yes (a := a) (b := a) hS)
    have hz : ∀ L ∈ zs, isC L = true := fun L hL => ((sgS_iff.1 hS).ch L hL).1
    rw [hb] at hO
    clear hb hS
    go_enter Tryz.func16, Tryz.ntmps16
    go_wp2_with fail
    refine hO.mono ?_
    rintro e w1 ⟨rfl, hb1⟩
    have hR := l7From_any A n c zs a a w1 (h.below hb1) hn hz
    rw [← HF.out] at hR
    clear hO h hz hl
    go_wp2_with fail
    refine hR.mono ?_
    rintro e w2 ⟨v, rfl, ho, hb2⟩
    obtain ⟨A2, c2, rfl⟩ := ho.slice
    have hB := hb1.trans (hb2.mono hb1.size)
    clear hR ho hb1 hb2
    go_wp2
    go_ret2
    exact ⟨rfl, hB⟩
set_option maxHeartbeats 1000000 in
theorem specFrm_any (A : Option Addr) (n c : Nat) (zs : List (List Int)) (a b : Int) (w : World) (h : RSS w A n zs) (hn : n ≤ 1048576) (hl : ∀ L ∈ zs, L.length ≤ 1048576) :
    Calls Tryz.prog 20 #[.slice A n c, .int .i64 a, .int .i64 b] w fun e w' => ∃ v, e = .returned (.tuple #[v, .bool (obB zs a && obB zs b)]) ∧ OSS w' w.heap.size w'.heap.size v (frL zs a b) ∧ Below w.heap.size w w' := by
  have hO := l7Object_any A n c zs a w h hn hl
  have hnone : ∀ w1, Below w.heap.size w w1 → OSS (w1.alloc (.cells #[] 30)) w.heap.size (w1.alloc (.cells #[] 30)).heap.size (.slice (some ⟨w1.heap.size, 0, none⟩) 0 0) [] := fun w1 hb => (OSS.lit0 w1).more hb.size (by simp)
  cases hb : obB zs a
  · have HF : Hid (frL zs a b = []) := frL_none hb
    rw [hb] at hO
    clear hb
    go_enter Tryz.func20, Tryz.ntmps20
    go_wp2_with fail
    refine hO.mono ?_
    rintro e w1 ⟨rfl, hb1⟩
    have HN := Lib.hid (hnone w1 hb1)
    clear hO hnone
    go_wp2
    go_ret2
    exact ⟨_, rfl, by rw [HF.out]; exact HN.out, hb1.alloc hb1.size _⟩
  · have hS := obB_sg hb
    have HFY := Lib.hid (frL_yes (a := a) (b := b) hS)
    have hz : ∀ L ∈ zs, isC L = true := fun L hL => ((sgS_iff.1 hS).ch L hL).1
    have HEB : Hid (obB zs b = false → frL zs a b = []) := fun e => by
      unfold frL
      rw [List.filter_eq_nil_iff]
      intro L hL h2
      unfold btB at h2
      rw [Bool.and_eq_true, decide_eq_true_eq, decide_eq_true_eq] at h2
      have hch := sgl_ch L hL
      have hT : tuL L ∈ sgl zs := by rw [sgl_yes hS] at hL ⊢; exact (sgS_iff.1 hS).tu L hL
      have : obB zs b = true := List.any_eq_true.2 ⟨tuL L, hT, decide_eq_true (by rw [← h2.2]; show ((doN (tuL L) : Nat) : Int) = ((raN L : Nat) : Int); rw [raN_tu hch.1])⟩
      rw [e] at this; cases this
    rw [hb] at hO
    have HX : Hid (∀ w1, Below w.heap.size w w1 → Calls Tryz.prog 42 #[.slice A n c, .int .i64 b] w1 fun e w' => e = .returned (.bool (obB zs b)) ∧ Below w1.heap.size w1 w') := fun w1 hb1 => l7Object_any A n c zs b w1 (h.below hb1) hn hl
    have HY : Hid (∀ w1, Below w.heap.size w w1 → Calls Tryz.prog 37 #[.slice A n c, .int .i64 a, .int .i64 b] w1 fun e w' => ∃ v, e = .returned v ∧ OSS w' w1.heap.size w'.heap.size v (frL zs a b) ∧ Below w1.heap.size w1 w') := fun w1 hb1 => by rw [HFY.out]; exact l7From_any A n c zs a b w1 (h.below hb1) hn hz
    clear hb hS h hz hl HFY
    cases hbb : obB zs b
    · have HF := Lib.hid (HEB.out hbb)
      rw [hbb] at HX
      clear hbb
      go_enter Tryz.func20, Tryz.ntmps20
      go_wp2_with fail
      refine hO.mono ?_
      rintro e w1 ⟨rfl, hb1⟩
      have hx := HX.out w1 hb1
      go_wp2_with fail
      refine hx.mono ?_
      rintro e w2 ⟨rfl, hb2⟩
      have hB2 := hb1.trans (hb2.mono hb1.size)
      have HN := Lib.hid (hnone w2 hB2)
      clear hO hnone hx hb1 hb2
      go_wp2
      go_ret2
      exact ⟨_, rfl, by rw [HF.out]; exact HN.out, hB2.alloc hB2.size _⟩
    · rw [hbb] at HX
      clear hbb hnone
      go_enter Tryz.func20, Tryz.ntmps20
      go_wp2_with fail
      refine hO.mono ?_
      rintro e w1 ⟨rfl, hb1⟩
      have hx := HX.out w1 hb1
      go_wp2_with fail
      refine hx.mono ?_
      rintro e w2 ⟨rfl, hb2⟩
      have hB2 := hb1.trans (hb2.mono hb1.size)
      have hs2 := hB2.size
      have hy := HY.out w2 hB2
      clear hO hx hb1 hb2
      go_wp2_with fail
      refine hy.mono ?_
      rintro e w3 ⟨v, rfl, ho, hb3⟩
      have HO := Lib.hid (ho.more hs2 (Nat.le_refl _))
      obtain ⟨A2, c2, rfl⟩ := ho.slice
      have hB3 := hB2.trans (hb3.mono hs2)
      clear hy ho hb3 hB2
      go_wp2
      go_ret2
      exact ⟨_, rfl, HO.out, hB3⟩
end

end Go.Proofs.YtdipcjnnknggnaaGreatDoor
